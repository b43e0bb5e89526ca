/-
  Ghost lists (layer 28), the reference: Resize.
-/
import Derived.Test.YtggimkfepcgaoaaArqK
import Derived.Deep.CutBlock
import Derived.Deep.DeepCutAuto
import Derived.Deep.LoopGhost
set_option linter.unusedVariables false
set_option linter.unusedSimpArgs false
section
namespace Go.Proofs.Ytggimkfepcgaoaa.Gho
open Go Go.RowKit Kit Go.Maps Lnk
/-- the loop of Resize: t keys are left -/
structure Rl (w wr : World) (p0 : Option Addr) (M : Int) (l : List Nat) (t : Nat) (p : Option Addr) (c : Nat) (ov : Value) : Prop where
  nb : ∀ y, p = some y → y.block < wr.heap.size ∧ (p = p0 ∨ w.heap.size + 1 + 1 ≤ y.block)
  bx : wr.heap[w.heap.size]? = some (.cells #[.int .i64 M, .slice p t c] 69 (0, 0))
  b1 : wr.heap[w.heap.size + 1]? = some (.cells #[.int .i64 0, .slice none 0 0] 69 (0, 0))
  ru : Ru wr p (ints (l.take t))
  row : wr.ownsRow (w.heap.size + 1 + 1) 38 1 ov (l.length - t) ((ints (l.drop t).reverse).map (Value.int .u32))
  bl : Below w.heap.size w wr
  ne : ∀ y g, p = some y → ov.ownBlock = some g → y.block ≠ g
  tl : t ≤ l.length
  tc : t ≤ c
theorem Ru.kpH {w w' : World} {p : Option Addr} {l : List Int} {bad : Nat → Prop} (h : Ru w p l) (hk : Kp bad w w') (hb : ∀ y, p = some y → ¬ bad y.block) : Ru w' p l := fun i x hx => by
  obtain ⟨y, h0, h1, h2⟩ := h i x hx
  refine ⟨y, h0, Nat.lt_of_lt_of_le h1 hk.size, (World.cell?_of_block (a := y.add i) ?_).trans h2⟩
  rw [show (y.add i).block = y.block by unfold Addr.add; split <;> rfl]
  exact hk.block _ h1 (hb y h0)
theorem Rl.cells {w wr : World} {p0 : Option Addr} {M : Int} {l : List Nat} {t : Nat} {p : Option Addr} {c : Nat} {ov : Value} (h : Rl w wr p0 M l t p c ov) : wr.cell? ⟨w.heap.size, 0, none⟩ = some (.int .i64 M) ∧ wr.cell? ⟨w.heap.size, 1, none⟩ = some (.slice p t c) ∧ wr.cell? ⟨w.heap.size + 1, 0, none⟩ = some (.int .i64 0) ∧ wr.cell? ⟨w.heap.size + 1, 1, none⟩ = some (.slice none 0 0) ∧ (∀ j, wr.frozen? ⟨w.heap.size, j, none⟩ = false) ∧ (∀ j, wr.frozen? ⟨w.heap.size + 1, j, none⟩ = false) := by
  have h1 := h.bx
  have h2 := h.b1
  refine ⟨?_, ?_, ?_, ?_, fun j => ?_, fun j => ?_⟩ <;> simp [World.cell?, World.frozen?, h1, h2]
set_option maxRecDepth 100000 in
set_option maxHeartbeats 2000000 in
theorem rresize_any {w : World} {p : Option Addr} {n c : Nat} {l : List Nat} (most : Int) (M : Nat) (hM : M ≤ 4096) (hl : l.length = n) (hn : n ≤ 100000) (hc : n ≤ c) (hpb : ∀ y, p = some y → y.block < w.heap.size) (r : Ru w p (ints l)) :
    Calls Try.prog 112 #[rg most p n c, .int .i64 (M : Int)] w fun e w' => ∃ q k ov, e = .returned (.tuple #[rg (M : Int) q (min M l.length) k, ov, .int .i64 0]) ∧ min M l.length ≤ k ∧ Ru w' q (ints (l.take M)) ∧ (∀ y, q = some y → y.block < w'.heap.size ∧ (q = p ∨ w.heap.size ≤ y.block)) ∧ w'.ownsRow w.heap.size 38 1 ov (l.length - M) ((ints (l.drop M).reverse).map (Value.int .u32)) ∧ Below w.heap.size w w' := by
  have HI := Lib.hid (show M ≤ 4096 ∧ l.length = n ∧ n ≤ 100000 ∧ n ≤ c from ⟨hM, hl, hn, hc⟩)
  have g0 : ¬ (M : Int) < 0 := by omega
  have g1 : ¬ 4096 < (M : Int) := by omega
  have HR := Lib.hid (And.intro r hpb)
  obtain ⟨i0, hi0, hz0, hz1, hz2⟩ := u_parts
  clear hM hl hn hc r hpb
  go_enter Try.func112, Try.ntmps112
  go_wp2_with fail
  have hb2 : Below w.heap.size w ((w.alloc (.cells #[.int .i64 (M : Int), .slice p n c] 69)).alloc (.cells #[.int .i64 0, .slice none 0 0] 69)) := by go_grown
  have htb := two_boxes (w := w) (most := (M : Int)) (v := .slice p n c)
  generalize (w.alloc (.cells #[.int .i64 (M : Int), .slice p n c] 69)).alloc (.cells #[.int .i64 0, .slice none 0 0] 69) = w2 at *
  have R0 := Lib.hid (show Rl w w2 p (M : Int) l n p c (.slice none 0 0) by
    obtain ⟨h1, h2, h3, h4⟩ := HI.out
    refine ⟨fun y hy => ⟨Nat.lt_of_lt_of_le (HR.out.2 y hy) hb2.size, .inl rfl⟩, htb.1, htb.2, ?_, ?_, hb2, fun y g _ hg => (by cases hg), by omega, h4⟩
    · rw [List.take_of_length_le (by omega)]; exact HR.out.1.below hb2
    · rw [List.drop_of_length_le (by omega), show l.length - n = 0 by omega]
      exact World.ownsRow_nil _ _ _ _)
  have HPB := Lib.hid HR.out.2
  clear hb2 htb HR
  go_loopg [7, 8, 9, 10] n (fun t ov _ _ _ wr => ∃ (c' : Nat) (p' : Option Addr), Hid (Rl w wr p (M : Int) l t p' c' ov) ∧ Hid (M ≤ t ∨ t = n))
  case atStart => exact ⟨c, p, R0, Lib.hid (.inr rfl)⟩
  case round =>
    obtain ⟨c', p', HL, HM⟩ := hrel
    clear R0
    obtain ⟨f0, f1, f2, f3, f4, f5⟩ := HL.out.cells
    by_cases hlt : M < gk
    · obtain ⟨m, rfl⟩ : ∃ m, gk = m + 1 := ⟨gk - 1, by omega⟩
      have htl := HL.out.tl
      obtain ⟨x, hx⟩ : ∃ x, l[m]? = some x := ⟨l[m]'(by omega), List.getElem?_eq_getElem _⟩
      have hts : l.take (m + 1) = l.take m ++ [x] := by rw [List.take_add_one, hx]; rfl
      have hru := HL.out.ru
      rw [hts] at hru
      have HP := Lib.hid (rpop_some (M : Int) (show (l.take m).length = m by rw [List.length_take]; omega) (by have := HI.out; omega) HL.out.tc hru)
      have HX := Lib.hid hx
      have hlt' : (M : Int) < ((m + 1 : Nat) : Int) := by omega
      obtain ⟨T, hT⟩ : ∃ T, m + 1 = T := ⟨_, rfl⟩
      rw [hT] at HP f1 hlt'
      clear htl hx hts hru
      go_wp2_with fail
      refine HP.out.mono ?_
      rintro e w4 ⟨q, k, rfl, hrow, b4⟩
      obtain ⟨_, _, hcv, -, hqk⟩ := App.own_form hrow
      cases hcv
      have R4 := Lib.hid (show w4.heap[w.heap.size]? = some (.cells #[.int .i64 (M : Int), .slice p' T c'] 69 (0, 0)) ∧ w4.heap[w.heap.size + 1]? = some (.cells #[.int .i64 0, .slice none 0 0] 69 (0, 0)) ∧ Below w.heap.size w w4 ∧ w.heap.size + 1 + 1 ≤ wr.heap.size ∧ wr.heap.size ≤ w4.heap.size from by
        have h1 := (Array.getElem?_eq_some_iff.1 HL.out.b1).1
        have h2 := HL.out.bx
        rw [hT] at h2
        exact ⟨(b4.block _ (by omega)).trans h2, (b4.block _ (by omega)).trans HL.out.b1, HL.out.bl.trans (b4.mono (by omega)), by omega, b4.size⟩)
      have ROW := Lib.hid hrow
      have OV := Lib.hid (row_kp HL.out.row fun g hg => b4.block g (HL.out.row.lt g hg).2)
      have OVL := Lib.hid (fun g hg => (HL.out.row.lt g hg).2)
      obtain ⟨d0, d1, d2, d3, d4, d5⟩ : w4.cell? ⟨w.heap.size, 0, none⟩ = some (.int .i64 (M : Int)) ∧ w4.cell? ⟨w.heap.size, 1, none⟩ = some (.slice p' T c') ∧ w4.cell? ⟨w.heap.size + 1, 0, none⟩ = some (.int .i64 0) ∧ w4.cell? ⟨w.heap.size + 1, 1, none⟩ = some (.slice none 0 0) ∧ (∀ j, w4.frozen? ⟨w.heap.size, j, none⟩ = false) ∧ (∀ j, w4.frozen? ⟨w.heap.size + 1, j, none⟩ = false) := by have h1 := R4.out.1; have h2 := R4.out.2.1; refine ⟨?_, ?_, ?_, ?_, fun j => ?_, fun j => ?_⟩ <;> simp [World.cell?, World.frozen?, h1, h2]
      have b5 : Below w4.heap.size w4 (w4.alloc (.cells #[.int .i64 (M : Int), .slice q m k] 69)) := by go_grown
      have h50 := (b5.block w.heap.size (by have := R4.out; omega)).trans R4.out.1
      obtain ⟨e0, e1, e2⟩ : (w4.alloc (.cells #[.int .i64 (M : Int), .slice q m k] 69)).cell? ⟨w.heap.size, 0, none⟩ = some (.int .i64 (M : Int)) ∧ (w4.alloc (.cells #[.int .i64 (M : Int), .slice q m k] 69)).cell? ⟨w.heap.size, 1, none⟩ = some (.slice p' T c') ∧ (∀ j, (w4.alloc (.cells #[.int .i64 (M : Int), .slice q m k] 69)).frozen? ⟨w.heap.size, j, none⟩ = false) := by refine ⟨?_, ?_, fun j => ?_⟩ <;> simp only [World.cell?, World.frozen?, h50] <;> simp
      have H50 := Lib.hid h50
      have B5 := Lib.hid b5
      clear f0 f1 f2 f3 f4 f5 HP hrow b4 d2 d3 d4 d5 h50 b5
      go_upto_region 8 with fail
      have h8a := heap_set (j := 1) (heap_set (j := 0) H50.out (.int .i64 (M : Int))) (.slice q m k)
      have hk8 : Kp (fun j => j = w.heap.size) w4 (((w4.alloc (.cells #[.int .i64 (M : Int), .slice q m k] 69)).setCell ⟨w.heap.size, 0, none⟩ (.int .i64 (M : Int))).setCell ⟨w.heap.size, 1, none⟩ (.slice q m k)) := by
        have hb := B5.out
        refine ⟨hb.os, hb.tape, hb.output, by simp only [World.size_setCell]; exact hb.size, fun j hj hn => ?_⟩
        rw [Below.heap_setCell _ ⟨w.heap.size, 1, none⟩ _ j hn, Below.heap_setCell _ ⟨w.heap.size, 0, none⟩ _ j hn]
        exact hb.block j hj
      have hsz8 : (((w4.alloc (.cells #[.int .i64 (M : Int), .slice q m k] 69)).setCell ⟨w.heap.size, 0, none⟩ (.int .i64 (M : Int))).setCell ⟨w.heap.size, 1, none⟩ (.slice q m k)).heap.size = w4.heap.size + 1 := by simp
      generalize ((w4.alloc (.cells #[.int .i64 (M : Int), .slice q m k] 69)).setCell ⟨w.heap.size, 0, none⟩ (.int .i64 (M : Int))).setCell ⟨w.heap.size, 1, none⟩ (.slice q m k) = w8 at *
      obtain ⟨ova, ovc, rfl, -, -⟩ := App.own_form OV.out
      have hov : ∀ g, (Value.slice ova (l.length - (m + 1)) ovc).ownBlock = some g → w.heap.size + 1 + 1 ≤ g ∧ g < wr.heap.size := fun g hg => ⟨(OV.out.lt g hg).1, OVL.out g hg⟩
      have X8 := Lib.hid (show w8.heap[w.heap.size]? = some (.cells #[.int .i64 (M : Int), .slice q m k] 69 (0, 0)) ∧ w8.heap[w.heap.size + 1]? = some (.cells #[.int .i64 0, .slice none 0 0] 69 (0, 0)) ∧ Below w.heap.size w w8 ∧ w8.ownsRow wr.heap.size 38 1 (.slice q m k) m ((ints (l.take m)).map (Value.int .u32)) ∧ w.heap.size + 1 + 1 ≤ wr.heap.size ∧ wr.heap.size ≤ w8.heap.size from by
        obtain ⟨h1, h2, h3, h4, h5⟩ := R4.out
        refine ⟨h8a, (hk8.block _ (by omega) (by omega)).trans h2, ?_, row_kp ROW.out fun g hg => hk8.block g (ROW.out.lt g hg).2 (by have := (ROW.out.lt g hg).1; omega), h4, by have := hk8.size; omega⟩
        exact ⟨hk8.os.trans h3.os, hk8.tape.trans h3.tape, hk8.output.trans h3.output, Nat.le_trans h3.size hk8.size, fun j hj => (hk8.block j (by omega) (by omega)).trans (h3.block j hj)⟩)
      have O8 := Lib.hid (row_kp OV.out (w' := w8) fun g hg => hk8.block g (OV.out.lt g hg).2 (by have := (hov g hg).1; omega))
      have HOV := Lib.hid hov
      have HRW := Lib.hid (O8.out.alloc (.cells #[.int .u32 (x : Int)] 38))
      have B9 := Lib.hid (box_below w8 #[.int .u32 (x : Int)] 38)
      clear d0 d1 e0 e1 e2 h8a hk8 hsz8 hov H50 B5 R4 ROW OV OVL
      go_wp2_with (at_builtin; refine wpList_append_own_at _ rfl (.tmp 32) (.tmp 34) 39 rfl (w.heap.size + 1 + 1) 38 i0 (.int .u32 0) 1 4 Try.underlying39 hi0 hz0 hz1 hz2 rfl (by decide) (.slice ova (l.length - (m + 1)) ovc) (l.length - (m + 1)) ((ints (l.drop (m + 1)).reverse).map (Value.int .u32)) rfl HRW.out ⟨w8.heap.size, 0, none⟩ 1 1 [.int .u32 (x : Int)] rfl rfl (cell_one_new _ _ _) (by simp [Value.oneCell']) (by have := HI.out; unfold maxLen; omega) (by have := HI.out; omega) (by have := X8.out.2.2.2.2; simp; omega) ?_; intro v' w9 ho9 hg9 hn9 hv9; have HG := Lib.hid (show w9.ownsRow (w.heap.size + 1 + 1) 38 1 v' (l.length - (m + 1) + 1) ((ints (l.drop (m + 1)).reverse).map (Value.int .u32) ++ [.int .u32 (x : Int)]) ∧ (w8.alloc (.cells #[.int .u32 (x : Int)] 38)).grownBy w9 (Value.slice ova (l.length - (m + 1)) ovc).ownBlock ∧ (v'.ownBlock = (Value.slice ova (l.length - (m + 1)) ovc).ownBlock ∨ v'.ownBlock = some (w8.alloc (.cells #[.int .u32 (x : Int)] 38)).heap.size) from ⟨ho9, hg9, hv9⟩); clear ho9 hg9 hn9 hv9)
      go_roundg m
      case measure => omega
      case rel =>
        obtain ⟨g1, g2, g3⟩ := HG.out
        obtain ⟨h1, h2, h3, h4, h5, h6⟩ := X8.out
        have hlm := (List.getElem?_eq_some_iff.1 HX.out).1
        have b9 := B9.out
        have hs9 := b9.size
        have hs10 := g2.size
        have hkeep : ∀ j, j < w8.heap.size → (∀ g, (Value.slice ova (l.length - (m + 1)) ovc).ownBlock = some g → j ≠ g) → w9.heap[j]? = w8.heap[j]? := fun j hj hne => (g2.block j (by omega) (fun e => hne j e.symm rfl)).trans (b9.block j hj)
        have row9 := row_kp h4 (w' := w9) fun g hg => hkeep g (h4.lt g hg).2 (fun g' hg' => by have := (HOV.out g' hg').2; have := (h4.lt g hg).1; omega)
        obtain ⟨q', c9, hqv, ru9, hqb⟩ := row_ruH row9 (by rw [ints_len, List.length_take]; omega)
        cases hqv
        have hqn : ∀ y, q = some y → y.block < w9.heap.size ∧ (q = p ∨ w.heap.size + 1 + 1 ≤ y.block) := fun y hy => by
          have h7 := hqb y hy
          subst hy
          have h8 := (h4.lt y.block rfl).2
          exact ⟨by omega, .inr (by omega)⟩
        refine ⟨k, q, Lib.hid ⟨hqn, ?_, ?_, ru9, ?_, ?_, ?_, by omega, hqk⟩, Lib.hid (.inl (by omega))⟩
        · exact (hkeep _ (by omega) (fun g hg => by have := (HOV.out g hg).1; omega)).trans h1
        · exact (hkeep _ (by omega) (fun g hg => by have := (HOV.out g hg).1; omega)).trans h2
        · have e1 : l.length - m = l.length - (m + 1) + 1 := by omega
          have e2 : (ints (l.drop m).reverse).map (Value.int .u32) = (ints (l.drop (m + 1)).reverse).map (Value.int .u32) ++ [.int .u32 (x : Int)] := by
            have : l.drop m = x :: l.drop (m + 1) := by rw [List.drop_eq_getElem_cons hlm]; congr 1; exact (List.getElem?_eq_some_iff.1 HX.out).2
            rw [this, List.reverse_cons]
            unfold ints
            simp
          rw [e1, e2]
          exact g1
        · exact ⟨g2.os.trans (b9.os.trans h3.os), g2.tape.trans (b9.tape.trans h3.tape), g2.output.trans (b9.output.trans h3.output), by omega, fun j hj => (hkeep j (by omega) (fun g hg => by have := (HOV.out g hg).1; omega)).trans (h3.block j hj)⟩
        · intro y g hy hg
          have hyb := hqb y hy
          have hylt : y.block < w8.heap.size := by
            subst hy
            exact (h4.lt y.block rfl).2
          rcases g3 with g3 | g3
          · rw [g3] at hg
            have := (HOV.out g hg).2
            omega
          · rw [g3] at hg
            cases hg
            omega
    · have hlt' : ¬ (M : Int) < (gk : Int) := by omega
      have hgn : gk = M ∨ (gk = n ∧ n ≤ M) := by have := HM.out; omega
      have e1 : l.take gk = l.take M ∧ l.drop gk = l.drop M ∧ l.length - gk = l.length - M ∧ gk = min M l.length := by
        obtain ⟨h1, h2, h3, h4⟩ := HI.out
        rcases hgn with rfl | ⟨rfl, h⟩
        · exact ⟨rfl, rfl, rfl, by have := HL.out.tl; omega⟩
        · rw [List.take_of_length_le (by omega), List.take_of_length_le (by omega), List.drop_of_length_le (by omega), List.drop_of_length_le (by omega)]
          exact ⟨rfl, rfl, by omega, by omega⟩
      have E1 := Lib.hid e1
      have L9 := Lib.hid (show w.heap.size + 1 + 1 ≤ wr.heap.size from by have := (Array.getElem?_eq_some_iff.1 HL.out.b1).1; omega)
      clear hlt hgn e1
      go_wp2_with fail
      have hk := HL.out
      have hbl := (hk.bl.setCell (p := ⟨w.heap.size + 1, 0, none⟩) (by show w.heap.size ≤ w.heap.size + 1; omega) (.int .i64 (M : Int))).setCell (p := ⟨w.heap.size + 1, 1, none⟩) (by show w.heap.size ≤ w.heap.size + 1; omega) (.slice p' gk c')
      have hfin := heap_set (j := 1) (heap_set (j := 0) hk.b1 (.int .i64 (M : Int))) (.slice p' gk c')
      have hot : ∀ g, g ≠ w.heap.size + 1 → ((wr.setCell ⟨w.heap.size + 1, 0, none⟩ (.int .i64 (M : Int))).setCell ⟨w.heap.size + 1, 1, none⟩ (.slice p' gk c')).heap[g]? = wr.heap[g]? := fun g hg => by
        rw [Below.heap_setCell _ ⟨w.heap.size + 1, 1, none⟩ _ g hg, Below.heap_setCell _ ⟨w.heap.size + 1, 0, none⟩ _ g hg]
      have hsz : ((wr.setCell ⟨w.heap.size + 1, 0, none⟩ (.int .i64 (M : Int))).setCell ⟨w.heap.size + 1, 1, none⟩ (.slice p' gk c')).heap.size = wr.heap.size := by simp
      generalize (wr.setCell ⟨w.heap.size + 1, 0, none⟩ (.int .i64 (M : Int))).setCell ⟨w.heap.size + 1, 1, none⟩ (.slice p' gk c') = w6 at *
      obtain ⟨z0, z1⟩ : w6.cell? ⟨w.heap.size + 1, 0, none⟩ = some (.int .i64 (M : Int)) ∧ w6.cell? ⟨w.heap.size + 1, 1, none⟩ = some (.slice p' gk c') := by constructor <;> simp [World.cell?, hfin]
      obtain ⟨e1, e2, e3, e4⟩ := E1.out
      refine bodyPost_ret (v := .tuple #[rg (M : Int) p' gk c', u7, .int .i64 0]) (by simp [results, Try.results112, go_sem, z0, z1]) rfl ⟨p', c', u7, by rw [← e4], by rw [← e4]; exact hk.tc, ?_, ?_, ?_, hbl⟩
      · have hk6 : Kp (fun j => j = w.heap.size + 1) wr w6 := ⟨hbl.os.trans hk.bl.os.symm, hbl.tape.trans hk.bl.tape.symm, hbl.output.trans hk.bl.output.symm, by omega, fun j _ hj => hot j hj⟩
        rw [← e1]
        refine Ru.kpH hk.ru hk6 fun y hy => ?_
        have h1 := (hk.nb y hy).2
        rcases h1 with h1 | h1
        · have := HPB.out y (by rw [← h1]; exact hy)
          omega
        · omega
      · intro y hy
        have h1 := hk.nb y hy
        exact ⟨by omega, h1.2.imp id (by omega)⟩
      · have := hk.row
        rw [e2, e3] at this
        refine App.own_lift (row_kp this fun g hg => hot g ?_) (by omega)
        have := (this.lt g hg).1
        omega
end Go.Proofs.Ytggimkfepcgaoaa.Gho
end
section
namespace Go.Proofs.Ytggimkfepcgaoaa.Gho
open Go Go.RowKit Kit Go.Maps Lnk
set_option maxRecDepth 100000 in
set_option maxHeartbeats 2000000 in
theorem rresize_bad {w : World} {p : Option Addr} {n c : Nat} (most M : Int) (hM : ¬ (0 ≤ M ∧ M ≤ 4096)) :
    Calls Try.prog 112 #[rg most p n c, .int .i64 M] w fun e w' => e = .returned (.tuple #[rg most p n c, .slice none 0 0, .int .i64 2]) ∧ Below w.heap.size w w' := by
  by_cases h0 : M < 0
  · clear hM
    go_enter Try.func112, Try.ntmps112
    go_wp2_with fail
    exact bodyPost_ret (v := .tuple #[rg most p n c, .slice none 0 0, .int .i64 2]) (by simp [results, Try.results112, go_sem]) rfl ⟨rfl, by go_grown⟩
  · have h1 : 4096 < M := by omega
    clear hM
    go_enter Try.func112, Try.ntmps112
    go_wp2_with fail
    exact bodyPost_ret (v := .tuple #[rg most p n c, .slice none 0 0, .int .i64 2]) (by simp [results, Try.results112, go_sem]) rfl ⟨rfl, by go_grown⟩
theorem says_true {e : Ending} {p : Prop} (h : Says e p) (hp : p) : e = .returned (.bool true) := by
  obtain ⟨v, rfl, hv⟩ := h
  cases v with
  | true => rfl
  | false => exact by have := hv.2 hp; cases this
set_option maxRecDepth 100000 in
set_option maxHeartbeats 4000000 in
theorem equal28 {w0 w : World} {b K B : Nat} {most : Int} {keys : List Nat} {X : Nat → Prop} {p : Option Addr} {n c k : Nat} (h : Gx w0 w b K B most keys X) (hl : keys.length = n) (hn : n ≤ 100000) (r : Ru w p (ints keys)) (hk : k < 4294967296) :
    Calls Try.prog 114 #[.pointer (some ⟨b, 0, none⟩), rg most p n c, .int .u32 (k : Int)] w fun e w' => e = .returned (.bool true) ∧ Below w.heap.size w w' := by
  have b0 : Below w.heap.size w (w.alloc (.cells #[.int .i64 most, .slice p n c] 69)) := by go_grown
  have HX := Lib.hid (show (w.alloc (.cells #[.int .i64 most, .slice p n c] 69)).heap[w.heap.size]? = some (.cells #[.int .i64 most, .slice p n c] 69 (0, 0)) from (MapKept.heap_alloc w _).1)
  have HG := Lib.hid (fun u (hb : Below w.heap.size w u) => h.below' hb)
  have HR := Lib.hid (fun u (hb : Below w.heap.size w u) => r.below hb)
  have HI := Lib.hid (show keys.length = n ∧ n ≤ 100000 ∧ k < 4294967296 from ⟨hl, hn, hk⟩)
  have B0 := Lib.hid b0
  obtain ⟨z, hz⟩ : ∃ z : Int, (k : Int) = z := ⟨_, rfl⟩
  have HZ := Lib.hid hz
  rw [hz]
  obtain ⟨t, ht⟩ : ∃ t, decide (k ∈ keys) = t := ⟨_, rfl⟩
  have HT := Lib.hid ht
  have htt : (t == t) = true := by cases t <;> rfl
  clear h r hl hn hk b0 hz ht
  go_enter Try.func114, Try.ntmps114
  go_wp2_with fail
  have hs1 : (w.alloc (.cells #[.int .i64 most, .slice p n c] 69)).heap.size = w.heap.size + 1 := by simp
  generalize w.alloc (.cells #[.int .i64 most, .slice p n c] 69) = w1 at *
  have HS := Lib.hid (fun u (hb : Below w1.heap.size w1 u) => (show u.cell? ⟨w.heap.size, 0, none⟩ = some (.int .i64 most) ∧ u.cell? ⟨w.heap.size, 1, none⟩ = some (.slice p n c) ∧ Hid (Below w1.heap.size w1 u) from by
    have h1 := (hb.block w.heap.size (by omega)).trans HX.out
    refine ⟨?_, ?_, Lib.hid hb⟩ <;> simp [World.cell?, h1]))
  have HB := Lib.hid (fun u (hb : Hid (Below w1.heap.size w1 u)) => B0.out.trans (hb.out.mono (by omega)))
  have T1 := Lib.hid (Below.drew (Below.refl w1.heap.size w1))
  clear HX hs1
  go_region_held3 (fun u => u.cell? ⟨w.heap.size, 0, none⟩ = some (.int .i64 most) ∧ u.cell? ⟨w.heap.size, 1, none⟩ = some (.slice p n c) ∧ Hid (Below w1.heap.size w1 u))
    (first
      | assumption
      | exact ⟨by assumption, by assumption, by assumption⟩
      | exact HS.out _ (Below.drew (Below.refl _ _))
      | fail)
    (first
      | (go_at_call 143; (try rw [← HZ.out]); refine (rhas_any (c := c) most HI.out.1 (by have := HI.out; omega) (HR.out _ (HB.out _ T6)) k).mono ?_; rintro e u7 ⟨rfl, b7⟩; rw [HT.out]; obtain ⟨s1, s2, T7⟩ := HS.out _ (tr T6.out b7); clear b7)
      | (go_at_call 47; rw [← HZ.out]; refine (Gx.has (HG.out _ (HB.out _ T5)) k HI.out.2.2).mono ?_; rintro e u6 ⟨rfl, rfl⟩; rw [HT.out]; have T6 := T5)
      | (go_at_call 41; refine (Gx.bound (HG.out _ (HB.out _ T4))).mono ?_; rintro e u5 ⟨rfl, rfl⟩; have T5 := T4)
      | (go_at_call 42; refine (Gx.len (HG.out _ (HB.out _ T3))).mono ?_; rintro e u4 ⟨rfl, rfl⟩; rw [HI.out.1]; have T4 := T3)
      | (go_at_call 107; refine (rsame_any (l1 := ints keys) (l2 := ints keys) (by rw [ints_len]; exact HI.out.1) (by rw [ints_len]; exact HI.out.1) RK.out (HR.out _ (HB.out _ T2)) (by have := HI.out; omega) (by have := HI.out; omega)).mono ?_; rintro e u3 ⟨hsay, b3⟩; obtain rfl := says_true hsay rfl; obtain ⟨s1, s2, T3⟩ := HS.out _ (tr T2.out b3); clear hsay b3)
      | (go_at_call 43; refine (Gx.keys' (HG.out _ (HB.out _ T1)) (by have := HI.out; omega)).mono ?_; rintro e u2 ⟨u, rfl, hrow, b2⟩; rw [HI.out.1] at hrow; obtain ⟨pk, ck, rfl, rk, -⟩ := row_ruH hrow (by rw [ints_len]; exact HI.out.1); have RK := Lib.hid rk; obtain ⟨s1, s2, T2⟩ := HS.out _ (tr T1.out b2); clear hrow rk b2)
      | fail)
  go_wp2_with fail
  exact bodyPost_ret (v := .bool true) (by simp [results, Try.results114, go_sem]) rfl ⟨rfl, HB.out _ T7⟩
end Go.Proofs.Ytggimkfepcgaoaa.Gho
end
