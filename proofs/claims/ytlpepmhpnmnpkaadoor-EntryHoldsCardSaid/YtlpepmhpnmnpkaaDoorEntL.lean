/-
  Walks over package entry (layer 4): the law EntryMakes.
-/
import Derived.Test.YtlpepmhpnmnpkaaDoorEntM
set_option linter.unusedVariables false
set_option linter.unusedSimpArgs false
namespace Go.Proofs.YtlpepmhpnmnpkaaDoor.Ent
open Go.RowKit Kit
theorem new2 (w : World) (a b : Obj) : ((w.alloc a).alloc b).heap[w.heap.size + 1]? = some b := by
  have := (MapKept.heap_alloc (w.alloc a) b).1
  simpa using this
theorem wpList_append_fresh {P : Program} {w : World} {ops : Array Oper} {rest : List Oper} {o : Oper} {a : Act} {Q : Exit → Act → World → Prop} (hgd : o.guard = none) (s x : Operand) (t : TypeId)
    (ho : o.op = .call { callee := .builtin .append, args := #[s, x], argTypes := #[t, t] }) (e : TypeId) (i : TypeInfo) (ht : P.underlying t = some (.slice e)) (hi : P.info? e = some i) (hz : i.zero = some (.int .u8 0)) (hz1 : i.size = 1) (hz2 : i.bytes = 1)
    (hs : a.eval s = .slice none 0 0) (p : Option Addr) (l c : Nat) (zs : List Int) (hx : a.eval x = .slice p l c) (hb : Ev.BytesOf w p l zs) (hl : l ≤ 100000)
    (h : ∀ p' c' w', Ev.BytesOf w' p' l zs → Below w.heap.size w w' → (∀ a, p' = some a → w.heap.size ≤ a.block ∧ a.block < w'.heap.size ∧ a = ⟨a.block, 0, none⟩ ∧ ∀ i, w'.frozen? ⟨a.block, i, none⟩ = false) → wpList P ops Q rest (a.put o.dst (.slice p' l c')) w') :
    wpList P ops Q (o :: rest) a w := by
  rcases Nat.eq_zero_or_pos l with rfl | hpos
  · refine wpList_plain hgd fun _ hK => ?_
    unfold Oper.wp execOp
    simp only [ho, resolve, invoke, builtin, Sem.run_bind, Sem.run_pure, Result.andThen_ok, List.map_toArray, List.map_cons, List.map_nil, hs, hx, run_append_zero w t o.type e i ht hi p c]
    exact hK _ _ (h none 0 w ⟨hb.1, hb.2.1, Lib.BytesIn.nil _ _ _, hb.2.2.2⟩ (Below.refl _ _) (fun a h => by cases h))
  · obtain ⟨b0, o0, rfl, -⟩ := hb.2.2.1 hpos
    refine wpList_append_own _ hgd s x t ho w.heap.size e i (.int .u8 0) 1 1 ht hi hz hz1 hz2 rfl (by decide) (.slice none 0 0) 0 [] hs (World.ownsRow_nil _ _ _ _) ⟨b0, o0, none⟩ l c (zs.map (Value.int .u8)) hx (by simp [hb.1]) (news_of hb w (Below.refl _ _)) (by intro u hu; obtain ⟨x, _, rfl⟩ := List.mem_map.1 hu; rfl) (by unfold maxLen; omega) (by omega) (Nat.le_refl _) ?_
    intro v' w' hown hgrow _
    have hown' : w'.ownsRow w.heap.size e 1 v' l (zs.map (Value.int .u8)) := by simpa using hown
    obtain ⟨p', c', rfl, k1, k2⟩ := own_bytes hown' hb.1 hb.2.1 hb.2.2.2
    have k3 : ∀ a, p' = some a → a = ⟨a.block, 0, none⟩ ∧ ∀ i, w'.frozen? ⟨a.block, i, none⟩ = false := by
      rintro a rfl
      obtain ⟨-, ⟨h, -⟩ | ⟨g, cap, cur, h, -, hg, -⟩⟩ := hown'
      · cases h
      · cases h
        exact ⟨rfl, fun i => by simp [World.frozen?, hg]⟩
    have e0 : 0 + l = l := Nat.zero_add l
    exact h p' c' w' k1 ((Below.refl _ w).grown hgrow (Nat.le_refl _) (fun k hk => by simp [Value.ownBlock] at hk)) (fun a h => ⟨(k2 a h).1, (k2 a h).2, (k3 a h).1, (k3 a h).2⟩)
/-- nothing but block b is written -/
structure But (b : Nat) (w w' : World) : Prop where
  os : w'.os = w.os
  tape : w'.tape = w.tape
  output : w'.output = w.output
  size : w.heap.size = w'.heap.size
  block : ∀ k, k ≠ b → w'.heap[k]? = w.heap[k]?
theorem But.refl (b : Nat) (w : World) : But b w w := ⟨rfl, rfl, rfl, rfl, fun _ _ => rfl⟩
theorem But.setCell {b j : Nat} {w w' : World} (h : But b w w') (v : Value) : But b w (w'.setCell ⟨b, j, none⟩ v) :=
  ⟨h.os, h.tape, h.output, by rw [h.size]; simp, fun k hn => (Below.heap_setCell w' ⟨b, j, none⟩ v k hn).trans (h.block k hn)⟩
theorem But.below {b n : Nat} {w w' : World} (h : But b w w') (hb : n ≤ b) : Below n w w' :=
  ⟨h.os, h.tape, h.output, Nat.le_of_eq h.size, fun k hk => h.block k (by omega)⟩
theorem But.cell {b q o : Nat} {w w' : World} {v : Value} (h : But b w w') (hq : q ≠ b) (hc : w.cell? ⟨q, o, none⟩ = some v) : w'.cell? ⟨q, o, none⟩ = some v := by
  rw [← hc]; unfold World.cell?; rw [h.block q hq]
theorem But.bytes {b : Nat} {w w' : World} {a : Option Addr} {l : Nat} {zs : List Int} (h : But b w w') (hb : Ev.BytesOf w a l zs) (hne : 0 < l → ∀ x, a = some x → x.block ≠ b) : Ev.BytesOf w' a l zs := by
  obtain ⟨h1, h2, h3, h4⟩ := hb
  refine ⟨h1, h2, fun hl => ?_, h4⟩
  obtain ⟨p, o', rfl, hc⟩ := h3 hl
  exact ⟨p, o', rfl, fun i hi => h.cell (hne hl _ rfl) (hc i hi)⟩
theorem BytesOf.lt {w : World} {x : Addr} {l : Nat} {zs : List Int} (h : Ev.BytesOf w (some x) l zs) (hl : 0 < l) : x.block < w.heap.size := by
  obtain ⟨p, o', e, hc⟩ := h.2.2.1 hl
  cases e
  have := hc 0 hl
  unfold World.cell? at this
  rcases Nat.lt_or_ge p w.heap.size with h | h
  · exact h
  · rw [Array.getElem?_eq_none h] at this; simp at this
theorem eqB_refl (k : ByteArray) (xs : List Int) (d b : Int) : eqB k k xs xs d d b b = true := by simp [eqB]
theorem BytesOf.nothing (w : World) : Ev.BytesOf w none 0 [] := ⟨rfl, by simp, Lib.BytesIn.nil _ _ _, Nat.zero_le _⟩
theorem zeros_bytes (w : World) (l : Nat) (e : TypeId) (hl : l ≤ 100000) : Ev.BytesOf (w.alloc (.cells (madeCells #[.int .u8 0] l) e)) (some ⟨w.heap.size, 0, none⟩) l (List.replicate l 0) := by
  refine ⟨by simp, fun n hn => by rw [List.eq_of_mem_replicate hn]; omega, fun _ => ⟨w.heap.size, 0, rfl, fun i hi => ?_⟩, by unfold maxLen; omega⟩
  have hb := (MapKept.heap_alloc w (.cells (madeCells #[.int .u8 0] l) e)).1
  simp only [World.cell?, hb, Nat.zero_add]
  simp [madeCells, hi, List.getD, Nat.mod_one]
theorem keep4 {W W1 : World} {q : Nat} {a0 a1 a2 a3 : Value} (b : Below W.heap.size W W1) (hq : q < W.heap.size) (k0 : W.cell? ⟨q, 0, none⟩ = some a0) (k1 : W.cell? ⟨q, 1, none⟩ = some a1) (k2 : W.cell? ⟨q, 2, none⟩ = some a2) (k3 : W.cell? ⟨q, 3, none⟩ = some a3) :
    W1.cell? ⟨q, 0, none⟩ = some a0 ∧ W1.cell? ⟨q, 1, none⟩ = some a1 ∧ W1.cell? ⟨q, 2, none⟩ = some a2 ∧ W1.cell? ⟨q, 3, none⟩ = some a3 ∧ q < W1.heap.size := by
  obtain ⟨c, _, s⟩ := bcell b
  exact ⟨by rw [c _ _ hq]; exact k0, by rw [c _ _ hq]; exact k1, by rw [c _ _ hq]; exact k2, by rw [c _ _ hq]; exact k3, by omega⟩
set_option maxRecDepth 100000 in
set_option maxHeartbeats 40000000 in
theorem makes_any (k : ByteArray) (p : Option Addr) (l c : Nat) (zs : List Int) (d b n : Int) (w : World) (h : Ev.BytesOf w p l zs)
    (HKN : ∀ w1, Below w.heap.size w w1 → Calls Tryd.prog 15 #[] w1 fun e w' => e = .returned (.bool true) ∧ Below w1.heap.size w1 w') :
    Calls Tryd.prog 4 #[ent k p l c d b, .int .i64 n] w fun e w' => e = .returned (.bool true) ∧ Below w.heap.size w w' := by
  have HK := Lib.hid HKN
  have H1 := Lib.hid h
  clear HKN h
  go_enter Tryd.func4, Tryd.ntmps4
  go_wp2_with fail
  refine (few_one _ k p l c d b 33 (0, 0) _ (new2 w _ _)).mono ?_
  rintro e w1 ⟨rfl, b1⟩
  by_cases hf : (decide (k.size ≤ 600) && decide (l ≤ 600)) = true
  · rw [hf]
    obtain ⟨⟨k0, k1, k2, k3, -⟩, f0, -, bel, hsz⟩ := two4 b1
    by_cases hn : 65530 ≤ n ∧ n ≤ 65540
    · have hl0 : n.toNat ≤ 100000 := by omega
      obtain ⟨i0, hi, hzz⟩ := Option.map_eq_some_iff.1 (by kernel_rfl : (Tryd.prog.info? 5).map (fun i => (i.zero, i.size, i.bytes)) = some (some (.int .u8 0), 1, 1))
      simp only [Prod.mk.injEq] at hzz
      obtain ⟨hz0, hz1, hz2⟩ := hzz
      have hmk0 : ∀ w : World, (Instr.makeSlice 31 (.int .i64 n) (.int .i64 n)).run Tryd.prog w = .ok (.slice (some ⟨w.heap.size, 0, none⟩) n.toNat n.toNat) (w.alloc (.cells (madeCells #[.int .u8 0] n.toNat) 5)) := fun w => by
        have h := make_any w 31 5 (.int .u8 0) 1 1 Tryd.underlying31 u8_info n (by omega) (by omega) (by omega)
        rw [Nat.mul_one] at h
        exact h
      obtain ⟨lz, hlz⟩ : ∃ x : Nat, n.toNat = x := ⟨_, rfl⟩
      rw [hlz] at hl0
      simp only [hlz] at hmk0
      have hl : lz ≤ 100000 := hl0
      obtain ⟨zz, hzz⟩ : ∃ x : List Int, List.replicate lz 0 = x := ⟨_, rfl⟩
      obtain ⟨pz, hpz⟩ : ∃ x : Option Addr, some ⟨w1.heap.size, 0, none⟩ = x := ⟨_, rfl⟩
      have hzb : Ev.BytesOf ((w1.alloc (.cells (madeCells #[.int .u8 0] lz) 5)).setCell ⟨w.heap.size, 1, none⟩ (.slice (some ⟨w1.heap.size, 0, none⟩) lz lz)) (some ⟨w1.heap.size, 0, none⟩) lz zz := by
        rw [← hzz]
        exact (zeros_bytes w1 lz 5 hl).set (fun x hx => by cases hx; simp; omega)
      rw [hpz] at hzb
      have HZB := Lib.hid hzb
      have f0a : ∀ o X, (w1.alloc X).frozen? ⟨w.heap.size, o, none⟩ = false := fun o X => ((bcell (by go_grown : Below w1.heap.size w1 (w1.alloc X))).2.1 _ _ (by omega)).trans (f0 o)
      have c1a : ∀ X, (w1.alloc X).cell? ⟨w.heap.size, 1, none⟩ = some (.slice p l c) := fun X => ((bcell (by go_grown : Below w1.heap.size w1 (w1.alloc X))).1 _ _ (by omega)).trans k1
      clear hzb
      clear b1 hf
      go_wp2_with (at_builtin; refine wpList_append_fresh rfl _ _ 31 rfl 5 i0 Tryd.underlying31 hi hz0 hz1 hz2 rfl pz lz lz zz rfl HZB.out hl ?_)
      intro p1 c1 W1 ob ol of1
      have k0' : ((w1.alloc (.cells (madeCells #[.int .u8 0] lz) 5)).setCell ⟨w.heap.size, 1, none⟩ (.slice pz lz lz)).cell? ⟨w.heap.size, 0, none⟩ = some (.string k) := by simp [go_sem, (show (w1.alloc (.cells (madeCells #[.int .u8 0] lz) 5)).cell? _ = _ from (bcell (by go_grown : Below w1.heap.size w1 (w1.alloc (.cells (madeCells #[.int .u8 0] lz) 5)))).1 _ _ (by omega) |>.trans k0)]
      have k1' : ((w1.alloc (.cells (madeCells #[.int .u8 0] lz) 5)).setCell ⟨w.heap.size, 1, none⟩ (.slice pz lz lz)).cell? ⟨w.heap.size, 1, none⟩ = some (.slice pz lz lz) := World.cell?_setCell_same' _ _ _ (by rw [(show (w1.alloc (.cells (madeCells #[.int .u8 0] lz) 5)).cell? _ = _ from (bcell (by go_grown : Below w1.heap.size w1 (w1.alloc (.cells (madeCells #[.int .u8 0] lz) 5)))).1 _ _ (by omega) |>.trans k1)]; rfl)
      have k2' : ((w1.alloc (.cells (madeCells #[.int .u8 0] lz) 5)).setCell ⟨w.heap.size, 1, none⟩ (.slice pz lz lz)).cell? ⟨w.heap.size, 2, none⟩ = some (.int .u64 d) := by simp [go_sem, (show (w1.alloc (.cells (madeCells #[.int .u8 0] lz) 5)).cell? _ = _ from (bcell (by go_grown : Below w1.heap.size w1 (w1.alloc (.cells (madeCells #[.int .u8 0] lz) 5)))).1 _ _ (by omega) |>.trans k2)]
      have k3' : ((w1.alloc (.cells (madeCells #[.int .u8 0] lz) 5)).setCell ⟨w.heap.size, 1, none⟩ (.slice pz lz lz)).cell? ⟨w.heap.size, 3, none⟩ = some (.int .u64 b) := by simp [go_sem, (show (w1.alloc (.cells (madeCells #[.int .u8 0] lz) 5)).cell? _ = _ from (bcell (by go_grown : Below w1.heap.size w1 (w1.alloc (.cells (madeCells #[.int .u8 0] lz) 5)))).1 _ _ (by omega) |>.trans k3)]
      have bel0 : Below w.heap.size w ((w1.alloc (.cells (madeCells #[.int .u8 0] lz) 5)).setCell ⟨w.heap.size, 1, none⟩ (.slice pz lz lz)) := (tr bel (by go_grown : Below w1.heap.size w1 (w1.alloc (.cells (madeCells #[.int .u8 0] lz) 5)))).setCell (p := ⟨w.heap.size, 1, none⟩) (Nat.le_refl _) _
      have hsz0 : w.heap.size + 1 < ((w1.alloc (.cells (madeCells #[.int .u8 0] lz) 5)).setCell ⟨w.heap.size, 1, none⟩ (.slice pz lz lz)).heap.size := by simp; omega
      have hs0 : ((w1.alloc (.cells (madeCells #[.int .u8 0] lz) 5)).setCell ⟨w.heap.size, 1, none⟩ (.slice pz lz lz)).heap.size = w1.heap.size + 1 := by simp
      clear k0 k1 k2 k3 bel hsz f0a c1a
      generalize ((w1.alloc (.cells (madeCells #[.int .u8 0] lz) 5)).setCell ⟨w.heap.size, 1, none⟩ (.slice pz lz lz)) = W0 at HZB ol of1 hs0 k0' k1' k2' k3' bel0 hsz0
      rw [← hs0] at ol
      have HB0 := HZB
      have bel := bel0
      have hsz := hsz0
      obtain ⟨j0, j1, j2, j3, js⟩ := keep4 ol (by omega) k0' k1' k2' k3'
      have jb := tr bel ol
      clear k0' k1' k2' k3'
      (obtain ⟨r, hr⟩ : ∃ r, chk k lz b = r := ⟨_, rfl⟩)
      (have HN := Lib.hid (hr ▸ enew_any k p1 lz c1 zz d b hl W1 ob))
      (have HV := Lib.hid (fun (W0 : World) => hr ▸ evalid_any k pz lz lz d b W0))
      (have HR := Lib.hid (fun (W0 : World) => hr ▸ rcheck_any k pz lz lz b W0))
      (have HP := Lib.hid (fun (W0 : World) (o : Ev.BytesOf W0 p1 lz zz) => ecopy_any k p1 lz c1 zz d b hl W0 o))
      clear hr
      go_wp2_with fail
      refine HN.out.mono ?_
      rintro e W2 ⟨n1, hcase⟩
      have ob2 := Lib.hid (ob.below n1)
      obtain ⟨g0, g1, g2, g3, gs⟩ := keep4 n1 js j0 j1 j2 j3
      have gb := tr jb n1
      clear j0 j1 j2 j3 HN
      rcases hcase with ⟨hc, rfl⟩ | ⟨rfl, p2, c2, rfl, xb, xf⟩
      · have hc2 : (r == 0) = false := by simpa using hc
        go_wp2_with fail
        refine (HR.out _).mono ?_
        rintro e W3 ⟨rfl, n2⟩
        obtain ⟨cw, fw, sw⟩ := bcell n2
        have x0 : W3.cell? ⟨W2.heap.size, 0, none⟩ = some (.string ⟨#[]⟩) := by rw [cw _ _ (by simp)]; simp [go_sem]
        have x1 : W3.cell? ⟨W2.heap.size, 1, none⟩ = some (.slice none 0 0) := by rw [cw _ _ (by simp)]; simp [go_sem]
        have x2 : W3.cell? ⟨W2.heap.size, 2, none⟩ = some (.int .u64 0) := by rw [cw _ _ (by simp)]; simp [go_sem]
        have x3 : W3.cell? ⟨W2.heap.size, 3, none⟩ = some (.int .u64 0) := by rw [cw _ _ (by simp)]; simp [go_sem]
        have xs : W2.heap.size < W3.heap.size := by simp at sw; omega
        have n3 : Below W2.heap.size W2 W3 := tr (by go_grown) n2
        clear cw fw sw n2
        obtain ⟨k0, k1, k2, k3, ks⟩ := keep4 n3 gs g0 g1 g2 g3
        clear g0 g1 g2 g3
        go_wp2_with fail
        refine (HV.out _).mono ?_
        rintro e W4 ⟨rfl, n4⟩
        obtain ⟨j0, j1, j2, j3, js⟩ := keep4 n4 ks k0 k1 k2 k3
        obtain ⟨y0, y1, y2, y3, ys⟩ := keep4 n4 xs x0 x1 x2 x3
        have ob4 := Lib.hid ((ob2.out.below n3).below n4)
        have gb4 := tr (tr gb n3) n4
        clear k0 k1 k2 k3 x0 x1 x2 x3
        go_wp2_with fail
        refine (HP.out _ ob4.out).mono ?_
        rintro e W5 ⟨p3, c3, rfl, yb, n5, yf⟩
        obtain ⟨k0, k1, k2, k3, ks⟩ := keep4 n5 js j0 j1 j2 j3
        obtain ⟨x0, x1, x2, x3, xs⟩ := keep4 n5 ys y0 y1 y2 y3
        have ob5 := Lib.hid (ob4.out.below n5)
        have gb5 := tr gb4 n5
        clear j0 j1 j2 j3 y0 y1 y2 y3
        have hN : W2.heap.size ≤ W5.heap.size := by have := n3.size; have := n4.size; have := n5.size; omega
        have own6 : ∃ g, (0 < lz → p1 = some ⟨g, 0, none⟩ ∧ W0.heap.size ≤ g ∧ g < W2.heap.size ∧ (∀ i, W5.frozen? ⟨g, i, none⟩ = false)) ∧ (lz = 0 → g = W5.heap.size + 1) := by
          rcases Nat.eq_zero_or_pos lz with h0 | h0
          · exact ⟨W5.heap.size + 1, fun h => by omega, fun _ => rfl⟩
          · obtain ⟨b0, o0, e0, -⟩ := ob.2.2.1 h0
            obtain ⟨u1, u2, u3, u4⟩ := of1 _ e0
            have u5 := n1.size
            refine ⟨b0, fun _ => ⟨by rw [e0, u3], by simp only at u1; omega, by simp only at u2; omega, fun i => ?_⟩, fun h => by omega⟩
            have n15 := tr (tr (tr n1 n3) n4) n5
            rw [(bcell n15).2.1 _ _ (by simpa using u2)]
            exact u4 i
        obtain ⟨g, og, og0⟩ := own6
        have hw1 := bel.size
        have ne0 : w.heap.size ≠ g := by
          rcases Nat.eq_zero_or_pos lz with h0 | h0
          · rw [og0 h0]; omega
          · obtain ⟨-, u2, -⟩ := og h0; omega
        have ne2 : W2.heap.size ≠ g := by
          rcases Nat.eq_zero_or_pos lz with h0 | h0
          · rw [og0 h0]; omega
          · obtain ⟨-, -, u3, -⟩ := og h0; omega
        have ne5 : W5.heap.size ≠ g := by
          rcases Nat.eq_zero_or_pos lz with h0 | h0
          · rw [og0 h0]; omega
          · obtain ⟨-, -, u3, -⟩ := og h0; omega
        have hwg : w.heap.size ≤ g := by
          rcases Nat.eq_zero_or_pos lz with h0 | h0
          · rw [og0 h0]; omega
          · obtain ⟨-, u2, -⟩ := og h0; omega
        have nep : 0 < lz → ∀ x, pz = some x → x.block ≠ g := by
          rintro h0 x rfl
          obtain ⟨-, u2, -⟩ := og h0
          have := BytesOf.lt HB0.out h0
          omega
        have ney : 0 < lz → ∀ x, p3 = some x → x.block ≠ g := by
          rintro h0 x rfl
          obtain ⟨-, -, u3, -⟩ := og h0
          have := yf x rfl
          have := n3.size
          have := n4.size
          omega
        obtain ⟨A0, A1, A2, A3, AS⟩ := keep4 (by go_grown : Below W5.heap.size W5 (W5.alloc (.cells #[.string k, .slice p3 lz c3, .int .u64 d, .int .u64 b] 33))) ks k0 k1 k2 k3
        obtain ⟨B0, B1, B2, B3, BS⟩ := keep4 (by go_grown : Below W5.heap.size W5 (W5.alloc (.cells #[.string k, .slice p3 lz c3, .int .u64 d, .int .u64 b] 33))) xs x0 x1 x2 x3
        have HP6 := Lib.hid ((HB0.out.below (tr (tr (tr (tr ol n1) n3) n4) n5)).below (by go_grown : Below W5.heap.size W5 (W5.alloc (.cells #[.string k, .slice p3 lz c3, .int .u64 d, .int .u64 b] 33))))
        have YB6 := Lib.hid (yb.below (by go_grown : Below W5.heap.size W5 (W5.alloc (.cells #[.string k, .slice p3 lz c3, .int .u64 d, .int .u64 b] 33))))
        have OB6 := Lib.hid (ob5.out.below (by go_grown : Below W5.heap.size W5 (W5.alloc (.cells #[.string k, .slice p3 lz c3, .int .u64 d, .int .u64 b] 33))))
        have OG := Lib.hid og
        have OG0 := Lib.hid og0
        have YB := Lib.hid yb
        clear og og0 yb
        go_wp2_with fail
        go_loopw [10, 67] (fun t i wr => ∃ j : Nat, j ≤ lz ∧ i = .int .i64 j ∧ But g (W5.alloc (.cells #[.string k, .slice p3 lz c3, .int .u64 d, .int .u64 b] 33)) wr ∧ (∀ q, q < lz → ∃ z : Int, wr.cell? ⟨g, q, none⟩ = some (.int .u8 z)) ∧ (0 < lz → ∀ q, wr.frozen? ⟨g, q, none⟩ = false)) (fun _ i _ => lz - (intOf i).toNat)
        case atStart =>
          refine ⟨0, Nat.zero_le _, rfl, But.refl _ _, fun q hq => ?_, fun hl q => ?_⟩
          · obtain ⟨e1, -⟩ := OG.out (by omega)
            obtain ⟨o1, -, o3, -⟩ := OB6.out
            obtain ⟨p5, o5, e5, hc5⟩ := o3 (by omega)
            rw [e1] at e5
            cases e5
            exact ⟨_, by simpa using hc5 q hq⟩
          · obtain ⟨e1, -, e3, e4⟩ := OG.out hl
            rw [(bcell (by go_grown : Below W5.heap.size W5 (W5.alloc (.cells #[.string k, .slice p3 lz c3, .int .u64 d, .int .u64 b] 33)))).2.1 _ _ (by omega)]
            exact e4 q
        case round =>
          obtain ⟨j, hj, rfl, bW, hz, hfz⟩ := hrel
          by_cases hlt : j < lz
          · obtain ⟨z, hz1⟩ := hz j hlt
            obtain ⟨e1, e2, e3, e4⟩ := OG.out (by omega)
            subst e1
            have hfj := hfz (by omega) j
            go_wp2_with fail
            refine ⟨⟨j + 1, by omega, by go_num, bW.setCell _, fun q hq => ?_, fun h q => ?_⟩, by simp [intOf]; omega⟩
            · by_cases e : q = j
              · subst e
                exact ⟨_, World.cell?_setCell_same' _ _ _ (by rw [hz1]; rfl)⟩
              · obtain ⟨z', hz'⟩ := hz q hq
                exact ⟨z', by simpa [go_sem, e, Ne.symm e] using hz'⟩
            · simpa [go_sem] using hfz h q
          · obtain rfl : j = lz := by omega
            have c0 := bW.cell ne0 A0; have c1' := bW.cell ne0 A1; have c2' := bW.cell ne0 A2; have c3' := bW.cell ne0 A3
            have d0 := bW.cell ne2 B0; have d1 := bW.cell ne2 B1; have d2 := bW.cell ne2 B2; have d3 := bW.cell ne2 B3
            have e0 : wr.cell? ⟨W5.heap.size, 0, none⟩ = some (.string k) := bW.cell ne5 (by simp [go_sem])
            have e1 : wr.cell? ⟨W5.heap.size, 1, none⟩ = some (.slice p3 j c3) := bW.cell ne5 (by simp [go_sem])
            have e2 : wr.cell? ⟨W5.heap.size, 2, none⟩ = some (.int .u64 d) := bW.cell ne5 (by simp [go_sem])
            have e3 : wr.cell? ⟨W5.heap.size, 3, none⟩ = some (.int .u64 b) := bW.cell ne5 (by simp [go_sem])
            have HPr := Lib.hid (bW.bytes HP6.out nep)
            have HYr := Lib.hid (bW.bytes YB6.out ney)
            have belr : Below w.heap.size w wr := (tr gb5 (by go_grown)).trans (bW.below hwg)
            have hsx := eqB_refl ⟨#[]⟩ [] 0 0
            have hse := eqB_refl k zz d b
            go_wp2_with fail
            refine (requal_any ⟨#[]⟩ ⟨#[]⟩ none none 0 0 0 0 [] [] 0 0 0 0 wr (BytesOf.nothing wr) (BytesOf.nothing wr)).mono ?_
            rintro e V1 ⟨rfl, v1⟩
            have hq0 : w.heap.size < wr.heap.size := by rw [← bW.size]; exact AS
            have hq5 : W5.heap.size < wr.heap.size := by rw [← bW.size]; simp
            obtain ⟨s0, s1, s2, s3, ss⟩ := keep4 v1 hq0 c0 c1' c2' c3'
            obtain ⟨t0, t1, t2, t3, ts⟩ := keep4 v1 hq5 e0 e1 e2 e3
            clear c0 c1' c2' c3' e0 e1 e2 e3 d0 d1 d2 d3
            go_wp2_with fail
            refine (requal_any k k p3 pz j c3 j j zz zz d d b b V1 (HYr.out.below v1) (HPr.out.below v1)).mono ?_
            rintro e V2 ⟨rfl, v2⟩
            go_wp2_with fail
            refine (HK.out _ (tr (tr belr v1) v2)).mono ?_
            rintro e V3 ⟨rfl, v3⟩
            go_wp2_with fail
            go_ret
            exact ⟨rfl, tr (tr (tr belr v1) v2) v3⟩
      · go_wp2_with fail
        refine (HR.out _).mono ?_
        rintro e W3 ⟨rfl, n2⟩
        obtain ⟨cw, fw, sw⟩ := bcell n2
        have x0 : W3.cell? ⟨W2.heap.size, 0, none⟩ = some (.string k) := by rw [cw _ _ (by simp)]; simp [go_sem]
        have x1 : W3.cell? ⟨W2.heap.size, 1, none⟩ = some (.slice p2 lz c2) := by rw [cw _ _ (by simp)]; simp [go_sem]
        have x2 : W3.cell? ⟨W2.heap.size, 2, none⟩ = some (.int .u64 d) := by rw [cw _ _ (by simp)]; simp [go_sem]
        have x3 : W3.cell? ⟨W2.heap.size, 3, none⟩ = some (.int .u64 b) := by rw [cw _ _ (by simp)]; simp [go_sem]
        have xs : W2.heap.size < W3.heap.size := by simp at sw; omega
        have n3 : Below W2.heap.size W2 W3 := tr (by go_grown) n2
        clear cw fw sw n2
        obtain ⟨k0, k1, k2, k3, ks⟩ := keep4 n3 gs g0 g1 g2 g3
        clear g0 g1 g2 g3
        go_wp2_with fail
        refine (HV.out _).mono ?_
        rintro e W4 ⟨rfl, n4⟩
        obtain ⟨j0, j1, j2, j3, js⟩ := keep4 n4 ks k0 k1 k2 k3
        obtain ⟨y0, y1, y2, y3, ys⟩ := keep4 n4 xs x0 x1 x2 x3
        have ob4 := Lib.hid ((ob2.out.below n3).below n4)
        have gb4 := tr (tr gb n3) n4
        clear k0 k1 k2 k3 x0 x1 x2 x3
        go_wp2_with fail
        refine (HP.out _ ob4.out).mono ?_
        rintro e W5 ⟨p3, c3, rfl, yb, n5, yf⟩
        obtain ⟨k0, k1, k2, k3, ks⟩ := keep4 n5 js j0 j1 j2 j3
        obtain ⟨x0, x1, x2, x3, xs⟩ := keep4 n5 ys y0 y1 y2 y3
        have ob5 := Lib.hid (ob4.out.below n5)
        have gb5 := tr gb4 n5
        clear j0 j1 j2 j3 y0 y1 y2 y3
        have hN : W2.heap.size ≤ W5.heap.size := by have := n3.size; have := n4.size; have := n5.size; omega
        have own6 : ∃ g, (0 < lz → p1 = some ⟨g, 0, none⟩ ∧ W0.heap.size ≤ g ∧ g < W2.heap.size ∧ (∀ i, W5.frozen? ⟨g, i, none⟩ = false)) ∧ (lz = 0 → g = W5.heap.size + 1) := by
          rcases Nat.eq_zero_or_pos lz with h0 | h0
          · exact ⟨W5.heap.size + 1, fun h => by omega, fun _ => rfl⟩
          · obtain ⟨b0, o0, e0, -⟩ := ob.2.2.1 h0
            obtain ⟨u1, u2, u3, u4⟩ := of1 _ e0
            have u5 := n1.size
            refine ⟨b0, fun _ => ⟨by rw [e0, u3], by simp only at u1; omega, by simp only at u2; omega, fun i => ?_⟩, fun h => by omega⟩
            have n15 := tr (tr (tr n1 n3) n4) n5
            rw [(bcell n15).2.1 _ _ (by simpa using u2)]
            exact u4 i
        obtain ⟨g, og, og0⟩ := own6
        have hw1 := bel.size
        have ne0 : w.heap.size ≠ g := by
          rcases Nat.eq_zero_or_pos lz with h0 | h0
          · rw [og0 h0]; omega
          · obtain ⟨-, u2, -⟩ := og h0; omega
        have ne2 : W2.heap.size ≠ g := by
          rcases Nat.eq_zero_or_pos lz with h0 | h0
          · rw [og0 h0]; omega
          · obtain ⟨-, -, u3, -⟩ := og h0; omega
        have ne5 : W5.heap.size ≠ g := by
          rcases Nat.eq_zero_or_pos lz with h0 | h0
          · rw [og0 h0]; omega
          · obtain ⟨-, -, u3, -⟩ := og h0; omega
        have hwg : w.heap.size ≤ g := by
          rcases Nat.eq_zero_or_pos lz with h0 | h0
          · rw [og0 h0]; omega
          · obtain ⟨-, u2, -⟩ := og h0; omega
        have nep : 0 < lz → ∀ x, pz = some x → x.block ≠ g := by
          rintro h0 x rfl
          obtain ⟨-, u2, -⟩ := og h0
          have := BytesOf.lt HB0.out h0
          omega
        have ney : 0 < lz → ∀ x, p3 = some x → x.block ≠ g := by
          rintro h0 x rfl
          obtain ⟨-, -, u3, -⟩ := og h0
          have := yf x rfl
          have := n3.size
          have := n4.size
          omega
        obtain ⟨A0, A1, A2, A3, AS⟩ := keep4 (by go_grown : Below W5.heap.size W5 (W5.alloc (.cells #[.string k, .slice p3 lz c3, .int .u64 d, .int .u64 b] 33))) ks k0 k1 k2 k3
        obtain ⟨B0, B1, B2, B3, BS⟩ := keep4 (by go_grown : Below W5.heap.size W5 (W5.alloc (.cells #[.string k, .slice p3 lz c3, .int .u64 d, .int .u64 b] 33))) xs x0 x1 x2 x3
        have nex : 0 < lz → ∀ x, p2 = some x → x.block ≠ g := by
          rintro h0 x rfl
          obtain ⟨-, -, u3, -⟩ := og h0
          have e1 := xf x rfl
          obtain ⟨b0, o0, e0, -⟩ := ob.2.2.1 h0
          obtain ⟨u1, u2, -⟩ := of1 _ e0
          obtain ⟨e2, -⟩ := og h0
          rw [e2] at e0
          cases e0
          simp only at u2
          omega
        have XB6 := Lib.hid (((xb.below n3).below n4).below n5 |>.below (by go_grown : Below W5.heap.size W5 (W5.alloc (.cells #[.string k, .slice p3 lz c3, .int .u64 d, .int .u64 b] 33))))
        have HP6 := Lib.hid ((HB0.out.below (tr (tr (tr (tr ol n1) n3) n4) n5)).below (by go_grown : Below W5.heap.size W5 (W5.alloc (.cells #[.string k, .slice p3 lz c3, .int .u64 d, .int .u64 b] 33))))
        have YB6 := Lib.hid (yb.below (by go_grown : Below W5.heap.size W5 (W5.alloc (.cells #[.string k, .slice p3 lz c3, .int .u64 d, .int .u64 b] 33))))
        have OB6 := Lib.hid (ob5.out.below (by go_grown : Below W5.heap.size W5 (W5.alloc (.cells #[.string k, .slice p3 lz c3, .int .u64 d, .int .u64 b] 33))))
        have OG := Lib.hid og
        have OG0 := Lib.hid og0
        have YB := Lib.hid yb
        clear og og0 yb
        go_wp2_with fail
        go_loopw [10, 67] (fun t i wr => ∃ j : Nat, j ≤ lz ∧ i = .int .i64 j ∧ But g (W5.alloc (.cells #[.string k, .slice p3 lz c3, .int .u64 d, .int .u64 b] 33)) wr ∧ (∀ q, q < lz → ∃ z : Int, wr.cell? ⟨g, q, none⟩ = some (.int .u8 z)) ∧ (0 < lz → ∀ q, wr.frozen? ⟨g, q, none⟩ = false)) (fun _ i _ => lz - (intOf i).toNat)
        case atStart =>
          refine ⟨0, Nat.zero_le _, rfl, But.refl _ _, fun q hq => ?_, fun hl q => ?_⟩
          · obtain ⟨e1, -⟩ := OG.out (by omega)
            obtain ⟨o1, -, o3, -⟩ := OB6.out
            obtain ⟨p5, o5, e5, hc5⟩ := o3 (by omega)
            rw [e1] at e5
            cases e5
            exact ⟨_, by simpa using hc5 q hq⟩
          · obtain ⟨e1, -, e3, e4⟩ := OG.out hl
            rw [(bcell (by go_grown : Below W5.heap.size W5 (W5.alloc (.cells #[.string k, .slice p3 lz c3, .int .u64 d, .int .u64 b] 33)))).2.1 _ _ (by omega)]
            exact e4 q
        case round =>
          obtain ⟨j, hj, rfl, bW, hz, hfz⟩ := hrel
          by_cases hlt : j < lz
          · obtain ⟨z, hz1⟩ := hz j hlt
            obtain ⟨e1, e2, e3, e4⟩ := OG.out (by omega)
            subst e1
            have hfj := hfz (by omega) j
            go_wp2_with fail
            refine ⟨⟨j + 1, by omega, by go_num, bW.setCell _, fun q hq => ?_, fun h q => ?_⟩, by simp [intOf]; omega⟩
            · by_cases e : q = j
              · subst e
                exact ⟨_, World.cell?_setCell_same' _ _ _ (by rw [hz1]; rfl)⟩
              · obtain ⟨z', hz'⟩ := hz q hq
                exact ⟨z', by simpa [go_sem, e, Ne.symm e] using hz'⟩
            · simpa [go_sem] using hfz h q
          · obtain rfl : j = lz := by omega
            have c0 := bW.cell ne0 A0; have c1' := bW.cell ne0 A1; have c2' := bW.cell ne0 A2; have c3' := bW.cell ne0 A3
            have d0 := bW.cell ne2 B0; have d1 := bW.cell ne2 B1; have d2 := bW.cell ne2 B2; have d3 := bW.cell ne2 B3
            have e0 : wr.cell? ⟨W5.heap.size, 0, none⟩ = some (.string k) := bW.cell ne5 (by simp [go_sem])
            have e1 : wr.cell? ⟨W5.heap.size, 1, none⟩ = some (.slice p3 j c3) := bW.cell ne5 (by simp [go_sem])
            have e2 : wr.cell? ⟨W5.heap.size, 2, none⟩ = some (.int .u64 d) := bW.cell ne5 (by simp [go_sem])
            have e3 : wr.cell? ⟨W5.heap.size, 3, none⟩ = some (.int .u64 b) := bW.cell ne5 (by simp [go_sem])
            have HPr := Lib.hid (bW.bytes HP6.out nep)
            have HXr := Lib.hid (bW.bytes XB6.out nex)
            have HYr := Lib.hid (bW.bytes YB6.out ney)
            have belr : Below w.heap.size w wr := (tr gb5 (by go_grown)).trans (bW.below hwg)
            have hse := eqB_refl k zz d b
            go_wp2_with fail
            refine (requal_any k k p2 pz j c2 j j zz zz d d b b wr HXr.out HPr.out).mono ?_
            rintro e V1 ⟨rfl, v1⟩
            have hq0 : w.heap.size < wr.heap.size := by rw [← bW.size]; exact AS
            have hq5 : W5.heap.size < wr.heap.size := by rw [← bW.size]; simp
            obtain ⟨s0, s1, s2, s3, ss⟩ := keep4 v1 hq0 c0 c1' c2' c3'
            obtain ⟨t0, t1, t2, t3, ts⟩ := keep4 v1 hq5 e0 e1 e2 e3
            clear c0 c1' c2' c3' e0 e1 e2 e3 d0 d1 d2 d3
            go_wp2_with fail
            refine (requal_any k k p3 pz j c3 j j zz zz d d b b V1 (HYr.out.below v1) (HPr.out.below v1)).mono ?_
            rintro e V2 ⟨rfl, v2⟩
            go_wp2_with fail
            refine (HK.out _ (tr (tr belr v1) v2)).mono ?_
            rintro e V3 ⟨rfl, v3⟩
            go_wp2_with fail
            go_ret
            exact ⟨rfl, tr (tr (tr belr v1) v2) v3⟩
    · have hb0 := H1.out.below bel
      have hl : l ≤ 100000 := by simp at hf; omega
      clear b1 hf
      obtain ⟨i0, hi, hzz⟩ := Option.map_eq_some_iff.1 (by kernel_rfl : (Tryd.prog.info? 5).map (fun i => (i.zero, i.size, i.bytes)) = some (some (.int .u8 0), 1, 1))
      simp only [Prod.mk.injEq] at hzz
      obtain ⟨hz0, hz1, hz2⟩ := hzz
      have HB0 := Lib.hid hb0
      clear hb0
      go_wp2_with (at_builtin; refine wpList_append_fresh rfl _ _ 31 rfl 5 i0 Tryd.underlying31 hi hz0 hz1 hz2 rfl p l c zs rfl HB0.out hl ?_)
      all_goals (intro p1 c1 W1 ob ol of1)
      all_goals (obtain ⟨j0, j1, j2, j3, js⟩ := keep4 ol (by omega) k0 k1 k2 k3)
      all_goals (have jb := tr bel ol)
      all_goals (clear k0 k1 k2 k3)
      all_goals (obtain ⟨r, hr⟩ : ∃ r, chk k l b = r := ⟨_, rfl⟩)
      all_goals (have HN := Lib.hid (hr ▸ enew_any k p1 l c1 zs d b hl W1 ob))
      all_goals (have HV := Lib.hid (fun (w1 : World) => hr ▸ evalid_any k p l c d b w1))
      all_goals (have HR := Lib.hid (fun (w1 : World) => hr ▸ rcheck_any k p l c b w1))
      all_goals (have HP := Lib.hid (fun (w1 : World) (o : Ev.BytesOf w1 p1 l zs) => ecopy_any k p1 l c1 zs d b hl w1 o))
      all_goals clear hr
      · go_wp2_with fail
        refine HN.out.mono ?_
        rintro e W2 ⟨n1, hcase⟩
        have ob2 := Lib.hid (ob.below n1)
        obtain ⟨g0, g1, g2, g3, gs⟩ := keep4 n1 js j0 j1 j2 j3
        have gb := tr jb n1
        clear j0 j1 j2 j3 HN
        rcases hcase with ⟨hc, rfl⟩ | ⟨rfl, p2, c2, rfl, xb, xf⟩
        · have hc2 : (r == 0) = false := by simpa using hc
          go_wp2_with fail
          refine (HR.out _).mono ?_
          rintro e W3 ⟨rfl, n2⟩
          obtain ⟨cw, fw, sw⟩ := bcell n2
          have x0 : W3.cell? ⟨W2.heap.size, 0, none⟩ = some (.string ⟨#[]⟩) := by rw [cw _ _ (by simp)]; simp [go_sem]
          have x1 : W3.cell? ⟨W2.heap.size, 1, none⟩ = some (.slice none 0 0) := by rw [cw _ _ (by simp)]; simp [go_sem]
          have x2 : W3.cell? ⟨W2.heap.size, 2, none⟩ = some (.int .u64 0) := by rw [cw _ _ (by simp)]; simp [go_sem]
          have x3 : W3.cell? ⟨W2.heap.size, 3, none⟩ = some (.int .u64 0) := by rw [cw _ _ (by simp)]; simp [go_sem]
          have xs : W2.heap.size < W3.heap.size := by simp at sw; omega
          have n3 : Below W2.heap.size W2 W3 := tr (by go_grown) n2
          clear cw fw sw n2
          obtain ⟨k0, k1, k2, k3, ks⟩ := keep4 n3 gs g0 g1 g2 g3
          clear g0 g1 g2 g3
          go_wp2_with fail
          refine (HV.out _).mono ?_
          rintro e W4 ⟨rfl, n4⟩
          obtain ⟨j0, j1, j2, j3, js⟩ := keep4 n4 ks k0 k1 k2 k3
          obtain ⟨y0, y1, y2, y3, ys⟩ := keep4 n4 xs x0 x1 x2 x3
          have ob4 := Lib.hid ((ob2.out.below n3).below n4)
          have gb4 := tr (tr gb n3) n4
          clear k0 k1 k2 k3 x0 x1 x2 x3
          go_wp2_with fail
          refine (HP.out _ ob4.out).mono ?_
          rintro e W5 ⟨p3, c3, rfl, yb, n5, yf⟩
          obtain ⟨k0, k1, k2, k3, ks⟩ := keep4 n5 js j0 j1 j2 j3
          obtain ⟨x0, x1, x2, x3, xs⟩ := keep4 n5 ys y0 y1 y2 y3
          have ob5 := Lib.hid (ob4.out.below n5)
          have gb5 := tr gb4 n5
          clear j0 j1 j2 j3 y0 y1 y2 y3
          have hN : W2.heap.size ≤ W5.heap.size := by have := n3.size; have := n4.size; have := n5.size; omega
          have own6 : ∃ g, (0 < l → p1 = some ⟨g, 0, none⟩ ∧ w1.heap.size ≤ g ∧ g < W2.heap.size ∧ (∀ i, W5.frozen? ⟨g, i, none⟩ = false)) ∧ (l = 0 → g = W5.heap.size + 1) := by
            rcases Nat.eq_zero_or_pos l with h0 | h0
            · exact ⟨W5.heap.size + 1, fun h => by omega, fun _ => rfl⟩
            · obtain ⟨b0, o0, e0, -⟩ := ob.2.2.1 h0
              obtain ⟨u1, u2, u3, u4⟩ := of1 _ e0
              have u5 := n1.size
              refine ⟨b0, fun _ => ⟨by rw [e0, u3], by simp only at u1; omega, by simp only at u2; omega, fun i => ?_⟩, fun h => by omega⟩
              have n15 := tr (tr (tr n1 n3) n4) n5
              rw [(bcell n15).2.1 _ _ (by simpa using u2)]
              exact u4 i
          obtain ⟨g, og, og0⟩ := own6
          have hw1 := bel.size
          have ne0 : w.heap.size ≠ g := by
            rcases Nat.eq_zero_or_pos l with h0 | h0
            · rw [og0 h0]; omega
            · obtain ⟨-, u2, -⟩ := og h0; omega
          have ne2 : W2.heap.size ≠ g := by
            rcases Nat.eq_zero_or_pos l with h0 | h0
            · rw [og0 h0]; omega
            · obtain ⟨-, -, u3, -⟩ := og h0; omega
          have ne5 : W5.heap.size ≠ g := by
            rcases Nat.eq_zero_or_pos l with h0 | h0
            · rw [og0 h0]; omega
            · obtain ⟨-, -, u3, -⟩ := og h0; omega
          have hwg : w.heap.size ≤ g := by
            rcases Nat.eq_zero_or_pos l with h0 | h0
            · rw [og0 h0]; omega
            · obtain ⟨-, u2, -⟩ := og h0; omega
          have nep : 0 < l → ∀ x, p = some x → x.block ≠ g := by
            rintro h0 x rfl
            obtain ⟨-, u2, -⟩ := og h0
            have := BytesOf.lt HB0.out h0
            omega
          have ney : 0 < l → ∀ x, p3 = some x → x.block ≠ g := by
            rintro h0 x rfl
            obtain ⟨-, -, u3, -⟩ := og h0
            have := yf x rfl
            have := n3.size
            have := n4.size
            omega
          obtain ⟨A0, A1, A2, A3, AS⟩ := keep4 (by go_grown : Below W5.heap.size W5 (W5.alloc (.cells #[.string k, .slice p3 l c3, .int .u64 d, .int .u64 b] 33))) ks k0 k1 k2 k3
          obtain ⟨B0, B1, B2, B3, BS⟩ := keep4 (by go_grown : Below W5.heap.size W5 (W5.alloc (.cells #[.string k, .slice p3 l c3, .int .u64 d, .int .u64 b] 33))) xs x0 x1 x2 x3
          have HP6 := Lib.hid ((HB0.out.below (tr (tr (tr (tr ol n1) n3) n4) n5)).below (by go_grown : Below W5.heap.size W5 (W5.alloc (.cells #[.string k, .slice p3 l c3, .int .u64 d, .int .u64 b] 33))))
          have YB6 := Lib.hid (yb.below (by go_grown : Below W5.heap.size W5 (W5.alloc (.cells #[.string k, .slice p3 l c3, .int .u64 d, .int .u64 b] 33))))
          have OB6 := Lib.hid (ob5.out.below (by go_grown : Below W5.heap.size W5 (W5.alloc (.cells #[.string k, .slice p3 l c3, .int .u64 d, .int .u64 b] 33))))
          have OG := Lib.hid og
          have OG0 := Lib.hid og0
          have YB := Lib.hid yb
          clear og og0 yb
          go_wp2_with fail
          go_loopw [10, 67] (fun t i wr => ∃ j : Nat, j ≤ l ∧ i = .int .i64 j ∧ But g (W5.alloc (.cells #[.string k, .slice p3 l c3, .int .u64 d, .int .u64 b] 33)) wr ∧ (∀ q, q < l → ∃ z : Int, wr.cell? ⟨g, q, none⟩ = some (.int .u8 z)) ∧ (0 < l → ∀ q, wr.frozen? ⟨g, q, none⟩ = false)) (fun _ i _ => l - (intOf i).toNat)
          case atStart =>
            refine ⟨0, Nat.zero_le _, rfl, But.refl _ _, fun q hq => ?_, fun hl q => ?_⟩
            · obtain ⟨e1, -⟩ := OG.out (by omega)
              obtain ⟨o1, -, o3, -⟩ := OB6.out
              obtain ⟨p5, o5, e5, hc5⟩ := o3 (by omega)
              rw [e1] at e5
              cases e5
              exact ⟨_, by simpa using hc5 q hq⟩
            · obtain ⟨e1, -, e3, e4⟩ := OG.out hl
              rw [(bcell (by go_grown : Below W5.heap.size W5 (W5.alloc (.cells #[.string k, .slice p3 l c3, .int .u64 d, .int .u64 b] 33)))).2.1 _ _ (by omega)]
              exact e4 q
          case round =>
            obtain ⟨j, hj, rfl, bW, hz, hfz⟩ := hrel
            by_cases hlt : j < l
            · obtain ⟨z, hz1⟩ := hz j hlt
              obtain ⟨e1, e2, e3, e4⟩ := OG.out (by omega)
              subst e1
              have hfj := hfz (by omega) j
              go_wp2_with fail
              refine ⟨⟨j + 1, by omega, by go_num, bW.setCell _, fun q hq => ?_, fun h q => ?_⟩, by simp [intOf]; omega⟩
              · by_cases e : q = j
                · subst e
                  exact ⟨_, World.cell?_setCell_same' _ _ _ (by rw [hz1]; rfl)⟩
                · obtain ⟨z', hz'⟩ := hz q hq
                  exact ⟨z', by simpa [go_sem, e, Ne.symm e] using hz'⟩
              · simpa [go_sem] using hfz h q
            · obtain rfl : j = l := by omega
              have c0 := bW.cell ne0 A0; have c1' := bW.cell ne0 A1; have c2' := bW.cell ne0 A2; have c3' := bW.cell ne0 A3
              have d0 := bW.cell ne2 B0; have d1 := bW.cell ne2 B1; have d2 := bW.cell ne2 B2; have d3 := bW.cell ne2 B3
              have e0 : wr.cell? ⟨W5.heap.size, 0, none⟩ = some (.string k) := bW.cell ne5 (by simp [go_sem])
              have e1 : wr.cell? ⟨W5.heap.size, 1, none⟩ = some (.slice p3 j c3) := bW.cell ne5 (by simp [go_sem])
              have e2 : wr.cell? ⟨W5.heap.size, 2, none⟩ = some (.int .u64 d) := bW.cell ne5 (by simp [go_sem])
              have e3 : wr.cell? ⟨W5.heap.size, 3, none⟩ = some (.int .u64 b) := bW.cell ne5 (by simp [go_sem])
              have HPr := Lib.hid (bW.bytes HP6.out nep)
              have HYr := Lib.hid (bW.bytes YB6.out ney)
              have belr : Below w.heap.size w wr := (tr gb5 (by go_grown)).trans (bW.below hwg)
              have hsx := eqB_refl ⟨#[]⟩ [] 0 0
              have hse := eqB_refl k zs d b
              go_wp2_with fail
              refine (requal_any ⟨#[]⟩ ⟨#[]⟩ none none 0 0 0 0 [] [] 0 0 0 0 wr (BytesOf.nothing wr) (BytesOf.nothing wr)).mono ?_
              rintro e V1 ⟨rfl, v1⟩
              have hq0 : w.heap.size < wr.heap.size := by rw [← bW.size]; exact AS
              have hq5 : W5.heap.size < wr.heap.size := by rw [← bW.size]; simp
              obtain ⟨s0, s1, s2, s3, ss⟩ := keep4 v1 hq0 c0 c1' c2' c3'
              obtain ⟨t0, t1, t2, t3, ts⟩ := keep4 v1 hq5 e0 e1 e2 e3
              clear c0 c1' c2' c3' e0 e1 e2 e3 d0 d1 d2 d3
              go_wp2_with fail
              refine (requal_any k k p3 p j c3 j c zs zs d d b b V1 (HYr.out.below v1) (HPr.out.below v1)).mono ?_
              rintro e V2 ⟨rfl, v2⟩
              go_wp2_with fail
              refine (HK.out _ (tr (tr belr v1) v2)).mono ?_
              rintro e V3 ⟨rfl, v3⟩
              go_wp2_with fail
              go_ret
              exact ⟨rfl, tr (tr (tr belr v1) v2) v3⟩
        · go_wp2_with fail
          refine (HR.out _).mono ?_
          rintro e W3 ⟨rfl, n2⟩
          obtain ⟨cw, fw, sw⟩ := bcell n2
          have x0 : W3.cell? ⟨W2.heap.size, 0, none⟩ = some (.string k) := by rw [cw _ _ (by simp)]; simp [go_sem]
          have x1 : W3.cell? ⟨W2.heap.size, 1, none⟩ = some (.slice p2 l c2) := by rw [cw _ _ (by simp)]; simp [go_sem]
          have x2 : W3.cell? ⟨W2.heap.size, 2, none⟩ = some (.int .u64 d) := by rw [cw _ _ (by simp)]; simp [go_sem]
          have x3 : W3.cell? ⟨W2.heap.size, 3, none⟩ = some (.int .u64 b) := by rw [cw _ _ (by simp)]; simp [go_sem]
          have xs : W2.heap.size < W3.heap.size := by simp at sw; omega
          have n3 : Below W2.heap.size W2 W3 := tr (by go_grown) n2
          clear cw fw sw n2
          obtain ⟨k0, k1, k2, k3, ks⟩ := keep4 n3 gs g0 g1 g2 g3
          clear g0 g1 g2 g3
          go_wp2_with fail
          refine (HV.out _).mono ?_
          rintro e W4 ⟨rfl, n4⟩
          obtain ⟨j0, j1, j2, j3, js⟩ := keep4 n4 ks k0 k1 k2 k3
          obtain ⟨y0, y1, y2, y3, ys⟩ := keep4 n4 xs x0 x1 x2 x3
          have ob4 := Lib.hid ((ob2.out.below n3).below n4)
          have gb4 := tr (tr gb n3) n4
          clear k0 k1 k2 k3 x0 x1 x2 x3
          go_wp2_with fail
          refine (HP.out _ ob4.out).mono ?_
          rintro e W5 ⟨p3, c3, rfl, yb, n5, yf⟩
          obtain ⟨k0, k1, k2, k3, ks⟩ := keep4 n5 js j0 j1 j2 j3
          obtain ⟨x0, x1, x2, x3, xs⟩ := keep4 n5 ys y0 y1 y2 y3
          have ob5 := Lib.hid (ob4.out.below n5)
          have gb5 := tr gb4 n5
          clear j0 j1 j2 j3 y0 y1 y2 y3
          have hN : W2.heap.size ≤ W5.heap.size := by have := n3.size; have := n4.size; have := n5.size; omega
          have own6 : ∃ g, (0 < l → p1 = some ⟨g, 0, none⟩ ∧ w1.heap.size ≤ g ∧ g < W2.heap.size ∧ (∀ i, W5.frozen? ⟨g, i, none⟩ = false)) ∧ (l = 0 → g = W5.heap.size + 1) := by
            rcases Nat.eq_zero_or_pos l with h0 | h0
            · exact ⟨W5.heap.size + 1, fun h => by omega, fun _ => rfl⟩
            · obtain ⟨b0, o0, e0, -⟩ := ob.2.2.1 h0
              obtain ⟨u1, u2, u3, u4⟩ := of1 _ e0
              have u5 := n1.size
              refine ⟨b0, fun _ => ⟨by rw [e0, u3], by simp only at u1; omega, by simp only at u2; omega, fun i => ?_⟩, fun h => by omega⟩
              have n15 := tr (tr (tr n1 n3) n4) n5
              rw [(bcell n15).2.1 _ _ (by simpa using u2)]
              exact u4 i
          obtain ⟨g, og, og0⟩ := own6
          have hw1 := bel.size
          have ne0 : w.heap.size ≠ g := by
            rcases Nat.eq_zero_or_pos l with h0 | h0
            · rw [og0 h0]; omega
            · obtain ⟨-, u2, -⟩ := og h0; omega
          have ne2 : W2.heap.size ≠ g := by
            rcases Nat.eq_zero_or_pos l with h0 | h0
            · rw [og0 h0]; omega
            · obtain ⟨-, -, u3, -⟩ := og h0; omega
          have ne5 : W5.heap.size ≠ g := by
            rcases Nat.eq_zero_or_pos l with h0 | h0
            · rw [og0 h0]; omega
            · obtain ⟨-, -, u3, -⟩ := og h0; omega
          have hwg : w.heap.size ≤ g := by
            rcases Nat.eq_zero_or_pos l with h0 | h0
            · rw [og0 h0]; omega
            · obtain ⟨-, u2, -⟩ := og h0; omega
          have nep : 0 < l → ∀ x, p = some x → x.block ≠ g := by
            rintro h0 x rfl
            obtain ⟨-, u2, -⟩ := og h0
            have := BytesOf.lt HB0.out h0
            omega
          have ney : 0 < l → ∀ x, p3 = some x → x.block ≠ g := by
            rintro h0 x rfl
            obtain ⟨-, -, u3, -⟩ := og h0
            have := yf x rfl
            have := n3.size
            have := n4.size
            omega
          obtain ⟨A0, A1, A2, A3, AS⟩ := keep4 (by go_grown : Below W5.heap.size W5 (W5.alloc (.cells #[.string k, .slice p3 l c3, .int .u64 d, .int .u64 b] 33))) ks k0 k1 k2 k3
          obtain ⟨B0, B1, B2, B3, BS⟩ := keep4 (by go_grown : Below W5.heap.size W5 (W5.alloc (.cells #[.string k, .slice p3 l c3, .int .u64 d, .int .u64 b] 33))) xs x0 x1 x2 x3
          have nex : 0 < l → ∀ x, p2 = some x → x.block ≠ g := by
            rintro h0 x rfl
            obtain ⟨-, -, u3, -⟩ := og h0
            have e1 := xf x rfl
            obtain ⟨b0, o0, e0, -⟩ := ob.2.2.1 h0
            obtain ⟨u1, u2, -⟩ := of1 _ e0
            obtain ⟨e2, -⟩ := og h0
            rw [e2] at e0
            cases e0
            simp only at u2
            omega
          have XB6 := Lib.hid (((xb.below n3).below n4).below n5 |>.below (by go_grown : Below W5.heap.size W5 (W5.alloc (.cells #[.string k, .slice p3 l c3, .int .u64 d, .int .u64 b] 33))))
          have HP6 := Lib.hid ((HB0.out.below (tr (tr (tr (tr ol n1) n3) n4) n5)).below (by go_grown : Below W5.heap.size W5 (W5.alloc (.cells #[.string k, .slice p3 l c3, .int .u64 d, .int .u64 b] 33))))
          have YB6 := Lib.hid (yb.below (by go_grown : Below W5.heap.size W5 (W5.alloc (.cells #[.string k, .slice p3 l c3, .int .u64 d, .int .u64 b] 33))))
          have OB6 := Lib.hid (ob5.out.below (by go_grown : Below W5.heap.size W5 (W5.alloc (.cells #[.string k, .slice p3 l c3, .int .u64 d, .int .u64 b] 33))))
          have OG := Lib.hid og
          have OG0 := Lib.hid og0
          have YB := Lib.hid yb
          clear og og0 yb
          go_wp2_with fail
          go_loopw [10, 67] (fun t i wr => ∃ j : Nat, j ≤ l ∧ i = .int .i64 j ∧ But g (W5.alloc (.cells #[.string k, .slice p3 l c3, .int .u64 d, .int .u64 b] 33)) wr ∧ (∀ q, q < l → ∃ z : Int, wr.cell? ⟨g, q, none⟩ = some (.int .u8 z)) ∧ (0 < l → ∀ q, wr.frozen? ⟨g, q, none⟩ = false)) (fun _ i _ => l - (intOf i).toNat)
          case atStart =>
            refine ⟨0, Nat.zero_le _, rfl, But.refl _ _, fun q hq => ?_, fun hl q => ?_⟩
            · obtain ⟨e1, -⟩ := OG.out (by omega)
              obtain ⟨o1, -, o3, -⟩ := OB6.out
              obtain ⟨p5, o5, e5, hc5⟩ := o3 (by omega)
              rw [e1] at e5
              cases e5
              exact ⟨_, by simpa using hc5 q hq⟩
            · obtain ⟨e1, -, e3, e4⟩ := OG.out hl
              rw [(bcell (by go_grown : Below W5.heap.size W5 (W5.alloc (.cells #[.string k, .slice p3 l c3, .int .u64 d, .int .u64 b] 33)))).2.1 _ _ (by omega)]
              exact e4 q
          case round =>
            obtain ⟨j, hj, rfl, bW, hz, hfz⟩ := hrel
            by_cases hlt : j < l
            · obtain ⟨z, hz1⟩ := hz j hlt
              obtain ⟨e1, e2, e3, e4⟩ := OG.out (by omega)
              subst e1
              have hfj := hfz (by omega) j
              go_wp2_with fail
              refine ⟨⟨j + 1, by omega, by go_num, bW.setCell _, fun q hq => ?_, fun h q => ?_⟩, by simp [intOf]; omega⟩
              · by_cases e : q = j
                · subst e
                  exact ⟨_, World.cell?_setCell_same' _ _ _ (by rw [hz1]; rfl)⟩
                · obtain ⟨z', hz'⟩ := hz q hq
                  exact ⟨z', by simpa [go_sem, e, Ne.symm e] using hz'⟩
              · simpa [go_sem] using hfz h q
            · obtain rfl : j = l := by omega
              have c0 := bW.cell ne0 A0; have c1' := bW.cell ne0 A1; have c2' := bW.cell ne0 A2; have c3' := bW.cell ne0 A3
              have d0 := bW.cell ne2 B0; have d1 := bW.cell ne2 B1; have d2 := bW.cell ne2 B2; have d3 := bW.cell ne2 B3
              have e0 : wr.cell? ⟨W5.heap.size, 0, none⟩ = some (.string k) := bW.cell ne5 (by simp [go_sem])
              have e1 : wr.cell? ⟨W5.heap.size, 1, none⟩ = some (.slice p3 j c3) := bW.cell ne5 (by simp [go_sem])
              have e2 : wr.cell? ⟨W5.heap.size, 2, none⟩ = some (.int .u64 d) := bW.cell ne5 (by simp [go_sem])
              have e3 : wr.cell? ⟨W5.heap.size, 3, none⟩ = some (.int .u64 b) := bW.cell ne5 (by simp [go_sem])
              have HPr := Lib.hid (bW.bytes HP6.out nep)
              have HXr := Lib.hid (bW.bytes XB6.out nex)
              have HYr := Lib.hid (bW.bytes YB6.out ney)
              have belr : Below w.heap.size w wr := (tr gb5 (by go_grown)).trans (bW.below hwg)
              have hse := eqB_refl k zs d b
              go_wp2_with fail
              refine (requal_any k k p2 p j c2 j c zs zs d d b b wr HXr.out HPr.out).mono ?_
              rintro e V1 ⟨rfl, v1⟩
              have hq0 : w.heap.size < wr.heap.size := by rw [← bW.size]; exact AS
              have hq5 : W5.heap.size < wr.heap.size := by rw [← bW.size]; simp
              obtain ⟨s0, s1, s2, s3, ss⟩ := keep4 v1 hq0 c0 c1' c2' c3'
              obtain ⟨t0, t1, t2, t3, ts⟩ := keep4 v1 hq5 e0 e1 e2 e3
              clear c0 c1' c2' c3' e0 e1 e2 e3 d0 d1 d2 d3
              go_wp2_with fail
              refine (requal_any k k p3 p j c3 j c zs zs d d b b V1 (HYr.out.below v1) (HPr.out.below v1)).mono ?_
              rintro e V2 ⟨rfl, v2⟩
              go_wp2_with fail
              refine (HK.out _ (tr (tr belr v1) v2)).mono ?_
              rintro e V3 ⟨rfl, v3⟩
              go_wp2_with fail
              go_ret
              exact ⟨rfl, tr (tr (tr belr v1) v2) v3⟩
      · go_wp2_with fail
        refine HN.out.mono ?_
        rintro e W2 ⟨n1, hcase⟩
        have ob2 := Lib.hid (ob.below n1)
        obtain ⟨g0, g1, g2, g3, gs⟩ := keep4 n1 js j0 j1 j2 j3
        have gb := tr jb n1
        clear j0 j1 j2 j3 HN
        rcases hcase with ⟨hc, rfl⟩ | ⟨rfl, p2, c2, rfl, xb, xf⟩
        · have hc2 : (r == 0) = false := by simpa using hc
          go_wp2_with fail
          refine (HR.out _).mono ?_
          rintro e W3 ⟨rfl, n2⟩
          obtain ⟨cw, fw, sw⟩ := bcell n2
          have x0 : W3.cell? ⟨W2.heap.size, 0, none⟩ = some (.string ⟨#[]⟩) := by rw [cw _ _ (by simp)]; simp [go_sem]
          have x1 : W3.cell? ⟨W2.heap.size, 1, none⟩ = some (.slice none 0 0) := by rw [cw _ _ (by simp)]; simp [go_sem]
          have x2 : W3.cell? ⟨W2.heap.size, 2, none⟩ = some (.int .u64 0) := by rw [cw _ _ (by simp)]; simp [go_sem]
          have x3 : W3.cell? ⟨W2.heap.size, 3, none⟩ = some (.int .u64 0) := by rw [cw _ _ (by simp)]; simp [go_sem]
          have xs : W2.heap.size < W3.heap.size := by simp at sw; omega
          have n3 : Below W2.heap.size W2 W3 := tr (by go_grown) n2
          clear cw fw sw n2
          obtain ⟨k0, k1, k2, k3, ks⟩ := keep4 n3 gs g0 g1 g2 g3
          clear g0 g1 g2 g3
          go_wp2_with fail
          refine (HV.out _).mono ?_
          rintro e W4 ⟨rfl, n4⟩
          obtain ⟨j0, j1, j2, j3, js⟩ := keep4 n4 ks k0 k1 k2 k3
          obtain ⟨y0, y1, y2, y3, ys⟩ := keep4 n4 xs x0 x1 x2 x3
          have ob4 := Lib.hid ((ob2.out.below n3).below n4)
          have gb4 := tr (tr gb n3) n4
          clear k0 k1 k2 k3 x0 x1 x2 x3
          go_wp2_with fail
          refine (HP.out _ ob4.out).mono ?_
          rintro e W5 ⟨p3, c3, rfl, yb, n5, yf⟩
          obtain ⟨k0, k1, k2, k3, ks⟩ := keep4 n5 js j0 j1 j2 j3
          obtain ⟨x0, x1, x2, x3, xs⟩ := keep4 n5 ys y0 y1 y2 y3
          have ob5 := Lib.hid (ob4.out.below n5)
          have gb5 := tr gb4 n5
          clear j0 j1 j2 j3 y0 y1 y2 y3
          have hN : W2.heap.size ≤ W5.heap.size := by have := n3.size; have := n4.size; have := n5.size; omega
          have own6 : ∃ g, (0 < l → p1 = some ⟨g, 0, none⟩ ∧ w1.heap.size ≤ g ∧ g < W2.heap.size ∧ (∀ i, W5.frozen? ⟨g, i, none⟩ = false)) ∧ (l = 0 → g = W5.heap.size + 1) := by
            rcases Nat.eq_zero_or_pos l with h0 | h0
            · exact ⟨W5.heap.size + 1, fun h => by omega, fun _ => rfl⟩
            · obtain ⟨b0, o0, e0, -⟩ := ob.2.2.1 h0
              obtain ⟨u1, u2, u3, u4⟩ := of1 _ e0
              have u5 := n1.size
              refine ⟨b0, fun _ => ⟨by rw [e0, u3], by simp only at u1; omega, by simp only at u2; omega, fun i => ?_⟩, fun h => by omega⟩
              have n15 := tr (tr (tr n1 n3) n4) n5
              rw [(bcell n15).2.1 _ _ (by simpa using u2)]
              exact u4 i
          obtain ⟨g, og, og0⟩ := own6
          have hw1 := bel.size
          have ne0 : w.heap.size ≠ g := by
            rcases Nat.eq_zero_or_pos l with h0 | h0
            · rw [og0 h0]; omega
            · obtain ⟨-, u2, -⟩ := og h0; omega
          have ne2 : W2.heap.size ≠ g := by
            rcases Nat.eq_zero_or_pos l with h0 | h0
            · rw [og0 h0]; omega
            · obtain ⟨-, -, u3, -⟩ := og h0; omega
          have ne5 : W5.heap.size ≠ g := by
            rcases Nat.eq_zero_or_pos l with h0 | h0
            · rw [og0 h0]; omega
            · obtain ⟨-, -, u3, -⟩ := og h0; omega
          have hwg : w.heap.size ≤ g := by
            rcases Nat.eq_zero_or_pos l with h0 | h0
            · rw [og0 h0]; omega
            · obtain ⟨-, u2, -⟩ := og h0; omega
          have nep : 0 < l → ∀ x, p = some x → x.block ≠ g := by
            rintro h0 x rfl
            obtain ⟨-, u2, -⟩ := og h0
            have := BytesOf.lt HB0.out h0
            omega
          have ney : 0 < l → ∀ x, p3 = some x → x.block ≠ g := by
            rintro h0 x rfl
            obtain ⟨-, -, u3, -⟩ := og h0
            have := yf x rfl
            have := n3.size
            have := n4.size
            omega
          obtain ⟨A0, A1, A2, A3, AS⟩ := keep4 (by go_grown : Below W5.heap.size W5 (W5.alloc (.cells #[.string k, .slice p3 l c3, .int .u64 d, .int .u64 b] 33))) ks k0 k1 k2 k3
          obtain ⟨B0, B1, B2, B3, BS⟩ := keep4 (by go_grown : Below W5.heap.size W5 (W5.alloc (.cells #[.string k, .slice p3 l c3, .int .u64 d, .int .u64 b] 33))) xs x0 x1 x2 x3
          have HP6 := Lib.hid ((HB0.out.below (tr (tr (tr (tr ol n1) n3) n4) n5)).below (by go_grown : Below W5.heap.size W5 (W5.alloc (.cells #[.string k, .slice p3 l c3, .int .u64 d, .int .u64 b] 33))))
          have YB6 := Lib.hid (yb.below (by go_grown : Below W5.heap.size W5 (W5.alloc (.cells #[.string k, .slice p3 l c3, .int .u64 d, .int .u64 b] 33))))
          have OB6 := Lib.hid (ob5.out.below (by go_grown : Below W5.heap.size W5 (W5.alloc (.cells #[.string k, .slice p3 l c3, .int .u64 d, .int .u64 b] 33))))
          have OG := Lib.hid og
          have OG0 := Lib.hid og0
          have YB := Lib.hid yb
          clear og og0 yb
          go_wp2_with fail
          go_loopw [10, 67] (fun t i wr => ∃ j : Nat, j ≤ l ∧ i = .int .i64 j ∧ But g (W5.alloc (.cells #[.string k, .slice p3 l c3, .int .u64 d, .int .u64 b] 33)) wr ∧ (∀ q, q < l → ∃ z : Int, wr.cell? ⟨g, q, none⟩ = some (.int .u8 z)) ∧ (0 < l → ∀ q, wr.frozen? ⟨g, q, none⟩ = false)) (fun _ i _ => l - (intOf i).toNat)
          case atStart =>
            refine ⟨0, Nat.zero_le _, rfl, But.refl _ _, fun q hq => ?_, fun hl q => ?_⟩
            · obtain ⟨e1, -⟩ := OG.out (by omega)
              obtain ⟨o1, -, o3, -⟩ := OB6.out
              obtain ⟨p5, o5, e5, hc5⟩ := o3 (by omega)
              rw [e1] at e5
              cases e5
              exact ⟨_, by simpa using hc5 q hq⟩
            · obtain ⟨e1, -, e3, e4⟩ := OG.out hl
              rw [(bcell (by go_grown : Below W5.heap.size W5 (W5.alloc (.cells #[.string k, .slice p3 l c3, .int .u64 d, .int .u64 b] 33)))).2.1 _ _ (by omega)]
              exact e4 q
          case round =>
            obtain ⟨j, hj, rfl, bW, hz, hfz⟩ := hrel
            by_cases hlt : j < l
            · obtain ⟨z, hz1⟩ := hz j hlt
              obtain ⟨e1, e2, e3, e4⟩ := OG.out (by omega)
              subst e1
              have hfj := hfz (by omega) j
              go_wp2_with fail
              refine ⟨⟨j + 1, by omega, by go_num, bW.setCell _, fun q hq => ?_, fun h q => ?_⟩, by simp [intOf]; omega⟩
              · by_cases e : q = j
                · subst e
                  exact ⟨_, World.cell?_setCell_same' _ _ _ (by rw [hz1]; rfl)⟩
                · obtain ⟨z', hz'⟩ := hz q hq
                  exact ⟨z', by simpa [go_sem, e, Ne.symm e] using hz'⟩
              · simpa [go_sem] using hfz h q
            · obtain rfl : j = l := by omega
              have c0 := bW.cell ne0 A0; have c1' := bW.cell ne0 A1; have c2' := bW.cell ne0 A2; have c3' := bW.cell ne0 A3
              have d0 := bW.cell ne2 B0; have d1 := bW.cell ne2 B1; have d2 := bW.cell ne2 B2; have d3 := bW.cell ne2 B3
              have e0 : wr.cell? ⟨W5.heap.size, 0, none⟩ = some (.string k) := bW.cell ne5 (by simp [go_sem])
              have e1 : wr.cell? ⟨W5.heap.size, 1, none⟩ = some (.slice p3 j c3) := bW.cell ne5 (by simp [go_sem])
              have e2 : wr.cell? ⟨W5.heap.size, 2, none⟩ = some (.int .u64 d) := bW.cell ne5 (by simp [go_sem])
              have e3 : wr.cell? ⟨W5.heap.size, 3, none⟩ = some (.int .u64 b) := bW.cell ne5 (by simp [go_sem])
              have HPr := Lib.hid (bW.bytes HP6.out nep)
              have HYr := Lib.hid (bW.bytes YB6.out ney)
              have belr : Below w.heap.size w wr := (tr gb5 (by go_grown)).trans (bW.below hwg)
              have hsx := eqB_refl ⟨#[]⟩ [] 0 0
              have hse := eqB_refl k zs d b
              go_wp2_with fail
              refine (requal_any ⟨#[]⟩ ⟨#[]⟩ none none 0 0 0 0 [] [] 0 0 0 0 wr (BytesOf.nothing wr) (BytesOf.nothing wr)).mono ?_
              rintro e V1 ⟨rfl, v1⟩
              have hq0 : w.heap.size < wr.heap.size := by rw [← bW.size]; exact AS
              have hq5 : W5.heap.size < wr.heap.size := by rw [← bW.size]; simp
              obtain ⟨s0, s1, s2, s3, ss⟩ := keep4 v1 hq0 c0 c1' c2' c3'
              obtain ⟨t0, t1, t2, t3, ts⟩ := keep4 v1 hq5 e0 e1 e2 e3
              clear c0 c1' c2' c3' e0 e1 e2 e3 d0 d1 d2 d3
              go_wp2_with fail
              refine (requal_any k k p3 p j c3 j c zs zs d d b b V1 (HYr.out.below v1) (HPr.out.below v1)).mono ?_
              rintro e V2 ⟨rfl, v2⟩
              go_wp2_with fail
              refine (HK.out _ (tr (tr belr v1) v2)).mono ?_
              rintro e V3 ⟨rfl, v3⟩
              go_wp2_with fail
              go_ret
              exact ⟨rfl, tr (tr (tr belr v1) v2) v3⟩
        · go_wp2_with fail
          refine (HR.out _).mono ?_
          rintro e W3 ⟨rfl, n2⟩
          obtain ⟨cw, fw, sw⟩ := bcell n2
          have x0 : W3.cell? ⟨W2.heap.size, 0, none⟩ = some (.string k) := by rw [cw _ _ (by simp)]; simp [go_sem]
          have x1 : W3.cell? ⟨W2.heap.size, 1, none⟩ = some (.slice p2 l c2) := by rw [cw _ _ (by simp)]; simp [go_sem]
          have x2 : W3.cell? ⟨W2.heap.size, 2, none⟩ = some (.int .u64 d) := by rw [cw _ _ (by simp)]; simp [go_sem]
          have x3 : W3.cell? ⟨W2.heap.size, 3, none⟩ = some (.int .u64 b) := by rw [cw _ _ (by simp)]; simp [go_sem]
          have xs : W2.heap.size < W3.heap.size := by simp at sw; omega
          have n3 : Below W2.heap.size W2 W3 := tr (by go_grown) n2
          clear cw fw sw n2
          obtain ⟨k0, k1, k2, k3, ks⟩ := keep4 n3 gs g0 g1 g2 g3
          clear g0 g1 g2 g3
          go_wp2_with fail
          refine (HV.out _).mono ?_
          rintro e W4 ⟨rfl, n4⟩
          obtain ⟨j0, j1, j2, j3, js⟩ := keep4 n4 ks k0 k1 k2 k3
          obtain ⟨y0, y1, y2, y3, ys⟩ := keep4 n4 xs x0 x1 x2 x3
          have ob4 := Lib.hid ((ob2.out.below n3).below n4)
          have gb4 := tr (tr gb n3) n4
          clear k0 k1 k2 k3 x0 x1 x2 x3
          go_wp2_with fail
          refine (HP.out _ ob4.out).mono ?_
          rintro e W5 ⟨p3, c3, rfl, yb, n5, yf⟩
          obtain ⟨k0, k1, k2, k3, ks⟩ := keep4 n5 js j0 j1 j2 j3
          obtain ⟨x0, x1, x2, x3, xs⟩ := keep4 n5 ys y0 y1 y2 y3
          have ob5 := Lib.hid (ob4.out.below n5)
          have gb5 := tr gb4 n5
          clear j0 j1 j2 j3 y0 y1 y2 y3
          have hN : W2.heap.size ≤ W5.heap.size := by have := n3.size; have := n4.size; have := n5.size; omega
          have own6 : ∃ g, (0 < l → p1 = some ⟨g, 0, none⟩ ∧ w1.heap.size ≤ g ∧ g < W2.heap.size ∧ (∀ i, W5.frozen? ⟨g, i, none⟩ = false)) ∧ (l = 0 → g = W5.heap.size + 1) := by
            rcases Nat.eq_zero_or_pos l with h0 | h0
            · exact ⟨W5.heap.size + 1, fun h => by omega, fun _ => rfl⟩
            · obtain ⟨b0, o0, e0, -⟩ := ob.2.2.1 h0
              obtain ⟨u1, u2, u3, u4⟩ := of1 _ e0
              have u5 := n1.size
              refine ⟨b0, fun _ => ⟨by rw [e0, u3], by simp only at u1; omega, by simp only at u2; omega, fun i => ?_⟩, fun h => by omega⟩
              have n15 := tr (tr (tr n1 n3) n4) n5
              rw [(bcell n15).2.1 _ _ (by simpa using u2)]
              exact u4 i
          obtain ⟨g, og, og0⟩ := own6
          have hw1 := bel.size
          have ne0 : w.heap.size ≠ g := by
            rcases Nat.eq_zero_or_pos l with h0 | h0
            · rw [og0 h0]; omega
            · obtain ⟨-, u2, -⟩ := og h0; omega
          have ne2 : W2.heap.size ≠ g := by
            rcases Nat.eq_zero_or_pos l with h0 | h0
            · rw [og0 h0]; omega
            · obtain ⟨-, -, u3, -⟩ := og h0; omega
          have ne5 : W5.heap.size ≠ g := by
            rcases Nat.eq_zero_or_pos l with h0 | h0
            · rw [og0 h0]; omega
            · obtain ⟨-, -, u3, -⟩ := og h0; omega
          have hwg : w.heap.size ≤ g := by
            rcases Nat.eq_zero_or_pos l with h0 | h0
            · rw [og0 h0]; omega
            · obtain ⟨-, u2, -⟩ := og h0; omega
          have nep : 0 < l → ∀ x, p = some x → x.block ≠ g := by
            rintro h0 x rfl
            obtain ⟨-, u2, -⟩ := og h0
            have := BytesOf.lt HB0.out h0
            omega
          have ney : 0 < l → ∀ x, p3 = some x → x.block ≠ g := by
            rintro h0 x rfl
            obtain ⟨-, -, u3, -⟩ := og h0
            have := yf x rfl
            have := n3.size
            have := n4.size
            omega
          obtain ⟨A0, A1, A2, A3, AS⟩ := keep4 (by go_grown : Below W5.heap.size W5 (W5.alloc (.cells #[.string k, .slice p3 l c3, .int .u64 d, .int .u64 b] 33))) ks k0 k1 k2 k3
          obtain ⟨B0, B1, B2, B3, BS⟩ := keep4 (by go_grown : Below W5.heap.size W5 (W5.alloc (.cells #[.string k, .slice p3 l c3, .int .u64 d, .int .u64 b] 33))) xs x0 x1 x2 x3
          have nex : 0 < l → ∀ x, p2 = some x → x.block ≠ g := by
            rintro h0 x rfl
            obtain ⟨-, -, u3, -⟩ := og h0
            have e1 := xf x rfl
            obtain ⟨b0, o0, e0, -⟩ := ob.2.2.1 h0
            obtain ⟨u1, u2, -⟩ := of1 _ e0
            obtain ⟨e2, -⟩ := og h0
            rw [e2] at e0
            cases e0
            simp only at u2
            omega
          have XB6 := Lib.hid (((xb.below n3).below n4).below n5 |>.below (by go_grown : Below W5.heap.size W5 (W5.alloc (.cells #[.string k, .slice p3 l c3, .int .u64 d, .int .u64 b] 33))))
          have HP6 := Lib.hid ((HB0.out.below (tr (tr (tr (tr ol n1) n3) n4) n5)).below (by go_grown : Below W5.heap.size W5 (W5.alloc (.cells #[.string k, .slice p3 l c3, .int .u64 d, .int .u64 b] 33))))
          have YB6 := Lib.hid (yb.below (by go_grown : Below W5.heap.size W5 (W5.alloc (.cells #[.string k, .slice p3 l c3, .int .u64 d, .int .u64 b] 33))))
          have OB6 := Lib.hid (ob5.out.below (by go_grown : Below W5.heap.size W5 (W5.alloc (.cells #[.string k, .slice p3 l c3, .int .u64 d, .int .u64 b] 33))))
          have OG := Lib.hid og
          have OG0 := Lib.hid og0
          have YB := Lib.hid yb
          clear og og0 yb
          go_wp2_with fail
          go_loopw [10, 67] (fun t i wr => ∃ j : Nat, j ≤ l ∧ i = .int .i64 j ∧ But g (W5.alloc (.cells #[.string k, .slice p3 l c3, .int .u64 d, .int .u64 b] 33)) wr ∧ (∀ q, q < l → ∃ z : Int, wr.cell? ⟨g, q, none⟩ = some (.int .u8 z)) ∧ (0 < l → ∀ q, wr.frozen? ⟨g, q, none⟩ = false)) (fun _ i _ => l - (intOf i).toNat)
          case atStart =>
            refine ⟨0, Nat.zero_le _, rfl, But.refl _ _, fun q hq => ?_, fun hl q => ?_⟩
            · obtain ⟨e1, -⟩ := OG.out (by omega)
              obtain ⟨o1, -, o3, -⟩ := OB6.out
              obtain ⟨p5, o5, e5, hc5⟩ := o3 (by omega)
              rw [e1] at e5
              cases e5
              exact ⟨_, by simpa using hc5 q hq⟩
            · obtain ⟨e1, -, e3, e4⟩ := OG.out hl
              rw [(bcell (by go_grown : Below W5.heap.size W5 (W5.alloc (.cells #[.string k, .slice p3 l c3, .int .u64 d, .int .u64 b] 33)))).2.1 _ _ (by omega)]
              exact e4 q
          case round =>
            obtain ⟨j, hj, rfl, bW, hz, hfz⟩ := hrel
            by_cases hlt : j < l
            · obtain ⟨z, hz1⟩ := hz j hlt
              obtain ⟨e1, e2, e3, e4⟩ := OG.out (by omega)
              subst e1
              have hfj := hfz (by omega) j
              go_wp2_with fail
              refine ⟨⟨j + 1, by omega, by go_num, bW.setCell _, fun q hq => ?_, fun h q => ?_⟩, by simp [intOf]; omega⟩
              · by_cases e : q = j
                · subst e
                  exact ⟨_, World.cell?_setCell_same' _ _ _ (by rw [hz1]; rfl)⟩
                · obtain ⟨z', hz'⟩ := hz q hq
                  exact ⟨z', by simpa [go_sem, e, Ne.symm e] using hz'⟩
              · simpa [go_sem] using hfz h q
            · obtain rfl : j = l := by omega
              have c0 := bW.cell ne0 A0; have c1' := bW.cell ne0 A1; have c2' := bW.cell ne0 A2; have c3' := bW.cell ne0 A3
              have d0 := bW.cell ne2 B0; have d1 := bW.cell ne2 B1; have d2 := bW.cell ne2 B2; have d3 := bW.cell ne2 B3
              have e0 : wr.cell? ⟨W5.heap.size, 0, none⟩ = some (.string k) := bW.cell ne5 (by simp [go_sem])
              have e1 : wr.cell? ⟨W5.heap.size, 1, none⟩ = some (.slice p3 j c3) := bW.cell ne5 (by simp [go_sem])
              have e2 : wr.cell? ⟨W5.heap.size, 2, none⟩ = some (.int .u64 d) := bW.cell ne5 (by simp [go_sem])
              have e3 : wr.cell? ⟨W5.heap.size, 3, none⟩ = some (.int .u64 b) := bW.cell ne5 (by simp [go_sem])
              have HPr := Lib.hid (bW.bytes HP6.out nep)
              have HXr := Lib.hid (bW.bytes XB6.out nex)
              have HYr := Lib.hid (bW.bytes YB6.out ney)
              have belr : Below w.heap.size w wr := (tr gb5 (by go_grown)).trans (bW.below hwg)
              have hse := eqB_refl k zs d b
              go_wp2_with fail
              refine (requal_any k k p2 p j c2 j c zs zs d d b b wr HXr.out HPr.out).mono ?_
              rintro e V1 ⟨rfl, v1⟩
              have hq0 : w.heap.size < wr.heap.size := by rw [← bW.size]; exact AS
              have hq5 : W5.heap.size < wr.heap.size := by rw [← bW.size]; simp
              obtain ⟨s0, s1, s2, s3, ss⟩ := keep4 v1 hq0 c0 c1' c2' c3'
              obtain ⟨t0, t1, t2, t3, ts⟩ := keep4 v1 hq5 e0 e1 e2 e3
              clear c0 c1' c2' c3' e0 e1 e2 e3 d0 d1 d2 d3
              go_wp2_with fail
              refine (requal_any k k p3 p j c3 j c zs zs d d b b V1 (HYr.out.below v1) (HPr.out.below v1)).mono ?_
              rintro e V2 ⟨rfl, v2⟩
              go_wp2_with fail
              refine (HK.out _ (tr (tr belr v1) v2)).mono ?_
              rintro e V3 ⟨rfl, v3⟩
              go_wp2_with fail
              go_ret
              exact ⟨rfl, tr (tr (tr belr v1) v2) v3⟩
  · rw [Bool.eq_false_iff.2 hf]
    go_wp2_with fail
    refine (HK.out _ (tr (by go_grown) b1)).mono ?_
    rintro e w4 ⟨rfl, b4⟩
    go_wp2_with fail
    go_ret
    exact ⟨rfl, tr (tr (by go_grown) b1) b4⟩
end Go.Proofs.YtlpepmhpnmnpkaaDoor.Ent
