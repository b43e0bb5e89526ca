/-
  Adaptive replacement (layer 29): the law's plays.
-/
import Derived.Test.YtggimkfepcgaoaaArqN
import Derived.Test.YtggimkfepcgaoaaArcN
import Derived.StillTailTactics
set_option linter.unusedVariables false
set_option linter.unusedSimpArgs false
namespace Go.Proofs.Ytggimkfepcgaoaa.Arc
open Go Go.RowKit Kit Go.Maps Lnk Gho
theorem fin_drew {w0 U : World} {o K s ro : Nat} {t : Int} {b : Nat → Nat} {L : Nat → List Nat} {f : Nat → Value} {c : Option Obj} {XI : Nat → Prop} {wi : World} (h : ∃ X', Ax w0 U o K s t b L X' ∧ Rs U L f ∧ U.heap[ro]? = c ∧ ∀ k, XI k → X' k ∧ U.heap[k]? = wi.heap[k]?) : ∃ X', Ax w0 U.drew o K s t b L X' ∧ Rs U.drew L f ∧ U.drew.heap[ro]? = c ∧ ∀ k, XI k → X' k ∧ U.drew.heap[k]? = wi.heap[k]? := by
  obtain ⟨X', ax, rs, hx⟩ := h
  exact ⟨X', ax.below' (Below.drew (Below.refl _ _)), rs.below (Below.drew (Below.refl _ _)), hx⟩
set_option maxRecDepth 100000 in
set_option maxHeartbeats 16000000 in
theorem plays29 {X : Nat → Prop} {w0 w : World} {o s : Nat} {b : Nat → Nat} {a : Option Addr} {len cap : Nat} {f0 f1 : Nat → Int} (h : Ax w0 w o 0 s 0 b (fun _ => []) X) (s1 : 1 ≤ s) (s40 : s ≤ 40) (hacts : Ac2 w0.heap.size w0 a len f0 f1) (hlen : len ≤ 120) :
    Calls Try.prog 53 #[ap o, rv29 s 0 nos, .slice a len cap] w fun e w' => ∃ (o' K' : Nat) (b' : Nat → Nat) (t' : Int) (L' : Nat → List Nat) (f' : Nat → Value) (X' : Nat → Prop), e = .returned (.tuple #[ap o', rv29 s t' f', .bool true]) ∧ Ax w0 w' o' K' s t' b' L' X' ∧ Rs w' L' f' ∧ Ai s t' L' ∧ (∀ i, i < 4 → ∀ p n c y, f' i = .slice p n c → p = some y → w.heap.size ≤ y.block) ∧ ∀ k, X k → X' k ∧ w'.heap[k]? = w.heap[k]? := by
  unfold rv29 nos
  have hb0 : Below w.heap.size w (w.alloc (.cells #[.int .i64 (s : Int), .slice none 0 0, .slice none 0 0, .slice none 0 0, .slice none 0 0, .int .i64 0] 97)) := by go_grown
  have hb1 : Below w.heap.size w ((w.alloc (.cells #[.int .i64 (s : Int), .slice none 0 0, .slice none 0 0, .slice none 0 0, .slice none 0 0, .int .i64 0] 97)).alloc (.cells #[.int .i64 0, .slice none 0 0, .slice none 0 0, .slice none 0 0, .slice none 0 0, .int .i64 0] 97)) := by go_grown
  have hx1 : ((w.alloc (.cells #[.int .i64 (s : Int), .slice none 0 0, .slice none 0 0, .slice none 0 0, .slice none 0 0, .int .i64 0] 97)).alloc (.cells #[.int .i64 0, .slice none 0 0, .slice none 0 0, .slice none 0 0, .slice none 0 0, .int .i64 0] 97)).heap[w.heap.size + 1]? = some (.cells zc 97 (0, 0)) := by
    have := (MapKept.heap_alloc (w.alloc (.cells #[.int .i64 (s : Int), .slice none 0 0, .slice none 0 0, .slice none 0 0, .slice none 0 0, .int .i64 0] 97)) (.cells #[.int .i64 0, .slice none 0 0, .slice none 0 0, .slice none 0 0, .slice none 0 0, .int .i64 0] 97)).1
    rwa [World.size_alloc] at this
  have hx0 : ((w.alloc (.cells #[.int .i64 (s : Int), .slice none 0 0, .slice none 0 0, .slice none 0 0, .slice none 0 0, .int .i64 0] 97)).alloc (.cells #[.int .i64 0, .slice none 0 0, .slice none 0 0, .slice none 0 0, .slice none 0 0, .int .i64 0] 97)).heap[w.heap.size]? = some (.cells (rc29 s 0 (fun _ => .slice none 0 0)) 97 (0, 0)) := by
    have h2 := (MapKept.heap_alloc w (.cells #[.int .i64 (s : Int), .slice none 0 0, .slice none 0 0, .slice none 0 0, .slice none 0 0, .int .i64 0] 97)).1
    have h3 : Below (w.heap.size + 1) (w.alloc (.cells #[.int .i64 (s : Int), .slice none 0 0, .slice none 0 0, .slice none 0 0, .slice none 0 0, .int .i64 0] 97)) ((w.alloc (.cells #[.int .i64 (s : Int), .slice none 0 0, .slice none 0 0, .slice none 0 0, .slice none 0 0, .int .i64 0] 97)).alloc (.cells #[.int .i64 0, .slice none 0 0, .slice none 0 0, .slice none 0 0, .slice none 0 0, .int .i64 0] 97)) := by go_grown
    exact (h3.block _ (by omega)).trans h2
  have hsz : ((w.alloc (.cells #[.int .i64 (s : Int), .slice none 0 0, .slice none 0 0, .slice none 0 0, .slice none 0 0, .int .i64 0] 97)).alloc (.cells #[.int .i64 0, .slice none 0 0, .slice none 0 0, .slice none 0 0, .slice none 0 0, .int .i64 0] 97)).heap.size = w.heap.size + 1 + 1 := by simp [World.size_alloc]
  have Q0 := Lib.hid (show Qn X w w0 ((w.alloc (.cells #[.int .i64 (s : Int), .slice none 0 0, .slice none 0 0, .slice none 0 0, .slice none 0 0, .int .i64 0] 97)).alloc (.cells #[.int .i64 0, .slice none 0 0, .slice none 0 0, .slice none 0 0, .slice none 0 0, .int .i64 0] 97)) o 0 s 0 b (fun _ => []) (fun k => X k ∨ (w.heap.size ≤ k ∧ k < ((w.alloc (.cells #[.int .i64 (s : Int), .slice none 0 0, .slice none 0 0, .slice none 0 0, .slice none 0 0, .int .i64 0] 97)).alloc (.cells #[.int .i64 0, .slice none 0 0, .slice none 0 0, .slice none 0 0, .slice none 0 0, .int .i64 0] 97)).heap.size)) w.heap.size 0 (fun _ => []) (fun _ => .slice none 0 0) from
    ⟨h.below hb1, hx0, hx1, rs_nos _, .inr ⟨Nat.le_refl _, by omega⟩, .inr ⟨by omega, by omega⟩, h.bl.size, fun k hk => ⟨.inl hk, hb1.block k (h.xlt k hk), h.xlt k hk⟩, fun i _ p n c y hf hy => (by cases hf; cases hy)⟩)
  have HA := Lib.hid hacts
  have HI := Lib.hid (show 1 ≤ s ∧ s ≤ 40 ∧ len ≤ 120 from ⟨s1, s40, hlen⟩)
  have HAI0 := Lib.hid (show Ai s 0 (fun _ => []) from ⟨⟨fun i _ => List.nodup_nil, fun i j y _ _ hy => (by cases hy)⟩, by simp, by simp, by simp, by omega, by omega, by omega, by omega⟩)
  clear h hacts hlen s1 s40 hb0 hb1 hx0 hx1 hsz
  go_enter Try.func53, Try.ntmps53
  go_wp2_with fail
  generalize (w.alloc (.cells #[.int .i64 (s : Int), .slice none 0 0, .slice none 0 0, .slice none 0 0, .slice none 0 0, .int .i64 0] 97)).alloc (.cells #[.int .i64 0, .slice none 0 0, .slice none 0 0, .slice none 0 0, .slice none 0 0, .int .i64 0] 97) = w1 at *
  generalize hrb : w.heap.size = rb at *
  have HRB := Lib.hid hrb
  clear hrb
  go_loopw [0, 9] (fun cv iv v => ∃ (i K o : Nat) (b : Nat → Nat) (t : Int) (L : Nat → List Nat) (f : Nat → Value), i ≤ len ∧ iv = .int .i64 (i : Int) ∧ cv = ap o ∧ Hid (∃ X1, Qn X w w0 v o K s t b L X1 rb t L f) ∧ Hid (Ai s t L ∧ K ≤ 2 * i)) (fun _ iv _ => len - (intOf iv).toNat)
  case atStart => exact ⟨0, 0, o, b, 0, _, _, Nat.zero_le _, rfl, rfl, Lib.hid ⟨_, Q0.out⟩, Lib.hid ⟨HAI0.out, Nat.le_refl _⟩⟩
  case round =>
    obtain ⟨i, K, o, b, t, L, f, hi, rfl, rfl, H, HB⟩ := hrel
    clear Q0 HAI0
    by_cases hlt : i < len
    · obtain ⟨X0, hq⟩ := H.out
      obtain ⟨x, rfl, hxb, y0, y1, k0, k1⟩ := HA.out.below hq.ax.bl i hlt
      have hlti : (i : Int) < (len : Int) := by omega
      generalize f1 i = k at *
      generalize f0 i = what at *
      have hws := hq.ax.bl.size
      have hxw : x.block < wr.heap.size := Nat.lt_of_lt_of_le hxb hws
      obtain ⟨kn, rfl⟩ : ∃ kn : Nat, k = kn := ⟨k.toNat, by omega⟩
      have hkn : kn < 4294967296 := by omega
      have HKN := Lib.hid (show kn < 4294967296 ∧ i < len from ⟨hkn, hlt⟩)
      obtain ⟨X1, hq1⟩ := hq.call what (kn : Int)
      have Q1 := Lib.hid hq1
      clear hq1 hq
      go_upto_block 2 with (fail)
      go_cut [0] (fun cv wx => ∃ (o' K' : Nat) (b' : Nat → Nat) (t' : Int) (L' : Nat → List Nat) (f' : Nat → Value), cv = ap o' ∧ Hid (∃ X1, Qg X w w0 wx o' K' s t' b' L' X1 rb t' L' f' wr.heap.size what (kn : Int)) ∧ Hid (Ai s t' L' ∧ K' ≤ 2 * (i + 1)))
      case first =>
        clear y0 y1 k0 k1 hxw hws hkn H
        generalize wr.alloc (.cells #[.int .i64 what, .int .u32 (kn : Int)] 108) = w6 at *
        generalize wr.heap.size = bx at *
        obtain ⟨c0, c1⟩ := Q1.out.acts
        by_cases a0 : what = 0
        · subst a0
          obtain ⟨U, hU⟩ : ∃ U, useA s t L kn = U := ⟨_, rfl⟩
          have hus := use_spec HB.out.1 kn
          rw [hU] at hus
          obtain ⟨t', L', hit, left, x⟩ := U
          simp only at hus
          have HUS := Lib.hid hus
          have HU := Lib.hid (use_any Q1.out.q.ax HB.out.1 (by have := HB.out.2; have := HKN.out; have := HI.out; omega) kn HKN.out.1 hU)
          have HRU := Lib.hid (fun u (hr : Rs u L f) => ruse_any hr HB.out.1 kn hU)
          clear hus hU
          go_wp2_with fail
          refine HU.out.mono ?_
          rintro e w7 ⟨rfl, hr⟩
          have H7 := Lib.hid (Q1.out.op hr)
          have hb8 : Below w7.heap.size w7 (w7.alloc (.cells #[.bool hit, .bool left, .int .u32 (x : Int)] 110)) := by go_grown
          have H8 := Lib.hid (H7.out.below hb8)
          have HTX := Lib.hid (show rb + 1 < w7.heap.size from H7.out.q.rlt.2)
          have T8 := Lib.hid (MapKept.heap_alloc w7 (.cells #[.bool hit, .bool left, .int .u32 (x : Int)] 110)).1
          clear hr HU Q1 c0 c1 H7 hb8
          go_upto_region 15 with fail
          generalize w7.alloc (.cells #[.bool hit, .bool left, .int .u32 (x : Int)] 110) = w8 at *
          generalize w7.heap.size = tx at *
          obtain ⟨c0, c1⟩ := H8.out.acts
          obtain ⟨d0, d1, d2, d3, d4, d5, df⟩ := H8.out.q.cells
          have HR8 := Lib.hid (HRU.out _ H8.out.q.rs)
          have LV := Lib.hid (fun u (hr : Rs u L f) => hr)
          obtain ⟨p0, n0, e0, g0, -⟩ := H8.out.q.rs 0 (by omega)
          obtain ⟨p1, n1, e1, g1, -⟩ := H8.out.q.rs 1 (by omega)
          obtain ⟨p2, n2, e2, g2, -⟩ := H8.out.q.rs 2 (by omega)
          obtain ⟨p3, n3, e3, g3, -⟩ := H8.out.q.rs 3 (by omega)
          unfold rv29 at HR8
          rw [g0, g1, g2, g3] at HR8
          rw [g0] at d1
          rw [g1] at d2
          rw [g2] at d3
          rw [g3] at d4
          clear HRU LV g0 g1 g2 g3
          go_wp2_with fail
          refine HR8.out.mono ?_
          rintro e w9 ⟨f', rfl, R9, N9, b9⟩
          have RR := Lib.hid (And.intro R9 (And.intro N9 b9))
          have H9 := Lib.hid (H8.out.below b9)
          have T9 := Lib.hid ((b9.block tx (Array.getElem?_eq_some_iff.1 T8.out).1).trans T8.out)
          obtain ⟨p0', n0', c0', g0, -⟩ := R9 0 (by omega)
          obtain ⟨p1', n1', c1', g1, -⟩ := R9 1 (by omega)
          obtain ⟨p2', n2', c2', g2, -⟩ := R9 2 (by omega)
          obtain ⟨p3', n3', c3', g3, -⟩ := R9 3 (by omega)
          have HGG := Lib.hid (show f' 0 = .slice p0' n0' c0' ∧ f' 1 = .slice p1' n1' c1' ∧ f' 2 = .slice p2' n2' c2' ∧ f' 3 = .slice p3' n3' c3' from ⟨g0, g1, g2, g3⟩)
          rw [g0, g1, g2, g3]
          clear d0 d1 d2 d3 d4 d5 df c0 c1 R9 N9 b9 g0 g1 g2 g3 HR8 T8
          go_upto_region 16 with fail
          have hbA : Below w9.heap.size w9 ((w9.alloc (.cells #[.int .i64 (s : Int), .slice p0' n0' c0', .slice p1' n1' c1', .slice p2' n2' c2', .slice p3' n3' c3', .int .i64 t'] 97)).alloc (.cells #[.bool hit, .bool left, .int .u32 (x : Int)] 110)) := by go_grown
          have hxN : ((w9.alloc (.cells #[.int .i64 (s : Int), .slice p0' n0' c0', .slice p1' n1' c1', .slice p2' n2' c2', .slice p3' n3' c3', .int .i64 t'] 97)).alloc (.cells #[.bool hit, .bool left, .int .u32 (x : Int)] 110)).heap[w9.heap.size]? = some (.cells #[.int .i64 (s : Int), .slice p0' n0' c0', .slice p1' n1' c1', .slice p2' n2' c2', .slice p3' n3' c3', .int .i64 t'] 97 (0, 0)) := by
            have h2 := (MapKept.heap_alloc w9 (.cells #[.int .i64 (s : Int), .slice p0' n0' c0', .slice p1' n1' c1', .slice p2' n2' c2', .slice p3' n3' c3', .int .i64 t'] 97)).1
            have h3 : Below (w9.heap.size + 1) (w9.alloc (.cells #[.int .i64 (s : Int), .slice p0' n0' c0', .slice p1' n1' c1', .slice p2' n2' c2', .slice p3' n3' c3', .int .i64 t'] 97)) ((w9.alloc (.cells #[.int .i64 (s : Int), .slice p0' n0' c0', .slice p1' n1' c1', .slice p2' n2' c2', .slice p3' n3' c3', .int .i64 t'] 97)).alloc (.cells #[.bool hit, .bool left, .int .u32 (x : Int)] 110)) := by go_grown
            exact (h3.block _ (by omega)).trans h2
          have hxT : ((w9.alloc (.cells #[.int .i64 (s : Int), .slice p0' n0' c0', .slice p1' n1' c1', .slice p2' n2' c2', .slice p3' n3' c3', .int .i64 t'] 97)).alloc (.cells #[.bool hit, .bool left, .int .u32 (x : Int)] 110)).heap[w9.heap.size + 1]? = some (.cells #[.bool hit, .bool left, .int .u32 (x : Int)] 110 (0, 0)) := by
            have h2 := (MapKept.heap_alloc (w9.alloc (.cells #[.int .i64 (s : Int), .slice p0' n0' c0', .slice p1' n1' c1', .slice p2' n2' c2', .slice p3' n3' c3', .int .i64 t'] 97)) (.cells #[.bool hit, .bool left, .int .u32 (x : Int)] 110)).1
            rwa [World.size_alloc] at h2
          have hxO := (hbA.block tx (Array.getElem?_eq_some_iff.1 T9.out).1).trans T9.out
          have H9b := Lib.hid (H9.out.below hbA)
          obtain ⟨X2, h10⟩ := H8.out.put (t' := t') RR.out.1 RR.out.2.1 RR.out.2.2 hbA
          rw [HGG.out.1, HGG.out.2.1, HGG.out.2.2.1, HGG.out.2.2.2] at h10
          have hszA : w9.heap.size + 1 < ((w9.alloc (.cells #[.int .i64 (s : Int), .slice p0' n0' c0', .slice p1' n1' c1', .slice p2' n2' c2', .slice p3' n3' c3', .int .i64 t'] 97)).alloc (.cells #[.bool hit, .bool left, .int .u32 (x : Int)] 110)).heap.size := by simp [World.size_alloc]
          have H10 := Lib.hid h10
          have HBA := Lib.hid (And.intro hxT (And.intro hxO (And.intro hszA (show tx < w9.heap.size from (Array.getElem?_eq_some_iff.1 T9.out).1))))
          clear h10 hbA hxT hxO hszA H8 H9
          generalize (w9.alloc (.cells #[.int .i64 (s : Int), .slice p0' n0' c0', .slice p1' n1' c1', .slice p2' n2' c2', .slice p3' n3' c3', .int .i64 t'] 97)).alloc (.cells #[.bool hit, .bool left, .int .u32 (x : Int)] 110) = w10 at *
          have HNS := Lib.hid (show rb < w9.heap.size from by have := HBA.out; have := HTX.out; omega)
          generalize w9.heap.size = nx at *
          obtain ⟨d0, d1, d2, d3, d4, d5, df⟩ := H9b.out.q.cells
          obtain ⟨m0, m1, m2, m3, m4, m5⟩ : w10.cell? ⟨nx, 0, none⟩ = some (.int .i64 (s : Int)) ∧ w10.cell? ⟨nx, 1, none⟩ = some (.slice p0' n0' c0') ∧ w10.cell? ⟨nx, 2, none⟩ = some (.slice p1' n1' c1') ∧ w10.cell? ⟨nx, 3, none⟩ = some (.slice p2' n2' c2') ∧ w10.cell? ⟨nx, 4, none⟩ = some (.slice p3' n3' c3') ∧ w10.cell? ⟨nx, 5, none⟩ = some (.int .i64 t') := by refine ⟨?_, ?_, ?_, ?_, ?_, ?_⟩ <;> simp [World.cell?, hxN]
          obtain ⟨-, kk⟩ := sset (d0 := .int .i64 (s : Int)) (d1 := .slice p0' n0' c0') (d2 := .slice p1' n1' c1') (d3 := .slice p2' n2' c2') (d4 := .slice p3' n3' c3') (d5 := .int .i64 t') H9b.out.q.box
          have hy1 := (kk.block tx (by have := HBA.out; omega) (by have := HTX.out; omega)).trans HBA.out.2.1
          have hy2 := (kk.block (nx + 1) HBA.out.2.2.1 (by have := HNS.out; omega)).trans HBA.out.1
          clear kk hxN
          have HY := Lib.hid (And.intro hy1 hy2)
          clear hy1 hy2
          go_upto_region 17 with fail
          clear d0 d1 d2 d3 d4 d5 df m0 m1 m2 m3 m4 m5 H9b HBA
          generalize (((((w10.setCell ⟨rb, 0, none⟩ (.int .i64 (s : Int))).setCell ⟨rb, 1, none⟩ (.slice p0' n0' c0')).setCell ⟨rb, 2, none⟩ (.slice p1' n1' c1')).setCell ⟨rb, 3, none⟩ (.slice p2' n2' c2')).setCell ⟨rb, 4, none⟩ (.slice p3' n3' c3')).setCell ⟨rb, 5, none⟩ (.int .i64 t') = w11 at *
          obtain ⟨u0, u1, u2⟩ : w11.cell? ⟨tx, 0, none⟩ = some (.bool hit) ∧ w11.cell? ⟨tx, 1, none⟩ = some (.bool left) ∧ w11.cell? ⟨tx, 2, none⟩ = some (.int .u32 (x : Int)) := by have hy := HY.out.1; refine ⟨?_, ?_, ?_⟩ <;> simp [World.cell?, hy]
          obtain ⟨v0, v1, v2⟩ : w11.cell? ⟨nx + 1, 0, none⟩ = some (.bool hit) ∧ w11.cell? ⟨nx + 1, 1, none⟩ = some (.bool left) ∧ w11.cell? ⟨nx + 1, 2, none⟩ = some (.int .u32 (x : Int)) := by have hy := HY.out.2; refine ⟨?_, ?_, ?_⟩ <;> simp [World.cell?, hy]
          go_wp2_with fail
          go_meet
          case rel => exact ⟨o, K + 2, b, t', L', f', rfl, Lib.hid ⟨_, H10.out⟩, Lib.hid ⟨HUS.out.ai, by have := HB.out; omega⟩⟩
        by_cases a1 : what = 1
        · subst a1
          have hnd := HB.out.1.nd
          have HDS := Lib.hid (drop_spec HB.out.1 kn)
          have HU := Lib.hid (drop_any Q1.out.q.ax HI.out.1 kn HKN.out.1)
          have HRU := Lib.hid (fun u (hr : Rs u L f) => rdrop29_any (s := s) (t := t) hr (fun i hi => by have := ai_lens HB.out.1 i hi; omega) kn)
          rw [wout_erase (hnd.one 0 (by omega)), wout_erase (hnd.one 1 (by omega))] at HRU
          obtain ⟨tb, htb⟩ : ∃ tb, decide (kn ∈ L 0 ∨ kn ∈ L 1) = tb := ⟨_, rfl⟩
          rw [htb] at HU HRU
          have hxx : (tb != tb) = false := by cases tb <;> rfl
          clear htb hnd a0
          go_wp2_with fail
          refine HU.out.mono ?_
          rintro e w7 ⟨rfl, hr⟩
          have H8 := Lib.hid (Q1.out.op hr)
          clear hr HU Q1 c0 c1
          obtain ⟨c0, c1⟩ := H8.out.acts
          obtain ⟨d0, d1, d2, d3, d4, d5, df⟩ := H8.out.q.cells
          have HR8 := Lib.hid (HRU.out _ H8.out.q.rs)
          obtain ⟨p0, n0, e0, g0, -⟩ := H8.out.q.rs 0 (by omega)
          obtain ⟨p1, n1, e1, g1, -⟩ := H8.out.q.rs 1 (by omega)
          obtain ⟨p2, n2, e2, g2, -⟩ := H8.out.q.rs 2 (by omega)
          obtain ⟨p3, n3, e3, g3, -⟩ := H8.out.q.rs 3 (by omega)
          unfold rv29 at HR8
          rw [g0, g1, g2, g3] at HR8
          rw [g0] at d1
          rw [g1] at d2
          rw [g2] at d3
          rw [g3] at d4
          clear HRU g0 g1 g2 g3
          go_wp2_with fail
          refine HR8.out.mono ?_
          rintro e w9 ⟨f', rfl, R9, N9, b9⟩
          have RR := Lib.hid (And.intro R9 (And.intro N9 b9))
          have H9 := Lib.hid (H8.out.below b9)
          obtain ⟨p0', n0', c0', g0, -⟩ := R9 0 (by omega)
          obtain ⟨p1', n1', c1', g1, -⟩ := R9 1 (by omega)
          obtain ⟨p2', n2', c2', g2, -⟩ := R9 2 (by omega)
          obtain ⟨p3', n3', c3', g3, -⟩ := R9 3 (by omega)
          have HGG := Lib.hid (show f' 0 = .slice p0' n0' c0' ∧ f' 1 = .slice p1' n1' c1' ∧ f' 2 = .slice p2' n2' c2' ∧ f' 3 = .slice p3' n3' c3' from ⟨g0, g1, g2, g3⟩)
          rw [g0, g1, g2, g3]
          clear d0 d1 d2 d3 d4 d5 df c0 c1 R9 N9 b9 g0 g1 g2 g3 HR8
          go_upto_region 22 with fail
          have hbA : Below w9.heap.size w9 (w9.alloc (.cells #[.int .i64 (s : Int), .slice p0' n0' c0', .slice p1' n1' c1', .slice p2' n2' c2', .slice p3' n3' c3', .int .i64 t] 97)) := by go_grown
          have hxN := (MapKept.heap_alloc w9 (.cells #[.int .i64 (s : Int), .slice p0' n0' c0', .slice p1' n1' c1', .slice p2' n2' c2', .slice p3' n3' c3', .int .i64 t] 97)).1
          have H9b := Lib.hid (H9.out.below hbA)
          obtain ⟨X2, h10⟩ := H8.out.put (t' := t) RR.out.1 RR.out.2.1 RR.out.2.2 hbA
          rw [HGG.out.1, HGG.out.2.1, HGG.out.2.2.1, HGG.out.2.2.2] at h10
          have H10 := Lib.hid h10
          clear h10 hbA H8 H9
          generalize w9.alloc (.cells #[.int .i64 (s : Int), .slice p0' n0' c0', .slice p1' n1' c1', .slice p2' n2' c2', .slice p3' n3' c3', .int .i64 t] 97) = w10 at *
          generalize w9.heap.size = nx at *
          obtain ⟨d0, d1, d2, d3, d4, d5, df⟩ := H9b.out.q.cells
          obtain ⟨m0, m1, m2, m3, m4, m5⟩ : w10.cell? ⟨nx, 0, none⟩ = some (.int .i64 (s : Int)) ∧ w10.cell? ⟨nx, 1, none⟩ = some (.slice p0' n0' c0') ∧ w10.cell? ⟨nx, 2, none⟩ = some (.slice p1' n1' c1') ∧ w10.cell? ⟨nx, 3, none⟩ = some (.slice p2' n2' c2') ∧ w10.cell? ⟨nx, 4, none⟩ = some (.slice p3' n3' c3') ∧ w10.cell? ⟨nx, 5, none⟩ = some (.int .i64 t) := by refine ⟨?_, ?_, ?_, ?_, ?_, ?_⟩ <;> simp [World.cell?, hxN]
          clear hxN
          go_wp2_with fail
          go_meet
          case rel => exact ⟨o, K, b, t, _, f', rfl, Lib.hid ⟨_, H10.out⟩, Lib.hid ⟨HDS.out.1, by have := HB.out; omega⟩⟩
        · have HCP := Lib.hid (copy_any Q1.out.q.ax HI.out.1)
          obtain ⟨k2, hk2, hk3⟩ : ∃ k2 : Nat, IntKind.u32.wrap ((kn : Int) + 77) = (k2 : Int) ∧ k2 < 4294967296 := by
            have h1 : IntKind.u32.wrap ((kn : Int) + 77) = ((kn : Int) + 77) % 4294967296 := by simp [IntKind.wrap, IntKind.bits, IntKind.signed]
            exact ⟨(((kn : Int) + 77) % 4294967296).toNat, by rw [h1]; omega, by omega⟩
          have HK2 := Lib.hid hk3
          clear hk3
          go_wp2_with fail
          refine HCP.out.mono ?_
          rintro e w7 ⟨o', b', rfl, hc, b7⟩
          have D7 := Lib.hid (Dq.start Q1.out.q.ax b7 hc)
          have P7 := Lib.hid (Q1.out.below b7)
          clear c0 c1 HCP hc b7 Q1
          obtain ⟨c0, c1⟩ := P7.out.acts
          obtain ⟨⟨t1, L1, hit1, left1, x1⟩, hU1⟩ : ∃ U, useA s t L k2 = U := ⟨_, rfl⟩
          have hai1 := (use_spec HB.out.1 k2).ai
          rw [hU1] at hai1
          have HU1 := Lib.hid (use_any D7.out.old HB.out.1 (by have := HB.out.2; have := HKN.out; have := HI.out; omega) k2 HK2.out hU1)
          have HA1 := Lib.hid hai1
          clear hU1 hai1
          go_wp2_with fail
          refine HU1.out.mono ?_
          rintro e w8 ⟨rfl, hr⟩
          have D8 := Lib.hid (D7.out.op hr)
          have P8 := Lib.hid (P7.out.copied D8.out)
          clear hr D7 HU1 c0 c1
          obtain ⟨c0, c1⟩ := P8.out.acts
          obtain ⟨⟨t2, L2, hit2, left2, x2⟩, hU2⟩ : ∃ U, useA s t1 L1 kn = U := ⟨_, rfl⟩
          have hai2 := (use_spec HA1.out kn).ai
          rw [hU2] at hai2
          have HU2 := Lib.hid (use_any D8.out.old HA1.out (by have := HB.out.2; have := HKN.out; have := HI.out; omega) kn HKN.out.1 hU2)
          clear hU2 hai2 hk2
          go_wp2_with fail
          refine HU2.out.mono ?_
          rintro e w9 ⟨rfl, hr⟩
          have D9 := Lib.hid (D8.out.op hr)
          have P9 := Lib.hid (P7.out.copied D9.out)
          clear hr D8 HU2 c0 c1 P8
          obtain ⟨c0, c1⟩ := P9.out.acts
          have HU3 := Lib.hid (drop_any D9.out.old HI.out.1 kn HKN.out.1)
          go_wp2_with fail
          refine HU3.out.mono ?_
          rintro e w10 ⟨rfl, hr⟩
          have D10 := Lib.hid (D9.out.op hr)
          have P10 := Lib.hid (P7.out.copied D10.out)
          clear hr D9 HU3 c0 c1 P9 D10 P7
          go_wp2_with fail
          go_meet
          case rel => exact ⟨o', K, b', t, L, f, rfl, Lib.hid ⟨_, P10.out⟩, Lib.hid ⟨HB.out.1, by have := HB.out; omega⟩⟩
      case rest =>
        obtain ⟨o', K', b', t', L', f', rfl, HP, HB2⟩ := hcut
        have HLT := Lib.hid hlt
        clear y0 y1 hxw hws H k0 k1 hkn Q1
        generalize wr.heap.size = bx at *
        obtain ⟨X2, hp⟩ := HP.out
        have H8 := Lib.hid hp
        clear hp HP
        obtain ⟨c0, c1⟩ := H8.out.acts
        obtain ⟨d0, d1, d2, d3, d4, d5, df⟩ := H8.out.q.cells
        have HE := Lib.hid (equal29 H8.out.q.ax HI.out.1 (fun i hi => by have := ai_lens HB2.out.1 i hi; omega) H8.out.q.rs kn HKN.out.1)
        obtain ⟨p0, n0, e0, g0, -⟩ := H8.out.q.rs 0 (by omega)
        obtain ⟨p1, n1, e1, g1, -⟩ := H8.out.q.rs 1 (by omega)
        obtain ⟨p2, n2, e2, g2, -⟩ := H8.out.q.rs 2 (by omega)
        obtain ⟨p3, n3, e3, g3, -⟩ := H8.out.q.rs 3 (by omega)
        unfold rv29 at HE
        rw [g0, g1, g2, g3] at HE
        rw [g0] at d1
        rw [g1] at d2
        rw [g2] at d3
        rw [g3] at d4
        have wi := IntWalk.i64_in ((i : Int) + 1) (by have := HI.out; have := HLT.out; omega)
        clear g0 g1 g2 g3
        go_wp2_with fail
        refine HE.out.mono ?_
        rintro e w13 ⟨rfl, b13⟩
        have P13 := Lib.hid (H8.out.below b13)
        clear b13 H8 HE d0 d1 d2 d3 d4 d5 df c0 c1
        go_wp2_with fail
        go_roundw
        case rel => exact ⟨i + 1, K', o', b', t', L', f', by omega, by go_num, rfl, Lib.hid ⟨_, P13.out.q⟩, HB2⟩
        case measure => simp [intOf] <;> omega
    · have hlti : ¬ (i : Int) < (len : Int) := by omega
      obtain ⟨X0, hq⟩ := H.out
      have H8 := Lib.hid hq
      clear hq H
      obtain ⟨d0, d1, d2, d3, d4, d5, df⟩ := H8.out.cells
      obtain ⟨m0, m1, m2, m3, m4, m5, mf⟩ := H8.out.outs
      obtain ⟨p0, n0, e0, g0, -⟩ := H8.out.rs 0 (by omega)
      obtain ⟨p1, n1, e1, g1, -⟩ := H8.out.rs 1 (by omega)
      obtain ⟨p2, n2, e2, g2, -⟩ := H8.out.rs 2 (by omega)
      obtain ⟨p3, n3, e3, g3, -⟩ := H8.out.rs 3 (by omega)
      have HGG := Lib.hid (show f 0 = .slice p0 n0 e0 ∧ f 1 = .slice p1 n1 e1 ∧ f 2 = .slice p2 n2 e2 ∧ f 3 = .slice p3 n3 e3 from ⟨g0, g1, g2, g3⟩)
      rw [g0] at d1
      rw [g1] at d2
      rw [g2] at d3
      rw [g3] at d4
      clear g0 g1 g2 g3
      obtain ⟨ro, hro⟩ : ∃ ro, rb + 1 = ro := ⟨_, rfl⟩
      have HRO := Lib.hid hro
      have HF1 := Lib.hid H8.out.fin
      unfold rc29 at HF1
      rw [HGG.out.1, HGG.out.2.1, HGG.out.2.2.1, HGG.out.2.2.2] at HF1
      rw [hro] at m0 m1 m2 m3 m4 m5 HF1 ⊢
      simp only [hro] at mf
      clear hro
      have HXF := Lib.hid (fun i hi p n c y hf hy => Nat.le_trans (Nat.le_succ rb) (Nat.le_of_lt (H8.out.xf i hi p n c y hf hy).2.2))
      go_upto_region 27 with fail
      apply Gho.region_one (R := fun u => ∃ X', Ax w0 u o K s t b L X' ∧ Rs u L f ∧ u.heap[ro]? = some (.cells #[.int .i64 (s : Int), .slice p0 n0 e0, .slice p1 n1 e1, .slice p2 n2 e2, .slice p3 n3 e3, .int .i64 t] 97 (0, 0)) ∧ ∀ k, X k → X' k ∧ u.heap[k]? = w.heap[k]?)
      case first =>
        go_region_with fail
        all_goals
          dsimp only [midQ]
          refine ⟨rfl, ?_⟩
          exact fin_drew HF1.out
      case rest =>
      intro u HF
      obtain ⟨X', ax, rs, hx, hki⟩ := HF
      obtain ⟨z0, z1, z2, z3, z4, z5⟩ : u.cell? ⟨ro, 0, none⟩ = some (.int .i64 (s : Int)) ∧ u.cell? ⟨ro, 1, none⟩ = some (.slice p0 n0 e0) ∧ u.cell? ⟨ro, 2, none⟩ = some (.slice p1 n1 e1) ∧ u.cell? ⟨ro, 3, none⟩ = some (.slice p2 n2 e2) ∧ u.cell? ⟨ro, 4, none⟩ = some (.slice p3 n3 e3) ∧ u.cell? ⟨ro, 5, none⟩ = some (.int .i64 t) := by refine ⟨?_, ?_, ?_, ?_, ?_, ?_⟩ <;> simp [World.cell?, hx]
      go_wp2_with fail
      refine bodyPost_ret (v := .tuple #[ap o, .agg #[.int .i64 (s : Int), .slice p0 n0 e0, .slice p1 n1 e1, .slice p2 n2 e2, .slice p3 n3 e3, .int .i64 t], .bool true]) (by simp [results, Try.results53, go_sem, z0, z1, z2, z3, z4, z5]) rfl ⟨o, K, b, t, L, f, ?_, X', ax, rs, HB.out.1, fun i hi p n c y hf hy => HRB.out ▸ HXF.out i hi p n c y hf hy, hki⟩
      rw [HGG.out.1, HGG.out.2.1, HGG.out.2.2.1, HGG.out.2.2.2]
end Go.Proofs.Ytggimkfepcgaoaa.Arc
