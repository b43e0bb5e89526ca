/-
  The walk over the law WordSets (layer 1) at a set that is not empty.
-/
import Derived.Test.YtgghlecpdgjnlaaWordR
namespace Go.Proofs.Ytgghlecpdgjnlaa.Word
open Go.RowKit Kit Go.Shelf

attribute [local go_sem] Oper.semAt_some
set_option maxRecDepth 100000 in
set_option maxHeartbeats 8000000 in
theorem sets_ok (s : Nat) (hs : s < 256) (hne : 0 < (lst s 8).length) (n : Int) (w : World) :
    Calls Try.prog 6 #[.int .u8 s, .int .i64 n] w fun e w' => e = .returned (.bool true) ∧ Below w.heap.size w w' := by
  have hlen := lst_len s 8
  have HF := Lib.hid (first_get s hs hne)
  have HK := Lib.hid (count_len s hs)
  have HR := Lib.hid (rlanes_any s hs)
  obtain ⟨L, hL⟩ : ∃ L, lst s 8 = L := ⟨_, rfl⟩
  have HL := Lib.hid hL
  rw [hL] at HR HK hne hlen HF
  clear hL
  refine (callsIn_wide (n := 6)).1 ?_
  refine callsIn_of_wp_marks Try.func6 rfl trivial ?_ rfl
  simp only [Try.ntmps6, List.size_toArray, List.length_cons, List.length_nil, Nat.reduceAdd, Nat.reduceSub, Array.replicate_succ, Array.replicate_zero, List.push_toArray, List.append_toArray, List.nil_append, List.cons_append]
  gi_wp2
  refine ⟨trivial, ?_⟩
  refine (callsIn_wide.2 (HR.out _)).mono ?_
  rintro e w1 ⟨v, rfl, hown, b1⟩
  rcases own_cases (l := L) (f := Value.int .i64) hown with ⟨_, hn⟩ | ⟨g', cap', rfl, hg1, hg2, _, _, hcs⟩
  · subst hn; simp at hne
  have HC := Lib.hid hcs
  have hc0 := hcs 0 hne
  have hz : L[0] = (Lib.trailingZeros8 s : Int) := by have := HF.out; rw [List.getElem?_eq_getElem hne] at this; exact Option.some.inj this
  rw [hz] at hc0
  clear hz
  clear hown hcs
  have w1s : w.heap.size + 2 ≤ w1.heap.size := by have := b1.size; simp at this; omega
  gi_wp2_with (refine ⟨trivial, ?_⟩; gi_at_call 28; refine (callsIn_wide.2 (all_any s _)).mono ?_; rintro e w' ⟨rfl, rfl⟩)
  have hnil := fun (wx : World) => run_eql_func_nil (P := Try.prog) wx 47 _ _ _ (.func 45) #[] #[.pointer (some ⟨w1.heap.size + 1, 0, none⟩)] Try.underlying47
  have HCn : Hid (∀ w, Calls Try.prog 30 #[.int .u8 s] w fun e w' => e = .returned (.int .i64 (L.length : Int)) ∧ w = w') := Lib.hid (fun w => by have := count_any s hs w; rwa [HK.out] at this)
  generalize hVa : (w1.alloc (.cells #[.slice (some ⟨g', 0, none⟩) L.length cap'] 44)).alloc (.cells #[.int .u8 s] 5) = Va
  have hWa : Va.cell? ⟨w1.heap.size, 0, none⟩ = some (.slice (some ⟨g', 0, none⟩) L.length cap') := by
    have : Boxed Va w1.heap.size 44 (.slice (some ⟨g', 0, none⟩) L.length cap') := by rw [← hVa]; simp only [Boxed, heap_if, World.size_alloc, ↓reduceIte]; (repeat' (split <;> try omega)); all_goals rfl
    exact this.cell
  refine wpIn_wide.2 ?_
  go_quiet (first | (go_at_call 29; refine Calls.quiet_of_same ((first_any s hs _).mono (by rintro e w' ⟨rfl, rfl⟩; exact ⟨rfl, rfl⟩))) | (go_at_call 30; refine Calls.quiet_of_same ((HCn.out _).mono (by rintro e w' ⟨rfl, rfl⟩; exact ⟨rfl, rfl⟩))))
  have hVab : Below w1.heap.size w1 Va := by rw [← hVa]; go_grown
  have hVas : w1.heap.size + 2 ≤ Va.heap.size := by rw [← hVa]; simp
  have hSa : Boxed Va (w1.heap.size + 1) 5 (.int .u8 s) := by rw [← hVa]; simp only [Boxed, heap_if, World.size_alloc, ↓reduceIte]
  clear hVa
  have hdr : Below Va.heap.size Va (Va.drewN nq) := below_drewN (Below.refl _ _) _
  generalize Va.drewN nq = Vd at hdr ⊢
  have hVds := hdr.size
  gi_wp2
  have hVab2 : Below Va.heap.size Va (Vd.alloc (.cells #[.int .i64 0] 3)) := tr hdr (by go_grown)
  have bT : Boxed (Vd.alloc (.cells #[.int .i64 0] 3)) Vd.heap.size 3 (.int .i64 0) := Boxed.new Vd _ _
  generalize hV : Vd.alloc (.cells #[.int .i64 0] 3) = V0
  rw [hV] at hVab2 bT
  have hVdV : Vd.heap.size < V0.heap.size := bT.lt
  have hVb : Below w1.heap.size w1 V0 := hVab.trans (hVab2.mono (by omega))
  have hVs : w1.heap.size + 2 < V0.heap.size := Nat.lt_of_le_of_lt (Nat.le_trans hVas hVds) bT.lt
  have it0 : ItV w.heap.size w1.heap.size Vd.heap.size g' cap' n L s 0 V0 := by
    have q1 : Boxed w1 w.heap.size 3 (.int .i64 n) := (b1.block _ (by simp; omega)).trans (by simp only [heap_if, World.size_alloc, ↓reduceIte]; (repeat' (split <;> try omega)); all_goals rfl)
    have q2 : Boxed w1 (w.heap.size + 1) 4 (.bool false) := (b1.block _ (by simp)).trans (by simp only [heap_if, World.size_alloc, ↓reduceIte])
    refine ⟨(hVb.cell (p := ⟨w.heap.size, 0, none⟩) (by show w.heap.size < _; omega)).trans q1.cell, (hVb.block _ (by omega)).trans q2, (hVab2.cell (p := ⟨w1.heap.size, 0, none⟩) (by show w1.heap.size < _; omega)).trans hWa, (hVab2.cell (p := ⟨w1.heap.size + 1, 0, none⟩) (by show w1.heap.size + 1 < _; omega)).trans hSa.cell, bT, fun j hj => (hVb.cell (p := ⟨g', j, none⟩) hg2).trans (HC.out j hj), by omega, by omega, by omega⟩
  have hWV : Below w.heap.size w V0 := (by go_grown : Below w.heap.size w ((w.alloc (.cells #[.int .i64 n] 3)).alloc (.cells #[.bool false] 4))).trans ((b1.mono (by simp; omega)).trans (hVb.mono (by omega)))
  clear hWa hVab2 hdr
  have IT0 := Lib.hid it0
  obtain ⟨_, _, _, cBV0, bT0, _⟩ := it0
  have cT0 := bT0.cell
  refine wpIn_loop_rounds 3 ?_
  rw [roundsIn_succ]
  gi_wp2
  have bV0 : Below V0.heap.size V0 (V0.alloc (.cells #[.int .i64 0] 3)) := by go_grown
  refine' wpIn_rangeFunc_ownF (encs := fun x : Int => #[.int .i64 x]) (Kp := Below V0.heap.size) (S := fun xs => xs = lst s 8) (Sp := fun pre => pre <+: lst s 8) (N := 8) rfl (by decide) (gf := 45) (lb := #[.pointer (some ⟨w1.heap.size + 1, 0, none⟩)]) rfl trivial (enters_of Try.func45 (by kernel_rfl) rfl)
    (w0 := V0.alloc (.cells #[.int .i64 0] 3))
    (fun l J Jx W hW _ _ hY h0 => all1_in (Below V0.heap.size) l (w1.heap.size + 1) s hs J Jx hY W ((hW.cell (p := ⟨w1.heap.size + 1, 0, none⟩) (by rw [World.size_alloc]; show w1.heap.size + 1 < _; omega)).trans ((bV0.cell (p := ⟨w1.heap.size + 1, 0, none⟩) (by show w1.heap.size + 1 < _; omega)).trans cBV0)) h0)
    belowK_t (belowK_b (by simp)) (Below.refl _ _) (fun _ => rfl)
    (fun pre W => (Boxed W V0.heap.size 3 (.int .i64 (pre.length : Int)) ∧ Below V0.heap.size V0 W) ∧ (pre = [] ∨ (pre.length : Int) < n))
    (fun c pre W => ((c ≠ .ret → (Boxed W V0.heap.size 3 (.int .i64 (pre.length : Int)) ∧ Below V0.heap.size V0 W)) ∧ (c ≠ .ret → c = .exit 2 ∧ pre ≠ [] ∧ n ≤ (pre.length : Int) ∧ (pre.length = 1 ∨ (pre.length : Int) - 1 < n))) ∧ (c = .ret → Off3 L pre))
    (OwnFrom.and (OwnFrom.and (Own.from (boxed_own _ _ (fun pre : List Int => .int .i64 (pre.length : Int))) _) (ownFrom_below (by simp) (by simp))) (ownFrom_pure _ _))
    (fun c => OwnFrom.and (OwnFrom.and (ownFrom_imp (OwnFrom.and (Own.from (boxed_own _ _ (fun pre : List Int => .int .i64 (pre.length : Int))) _) (ownFrom_below (by simp) (by simp)))) (ownFrom_pure _ _)) (ownFrom_pure _ _))
    ⟨⟨Boxed.new _ _ _, by go_grown⟩, .inl rfl⟩
    _ ?assign0 ?body0 ?done0 ?stop0
  case assign0 =>
    intro l x W K hK
    gi_wp2
    exact hK
  case body0 =>
    rintro l pre x W ⟨⟨hC, hB⟩, hpn⟩ hlt
    have hpl : pre.length < 8 := hlt
    obtain ⟨dN, dR, dW, _, dT, dC, _⟩ := IT0.out.below hB
    have eR := dR.cell
    have fR := dR.frozen
    have eT := dT.cell
    have eC := hC.cell
    have fC := hC.frozen
    by_cases hll : pre.length < L.length
    · have eX := dC pre.length hll
      clear dC
      by_cases hv : L[pre.length] = x
      · rw [hv] at eX
        by_cases hm : n ≤ (pre.length : Int) + 1
        · gi_wp2
          refine ⟨KeepsOthers.setCell _ _ _, ⟨fun _ => ⟨?_, ?_⟩, fun _ => ⟨rfl, by simp, ?_, ?_⟩⟩, fun h => by cases h⟩
          · rw [List.length_append, List.length_singleton]; exact hC.set (.int .i64 ((pre.length : Int) + 1))
          · exact hB.setCell (p := ⟨V0.heap.size, 0, none⟩) (Nat.le_refl _) _
          · rw [List.length_append, List.length_singleton]; exact hm
          · rw [List.length_append, List.length_singleton]
            rcases hpn with rfl | h
            · exact .inl rfl
            · right; push_cast; omega
        · gi_wp2
          refine ⟨KeepsOthers.setCell _ _ _, ?_, ⟨?_, ?_⟩, ?_⟩
          · exact (Below.refl _ W).setCell (p := ⟨V0.heap.size, 0, none⟩) (Nat.le_refl _) _
          · rw [List.length_append, List.length_singleton]; exact hC.set (.int .i64 ((pre.length : Int) + 1))
          · exact hB.setCell (p := ⟨V0.heap.size, 0, none⟩) (Nat.le_refl _) _
          · right; rw [List.length_append, List.length_singleton]; push_cast; omega
      · have HO : Hid (Off3 L (pre ++ [x])) := Lib.hid ⟨pre, x, rfl, by rw [List.getElem?_eq_getElem hll]; exact fun h => hv (Option.some.inj h)⟩
        have hv2 : x ≠ L[pre.length] := fun h => hv h.symm
        generalize L[pre.length] = y at *
        have hv3 : (x != y) = true := by simp [bne, hv2]
        gi_wp2
        exact ⟨KeepsOthers.setCell _ _ _, ⟨fun h => absurd rfl h, fun h => absurd rfl h⟩, fun _ => HO.out⟩
    · have HO : Hid (Off3 L (pre ++ [x])) := Lib.hid ⟨pre, x, rfl, by rw [List.getElem?_eq_none (by omega)]; exact fun h => by cases h⟩
      clear dC
      gi_wp2
      exact ⟨KeepsOthers.setCell _ _ _, ⟨fun h => absurd rfl h, fun h => absurd rfl h⟩, fun _ => HO.out⟩
  case stop0 =>
    rintro D c pre W hD hp ⟨⟨h1, h2⟩, h3⟩ hK
    rw [HL.out] at hp
    have hcr : c ≠ .ret := fun h => off3_never L pre hp (h3 h)
    obtain ⟨hC, hB⟩ := h1 hcr
    obtain ⟨rfl, k1, k2, k3⟩ := h2 hcr
    clear h1 h2 h3 hcr
    have hlen2 := hp.length_le
    have k0 : 1 ≤ pre.length := by cases pre with | nil => exact absurd rfl k1 | cons => simp
    clear hp k1
    generalize pre.length = m at *
    obtain ⟨dN, dR, dW, _, dT, dC, _⟩ := IT0.out.below hB
    have eT := dT.cell
    have eC := hC.cell
    clear dC
    have hmn : min (L.length : Int) (max 1 n) = (m : Int) := by omega
    gi_wp2
    have hDW : D < W.heap.size := (Array.getElem?_eq_some_iff.1 hK).1
    have hD0 : V0.heap.size < D := by simp only [World.size_alloc] at hD; omega
    have hBs := hB.size
    have it1 := (IT0.out.below hB).next 1
    have hWb : Below W.heap.size W (W.alloc (.cells #[.int .i64 1] 3)) := by go_grown
    have hWV1 : Below w.heap.size w (W.alloc (.cells #[.int .i64 1] 3)) := hWV.trans ((hB.mono (by omega)).trans (hWb.mono (by omega)))
    have hK1 : (W.alloc (.cells #[.int .i64 1] 3)).heap[D]? = some (.deferred (some [])) := (hWb.block _ hDW).trans hK
    have hV1s : W.heap.size < (W.alloc (.cells #[.int .i64 1] 3)).heap.size := by simp
    clear hWb
    generalize hgV : W.alloc (.cells #[.int .i64 1] 3) = V1
    rw [hgV] at it1 hWV1 hK1 hV1s
    have IT1 := Lib.hid it1
    obtain ⟨_, _, _, cBV1, bT1, _⟩ := it1
    have cT1 := bT1.cell
    clear eT eC
    rw [roundsIn_succ]
    gi_wp2
    have bV1 : Below V1.heap.size V1 (V1.alloc (.cells #[.int .i64 0] 3)) := by go_grown
    refine' wpIn_rangeFunc_ownF (encs := fun x : Int => #[.int .i64 x]) (Kp := Below V1.heap.size) (S := fun xs => xs = lst s 8) (Sp := fun pre => pre <+: lst s 8) (N := 8) rfl (by decide) (gf := 45) (lb := #[.pointer (some ⟨w1.heap.size + 1, 0, none⟩)]) rfl trivial (enters_of Try.func45 (by kernel_rfl) rfl)
      (w0 := V1.alloc (.cells #[.int .i64 0] 3))
      (fun l J Jx W hW _ _ hY h0 => all1_in (Below V1.heap.size) l (w1.heap.size + 1) s hs J Jx hY W ((hW.cell (p := ⟨w1.heap.size + 1, 0, none⟩) (by rw [World.size_alloc]; show w1.heap.size + 1 < _; omega)).trans ((bV1.cell (p := ⟨w1.heap.size + 1, 0, none⟩) (by show w1.heap.size + 1 < _; omega)).trans cBV1)) h0)
      belowK_t (belowK_b (by simp)) (Below.refl _ _) (fun _ => rfl)
      (fun pre W => (Boxed W V1.heap.size 3 (.int .i64 (pre.length : Int)) ∧ Below V1.heap.size V1 W))
      (fun _ pre _ => Off3 L pre)
      (OwnFrom.and (Own.from (boxed_own _ _ (fun pre : List Int => .int .i64 (pre.length : Int))) _) (ownFrom_below (by simp) (by simp)))
      (fun c => ownFrom_pure _ _)
      ⟨Boxed.new _ _ _, by go_grown⟩
      _ ?assign1 ?body1 ?done1 ?stop1
    case assign1 =>
      intro l x W K hK
      gi_wp2
      exact hK
    case body1 =>
      rintro l pre x W ⟨hC, hB⟩ hlt
      have hpl : pre.length < 8 := hlt
      obtain ⟨dN, dR, dW, _, dT, dC, _⟩ := IT1.out.below hB
      have eR := dR.cell
      have fR := dR.frozen
      have eT := dT.cell
      have eC := hC.cell
      have fC := hC.frozen
      by_cases hll : pre.length < L.length
      · have eX := dC pre.length hll
        clear dC
        by_cases hv : L[pre.length] = x
        · rw [hv] at eX
          gi_wp2
          refine ⟨KeepsOthers.setCell _ _ _, ?_, ?_, ?_⟩
          · exact (Below.refl _ W).setCell (p := ⟨V1.heap.size, 0, none⟩) (Nat.le_refl _) _
          · rw [List.length_append, List.length_singleton]; exact hC.set (.int .i64 ((pre.length : Int) + 1))
          · exact hB.setCell (p := ⟨V1.heap.size, 0, none⟩) (Nat.le_refl _) _
        · have HO : Hid (Off3 L (pre ++ [x])) := Lib.hid ⟨pre, x, rfl, by rw [List.getElem?_eq_getElem hll]; exact fun h => hv (Option.some.inj h)⟩
          have hv2 : x ≠ L[pre.length] := fun h => hv h.symm
          generalize L[pre.length] = y at *
          have hv3 : (x != y) = true := by simp [bne, hv2]
          gi_wp2
          exact ⟨KeepsOthers.setCell _ _ _, HO.out⟩
      · have HO : Hid (Off3 L (pre ++ [x])) := Lib.hid ⟨pre, x, rfl, by rw [List.getElem?_eq_none (by omega)]; exact fun h => by cases h⟩
        clear dC
        gi_wp2
        exact ⟨KeepsOthers.setCell _ _ _, HO.out⟩
    case stop1 =>
      rintro D c pre W hD hp h3 hK
      rw [HL.out] at hp
      exact absurd h3 (off3_never L pre hp)
    case done1 =>
      rintro D2 ys W2 hD2 rfl ⟨hC, hB2⟩ hK2
      rw [HL.out] at hC
      obtain ⟨dN, dR, dW, _, dT, dC, _⟩ := IT1.out.below hB2
      have eT := dT.cell
      have eC := hC.cell
      clear dC
      gi_wp2
      have hV3 : Below W2.heap.size W2 (W2.alloc (.cells #[.int .i64 2] 3)) := by go_grown
      have hT3 : (W2.alloc (.cells #[.int .i64 2] 3)).cell? ⟨W2.heap.size, 0, none⟩ = some (.int .i64 2) := (Boxed.new W2 3 (.int .i64 2)).cell
      generalize hgV3 : W2.alloc (.cells #[.int .i64 2] 3) = V3
      rw [hgV3] at hV3 hT3
      rw [roundsIn_succ]
      have hR3 : Boxed V3 (w.heap.size + 1) 4 (.bool false) := (hV3.block _ dR.lt).trans dR
      have eR := hR3.cell
      have fR := hR3.frozen
      gi_wp2_with (refine ⟨trivial, ?_⟩; gi_at_call 13; refine (callsIn_wide.2 (known_any _)).mono ?_; rintro e w9 ⟨rfl, b9⟩; have hf9 := (b9.frozen (p := ⟨w.heap.size + 1, 0, none⟩) hR3.lt).trans fR; have hc9 := (b9.cell (p := ⟨w.heap.size + 1, 0, none⟩) hR3.lt).trans eR)
      have hW3 : Below w.heap.size w V3 := hWV1.trans ((hB2.mono (by omega)).trans (hV3.mono (by omega)))
      have hB2s := hB2.size
      have hKa : V3.heap[D]? = some (.deferred (some [])) := (hV3.block _ (by omega)).trans ((hB2.block _ (by omega)).trans hK1)
      have hKb : V3.heap[D2]? = some (.deferred (some [])) := (hV3.block _ (Array.getElem?_eq_some_iff.1 hK2).1).trans hK2
      have hD2' : V1.heap.size < D2 := by simp only [World.size_alloc] at hD2; omega
      obtain ⟨k1, k2, k3, k4⟩ := finish2 (.bool true) (by omega : D ≠ w.heap.size + 1) (by omega : D2 ≠ w.heap.size + 1) (by omega) hW3 b9 (by omega) hR3 hKa hKb (by omega) (by omega)
      refine ⟨by simp, .inl ⟨_, _, rfl, run_takeDeferred k1, ?_⟩⟩
      refine ⟨by simp, .inl ⟨_, _, rfl, run_takeDeferred k2, ?_⟩⟩
      exact ⟨.bool true, by simp [results, Try.results6, go_sem, k3], rfl, k4⟩
  case done0 =>
    rintro D ys W hD rfl ⟨⟨hC, hB⟩, hpn⟩ hK
    rw [HL.out] at hC hpn
    have hgn : (L.length : Int) < n := by
      rcases hpn with h | h
      · rw [h] at hne; simp at hne
      · exact h
    clear hpn
    have hmn : min (L.length : Int) (max 1 n) = (L.length : Int) := by omega
    clear hgn
    obtain ⟨dN, dR, dW, _, dT, dC, _⟩ := IT0.out.below hB
    have eT := dT.cell
    have eC := hC.cell
    clear dC
    gi_wp2
    have hDW : D < W.heap.size := (Array.getElem?_eq_some_iff.1 hK).1
    have hD0 : V0.heap.size < D := by simp only [World.size_alloc] at hD; omega
    have hBs := hB.size
    have it1 := (IT0.out.below hB).next 1
    have hWb : Below W.heap.size W (W.alloc (.cells #[.int .i64 1] 3)) := by go_grown
    have hWV1 : Below w.heap.size w (W.alloc (.cells #[.int .i64 1] 3)) := hWV.trans ((hB.mono (by omega)).trans (hWb.mono (by omega)))
    have hK1 : (W.alloc (.cells #[.int .i64 1] 3)).heap[D]? = some (.deferred (some [])) := (hWb.block _ hDW).trans hK
    have hV1s : W.heap.size < (W.alloc (.cells #[.int .i64 1] 3)).heap.size := by simp
    clear hWb
    generalize hgV : W.alloc (.cells #[.int .i64 1] 3) = V1
    rw [hgV] at it1 hWV1 hK1 hV1s
    have IT1 := Lib.hid it1
    obtain ⟨_, _, _, cBV1, bT1, _⟩ := it1
    have cT1 := bT1.cell
    clear eT eC
    rw [roundsIn_succ]
    gi_wp2
    have bV1 : Below V1.heap.size V1 (V1.alloc (.cells #[.int .i64 0] 3)) := by go_grown
    refine' wpIn_rangeFunc_ownF (encs := fun x : Int => #[.int .i64 x]) (Kp := Below V1.heap.size) (S := fun xs => xs = lst s 8) (Sp := fun pre => pre <+: lst s 8) (N := 8) rfl (by decide) (gf := 45) (lb := #[.pointer (some ⟨w1.heap.size + 1, 0, none⟩)]) rfl trivial (enters_of Try.func45 (by kernel_rfl) rfl)
      (w0 := V1.alloc (.cells #[.int .i64 0] 3))
      (fun l J Jx W hW _ _ hY h0 => all1_in (Below V1.heap.size) l (w1.heap.size + 1) s hs J Jx hY W ((hW.cell (p := ⟨w1.heap.size + 1, 0, none⟩) (by rw [World.size_alloc]; show w1.heap.size + 1 < _; omega)).trans ((bV1.cell (p := ⟨w1.heap.size + 1, 0, none⟩) (by show w1.heap.size + 1 < _; omega)).trans cBV1)) h0)
      belowK_t (belowK_b (by simp)) (Below.refl _ _) (fun _ => rfl)
      (fun pre W => (Boxed W V1.heap.size 3 (.int .i64 (pre.length : Int)) ∧ Below V1.heap.size V1 W))
      (fun _ pre _ => Off3 L pre)
      (OwnFrom.and (Own.from (boxed_own _ _ (fun pre : List Int => .int .i64 (pre.length : Int))) _) (ownFrom_below (by simp) (by simp)))
      (fun c => ownFrom_pure _ _)
      ⟨Boxed.new _ _ _, by go_grown⟩
      _ ?assign5 ?body5 ?done5 ?stop5
    case assign5 =>
      intro l x W K hK
      gi_wp2
      exact hK
    case body5 =>
      rintro l pre x W ⟨hC, hB⟩ hlt
      have hpl : pre.length < 8 := hlt
      obtain ⟨dN, dR, dW, _, dT, dC, _⟩ := IT1.out.below hB
      have eR := dR.cell
      have fR := dR.frozen
      have eT := dT.cell
      have eC := hC.cell
      have fC := hC.frozen
      by_cases hll : pre.length < L.length
      · have eX := dC pre.length hll
        clear dC
        by_cases hv : L[pre.length] = x
        · rw [hv] at eX
          gi_wp2
          refine ⟨KeepsOthers.setCell _ _ _, ?_, ?_, ?_⟩
          · exact (Below.refl _ W).setCell (p := ⟨V1.heap.size, 0, none⟩) (Nat.le_refl _) _
          · rw [List.length_append, List.length_singleton]; exact hC.set (.int .i64 ((pre.length : Int) + 1))
          · exact hB.setCell (p := ⟨V1.heap.size, 0, none⟩) (Nat.le_refl _) _
        · have HO : Hid (Off3 L (pre ++ [x])) := Lib.hid ⟨pre, x, rfl, by rw [List.getElem?_eq_getElem hll]; exact fun h => hv (Option.some.inj h)⟩
          have hv2 : x ≠ L[pre.length] := fun h => hv h.symm
          generalize L[pre.length] = y at *
          have hv3 : (x != y) = true := by simp [bne, hv2]
          gi_wp2
          exact ⟨KeepsOthers.setCell _ _ _, HO.out⟩
      · have HO : Hid (Off3 L (pre ++ [x])) := Lib.hid ⟨pre, x, rfl, by rw [List.getElem?_eq_none (by omega)]; exact fun h => by cases h⟩
        clear dC
        gi_wp2
        exact ⟨KeepsOthers.setCell _ _ _, HO.out⟩
    case stop5 =>
      rintro D c pre W hD hp h3 hK
      rw [HL.out] at hp
      exact absurd h3 (off3_never L pre hp)
    case done5 =>
      rintro D2 ys W2 hD2 rfl ⟨hC, hB2⟩ hK2
      rw [HL.out] at hC
      obtain ⟨dN, dR, dW, _, dT, dC, _⟩ := IT1.out.below hB2
      have eT := dT.cell
      have eC := hC.cell
      clear dC
      gi_wp2
      have hV3 : Below W2.heap.size W2 (W2.alloc (.cells #[.int .i64 2] 3)) := by go_grown
      have hT3 : (W2.alloc (.cells #[.int .i64 2] 3)).cell? ⟨W2.heap.size, 0, none⟩ = some (.int .i64 2) := (Boxed.new W2 3 (.int .i64 2)).cell
      generalize hgV3 : W2.alloc (.cells #[.int .i64 2] 3) = V3
      rw [hgV3] at hV3 hT3
      rw [roundsIn_succ]
      have hR3 : Boxed V3 (w.heap.size + 1) 4 (.bool false) := (hV3.block _ dR.lt).trans dR
      have eR := hR3.cell
      have fR := hR3.frozen
      gi_wp2_with (refine ⟨trivial, ?_⟩; gi_at_call 13; refine (callsIn_wide.2 (known_any _)).mono ?_; rintro e w9 ⟨rfl, b9⟩; have hf9 := (b9.frozen (p := ⟨w.heap.size + 1, 0, none⟩) hR3.lt).trans fR; have hc9 := (b9.cell (p := ⟨w.heap.size + 1, 0, none⟩) hR3.lt).trans eR)
      have hW3 : Below w.heap.size w V3 := hWV1.trans ((hB2.mono (by omega)).trans (hV3.mono (by omega)))
      have hB2s := hB2.size
      have hKa : V3.heap[D]? = some (.deferred (some [])) := (hV3.block _ (by omega)).trans ((hB2.block _ (by omega)).trans hK1)
      have hKb : V3.heap[D2]? = some (.deferred (some [])) := (hV3.block _ (Array.getElem?_eq_some_iff.1 hK2).1).trans hK2
      have hD2' : V1.heap.size < D2 := by simp only [World.size_alloc] at hD2; omega
      obtain ⟨k1, k2, k3, k4⟩ := finish2 (.bool true) (by omega : D ≠ w.heap.size + 1) (by omega : D2 ≠ w.heap.size + 1) (by omega) hW3 b9 (by omega) hR3 hKa hKb (by omega) (by omega)
      refine ⟨by simp, .inl ⟨_, _, rfl, run_takeDeferred k1, ?_⟩⟩
      refine ⟨by simp, .inl ⟨_, _, rfl, run_takeDeferred k2, ?_⟩⟩
      exact ⟨.bool true, by simp [results, Try.results6, go_sem, k3], rfl, k4⟩
end Go.Proofs.Ytgghlecpdgjnlaa.Word
