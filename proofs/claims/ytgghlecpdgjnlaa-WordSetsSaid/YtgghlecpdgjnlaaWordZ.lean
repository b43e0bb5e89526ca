/-
  The walk over the law WordSets (layer 1) at the empty set.
-/
import Derived.Test.YtgghlecpdgjnlaaWordS
namespace Go.Proofs.Ytgghlecpdgjnlaa.Word
open Go.RowKit Kit Go.Shelf

/-- what lies in the blocks of the law between two ranges, the set being empty -/
def ItZ (s T tb : Nat) (a : Option Addr) (c ll : Nat) (n : Int) (turn : Int) (V : World) : Prop :=
  V.cell? ⟨s, 0, none⟩ = some (.int .i64 n) ∧ Boxed V (s + 1) 4 (.bool false) ∧ V.cell? ⟨T, 0, none⟩ = some (.slice a ll c) ∧ V.cell? ⟨T + 1, 0, none⟩ = some (.int .u8 ((0 : Nat) : Int)) ∧
  Boxed V tb 3 (.int .i64 turn) ∧ s + 1 < V.heap.size ∧ T + 1 < V.heap.size
theorem ItZ.below {s T tb : Nat} {a : Option Addr} {c ll : Nat} {n : Int} {turn : Int} {V W : World} (h : ItZ s T tb a c ll n turn V) (hb : Below V.heap.size V W) : ItZ s T tb a c ll n turn W := by
  obtain ⟨h1, h2, h3, h4, h6, h8, h9⟩ := h
  have hs := hb.size
  refine ⟨(hb.cell (p := ⟨s, 0, none⟩) (by show s < _; omega)).trans h1, (hb.block _ h2.lt).trans h2, (hb.cell (p := ⟨T, 0, none⟩) (by show T < _; omega)).trans h3, (hb.cell (p := ⟨T + 1, 0, none⟩) (by show T + 1 < _; omega)).trans h4, (hb.block _ h6.lt).trans h6, by omega, by omega⟩
theorem ItZ.next {s T tb : Nat} {a : Option Addr} {c ll : Nat} {n : Int} {turn : Int} {V : World} (h : ItZ s T tb a c ll n turn V) (turn' : Int) : ItZ s T V.heap.size a c ll n turn' (V.alloc (.cells #[.int .i64 turn'] 3)) := by
  have hb : Below V.heap.size V (V.alloc (.cells #[.int .i64 turn'] 3)) := by go_grown
  obtain ⟨h1, h2, h3, h4, _, h8, h9⟩ := h.below hb
  exact ⟨h1, h2, h3, h4, Boxed.new _ _ _, h8, h9⟩
attribute [local go_sem] Oper.semAt_some
set_option maxRecDepth 100000 in
set_option maxHeartbeats 8000000 in
theorem sets_zero (n : Int) (w : World) :
    Calls Try.prog 6 #[.int .u8 ((0 : Nat) : Int), .int .i64 n] w fun e w' => e = .returned (.bool true) ∧ Below w.heap.size w w' := by
  have HR := Lib.hid (rlanes_any 0 (by decide))
  rw [lst_zero] at HR
  have HFi : Hid (∀ w, Calls Try.prog 29 #[.int .u8 ((0 : Nat) : Int)] w fun e w' => e = .returned (.int .i64 8) ∧ w' = w) := Lib.hid (fun w => (first_any 0 (by decide) w).mono (by rintro e w' ⟨rfl, rfl⟩; exact ⟨rfl, rfl⟩))
  have HCn : Hid (∀ w, Calls Try.prog 30 #[.int .u8 ((0 : Nat) : Int)] w fun e w' => e = .returned (.int .i64 ((([] : List Int).length : Nat) : Int)) ∧ w' = w) := Lib.hid (fun w => (count_any 0 (by decide) w).mono (by rintro e w' ⟨rfl, rfl⟩; exact ⟨rfl, rfl⟩))
  have HAl := Lib.hid (all_any 0)
  obtain ⟨z, hz⟩ : ∃ z : Int, ((0 : Nat) : Int) = z := ⟨_, rfl⟩
  rw [hz] at HR HFi HCn HAl ⊢
  have HZ := Lib.hid hz
  clear hz
  refine (callsIn_wide (n := 6)).1 ?_
  refine callsIn_of_wp_marks Try.func6 rfl trivial ?_ rfl
  simp only [Try.ntmps6, List.size_toArray, List.length_cons, List.length_nil, Nat.reduceAdd, Nat.reduceSub, Array.replicate_succ, Array.replicate_zero, List.push_toArray, List.append_toArray, List.nil_append, List.cons_append]
  gi_wp2
  refine ⟨trivial, ?_⟩
  refine (callsIn_wide.2 (HR.out _)).mono ?_
  rintro e w1 ⟨v, rfl, hown, b1⟩
  obtain ⟨ga, gc, rfl⟩ : ∃ a c, v = .slice a 0 c := by
    rcases own_cases (l := ([] : List Int)) (f := Value.int .i64) hown with ⟨h, _⟩ | ⟨g', cap', h, _⟩
    · exact ⟨_, _, h⟩
    · exact ⟨_, _, h⟩
  clear hown
  obtain ⟨ll, hll⟩ : ∃ ll : Nat, 0 = ll := ⟨_, rfl⟩
  have hl0 : ll ≤ 0 := by omega
  have HL0 : Hid ((([] : List Int).length : Int) = (ll : Int)) := Lib.hid (by simp; omega)
  rw [show Value.slice ga 0 gc = Value.slice ga ll gc by rw [hll]]
  clear hll
  rw [HL0.out] at HCn
  have w1s : w.heap.size + 2 ≤ w1.heap.size := by have := b1.size; simp at this; omega
  gi_wp2_with (refine ⟨trivial, ?_⟩; gi_at_call 28; refine (callsIn_wide.2 (HAl.out _)).mono ?_; rintro e w' ⟨rfl, rfl⟩)
  have hnil := fun (wx : World) => run_eql_func_nil (P := Try.prog) wx 47 _ _ _ (.func 45) #[] #[.pointer (some ⟨w1.heap.size + 1, 0, none⟩)] Try.underlying47
  generalize hVa : (w1.alloc (.cells #[.slice ga ll gc] 44)).alloc (.cells #[.int .u8 z] 5) = Va
  have hWa : Va.cell? ⟨w1.heap.size, 0, none⟩ = some (.slice ga ll gc) := by
    have : Boxed Va w1.heap.size 44 (.slice ga ll gc) := by rw [← hVa]; simp only [Boxed, heap_if, World.size_alloc, ↓reduceIte]; (repeat' (split <;> try omega)); all_goals rfl
    exact this.cell
  refine wpIn_wide.2 ?_
  go_quiet (first | (go_at_call 29; refine Calls.quiet_of_same (HFi.out _)) | (go_at_call 30; refine Calls.quiet_of_same (HCn.out _)))
  have hVab : Below w1.heap.size w1 Va := by rw [← hVa]; go_grown
  have hVas : w1.heap.size + 2 ≤ Va.heap.size := by rw [← hVa]; simp
  have hSa : Boxed Va (w1.heap.size + 1) 5 (.int .u8 z) := by rw [← hVa]; simp only [Boxed, heap_if, World.size_alloc, ↓reduceIte]
  clear hVa
  have hdr : Below Va.heap.size Va (Va.drewN nq) := below_drewN (Below.refl _ _) _
  generalize Va.drewN nq = Vd at hdr ⊢
  have hVds := hdr.size
  gi_wp2
  have hVab2 : Below Va.heap.size Va (Vd.alloc (.cells #[.int .i64 0] 3)) := tr hdr (by go_grown)
  have bT : Boxed (Vd.alloc (.cells #[.int .i64 0] 3)) Vd.heap.size 3 (.int .i64 0) := Boxed.new Vd _ _
  generalize hV : Vd.alloc (.cells #[.int .i64 0] 3) = V0
  rw [hV] at hVab2 bT
  have hVdV : Vd.heap.size < V0.heap.size := bT.lt
  have hVb : Below w1.heap.size w1 V0 := hVab.trans (hVab2.mono (by omega))
  have hVs : w1.heap.size + 2 < V0.heap.size := Nat.lt_of_le_of_lt (Nat.le_trans hVas hVds) bT.lt
  have it0 : ItZ w.heap.size w1.heap.size Vd.heap.size ga gc ll n 0 V0 := by
    have q1 : Boxed w1 w.heap.size 3 (.int .i64 n) := (b1.block _ (by simp; omega)).trans (by simp only [heap_if, World.size_alloc, ↓reduceIte]; (repeat' (split <;> try omega)); all_goals rfl)
    have q2 : Boxed w1 (w.heap.size + 1) 4 (.bool false) := (b1.block _ (by simp)).trans (by simp only [heap_if, World.size_alloc, ↓reduceIte])
    refine ⟨(hVb.cell (p := ⟨w.heap.size, 0, none⟩) (by show w.heap.size < _; omega)).trans q1.cell, (hVb.block _ (by omega)).trans q2, (hVab2.cell (p := ⟨w1.heap.size, 0, none⟩) (by show w1.heap.size < _; omega)).trans hWa, (hVab2.cell (p := ⟨w1.heap.size + 1, 0, none⟩) (by show w1.heap.size + 1 < _; omega)).trans (HZ.out ▸ hSa.cell), bT, by omega, by omega⟩
  have hWV : Below w.heap.size w V0 := (by go_grown : Below w.heap.size w ((w.alloc (.cells #[.int .i64 n] 3)).alloc (.cells #[.bool false] 4))).trans ((b1.mono (by simp; omega)).trans (hVb.mono (by omega)))
  clear hWa hVab2 hdr hSa
  have IT0 := Lib.hid it0
  obtain ⟨_, _, _, cBV0, bT0, _⟩ := it0
  have cT0 := bT0.cell
  refine wpIn_loop_rounds 3 ?_
  rw [roundsIn_succ]
  gi_wp2
  have bV0 : Below V0.heap.size V0 (V0.alloc (.cells #[.int .i64 0] 3)) := by go_grown
  refine' wpIn_rangeFunc_ownF (encs := fun x : Int => #[.int .i64 x]) (Kp := Below V0.heap.size) (S := fun xs => xs = lst 0 8) (Sp := fun pre => pre <+: lst 0 8) (N := 8) rfl (by decide) (gf := 45) (lb := #[.pointer (some ⟨w1.heap.size + 1, 0, none⟩)]) rfl trivial (enters_of Try.func45 (by kernel_rfl) rfl)
    (w0 := V0.alloc (.cells #[.int .i64 0] 3))
    (fun l J Jx W hW _ _ hY h0 => all1_in (Below V0.heap.size) l (w1.heap.size + 1) 0 (by decide) J Jx hY W ((hW.cell (p := ⟨w1.heap.size + 1, 0, none⟩) (by rw [World.size_alloc]; show w1.heap.size + 1 < _; omega)).trans ((bV0.cell (p := ⟨w1.heap.size + 1, 0, none⟩) (by show w1.heap.size + 1 < _; omega)).trans cBV0)) h0)
    belowK_t (belowK_b (by simp)) (Below.refl _ _) (fun _ => rfl)
    (fun pre W => (Boxed W V0.heap.size 3 (.int .i64 (pre.length : Int)) ∧ Below V0.heap.size V0 W) ∧ pre = [])
    (fun _ pre _ => pre ≠ [])
    (OwnFrom.and (OwnFrom.and (Own.from (boxed_own _ _ (fun pre : List Int => .int .i64 (pre.length : Int))) _) (ownFrom_below (by simp) (by simp))) (ownFrom_pure _ _))
    (fun c => ownFrom_pure _ _)
    ⟨⟨Boxed.new _ _ _, by go_grown⟩, rfl⟩
    _ ?assign0 ?body0 ?done0 ?stop0
  case assign0 =>
    intro l x W K hK
    gi_wp2
    exact hK
  case body0 =>
    rintro l pre x W ⟨⟨hC, hB⟩, rfl⟩ hlt
    obtain ⟨dN, dR, dW, _, dT, _⟩ := IT0.out.below hB
    have eR := dR.cell
    have fR := dR.frozen
    have eT := dT.cell
    have eC := hC.cell
    have fC := hC.frozen
    rw [HL0.out] at eC
    gi_wp2
    exact ⟨KeepsOthers.setCell _ _ _, by simp⟩
  case stop0 =>
    rintro D c pre W hD hp h3 hK
    rw [lst_zero] at hp
    exact absurd (List.prefix_nil.1 hp) h3
  case done0 =>
    rintro D ys W hD rfl ⟨⟨hC, hB⟩, hnl⟩ hK
    rw [lst_zero] at hC
    clear hnl
    obtain ⟨dN, dR, dW, _, dT, _⟩ := IT0.out.below hB
    have eT := dT.cell
    have eC := hC.cell
    rw [HL0.out] at eC
    have hmn : min (ll : Int) (max 1 n) = (ll : Int) := by omega
    gi_wp2
    have hDW : D < W.heap.size := (Array.getElem?_eq_some_iff.1 hK).1
    have hD0 : V0.heap.size < D := by simp only [World.size_alloc] at hD; omega
    have hBs := hB.size
    have it1 := (IT0.out.below hB).next 1
    have hWb : Below W.heap.size W (W.alloc (.cells #[.int .i64 1] 3)) := by go_grown
    have hWV1 : Below w.heap.size w (W.alloc (.cells #[.int .i64 1] 3)) := hWV.trans ((hB.mono (by omega)).trans (hWb.mono (by omega)))
    have hK1 : (W.alloc (.cells #[.int .i64 1] 3)).heap[D]? = some (.deferred (some [])) := (hWb.block _ hDW).trans hK
    have hV1s : W.heap.size < (W.alloc (.cells #[.int .i64 1] 3)).heap.size := by simp
    clear hWb
    generalize hgV : W.alloc (.cells #[.int .i64 1] 3) = V1
    rw [hgV] at it1 hWV1 hK1 hV1s
    have IT1 := Lib.hid it1
    obtain ⟨_, _, _, cBV1, bT1, _⟩ := it1
    have cT1 := bT1.cell
    clear eT eC
    rw [roundsIn_succ]
    gi_wp2
    have bV1 : Below V1.heap.size V1 (V1.alloc (.cells #[.int .i64 0] 3)) := by go_grown
    refine' wpIn_rangeFunc_ownF (encs := fun x : Int => #[.int .i64 x]) (Kp := Below V1.heap.size) (S := fun xs => xs = lst 0 8) (Sp := fun pre => pre <+: lst 0 8) (N := 8) rfl (by decide) (gf := 45) (lb := #[.pointer (some ⟨w1.heap.size + 1, 0, none⟩)]) rfl trivial (enters_of Try.func45 (by kernel_rfl) rfl)
      (w0 := V1.alloc (.cells #[.int .i64 0] 3))
      (fun l J Jx W hW _ _ hY h0 => all1_in (Below V1.heap.size) l (w1.heap.size + 1) 0 (by decide) J Jx hY W ((hW.cell (p := ⟨w1.heap.size + 1, 0, none⟩) (by rw [World.size_alloc]; show w1.heap.size + 1 < _; omega)).trans ((bV1.cell (p := ⟨w1.heap.size + 1, 0, none⟩) (by show w1.heap.size + 1 < _; omega)).trans cBV1)) h0)
      belowK_t (belowK_b (by simp)) (Below.refl _ _) (fun _ => rfl)
      (fun pre W => (Boxed W V1.heap.size 3 (.int .i64 (pre.length : Int)) ∧ Below V1.heap.size V1 W) ∧ pre = [])
      (fun _ pre _ => pre ≠ [])
      (OwnFrom.and (OwnFrom.and (Own.from (boxed_own _ _ (fun pre : List Int => .int .i64 (pre.length : Int))) _) (ownFrom_below (by simp) (by simp))) (ownFrom_pure _ _))
      (fun c => ownFrom_pure _ _)
      ⟨⟨Boxed.new _ _ _, by go_grown⟩, rfl⟩
      _ ?assign1 ?body1 ?done1 ?stop1
    case assign1 =>
      intro l x W K hK
      gi_wp2
      exact hK
    case body1 =>
      rintro l pre x W ⟨⟨hC, hB⟩, rfl⟩ hlt
      obtain ⟨dN, dR, dW, _, dT, _⟩ := IT1.out.below hB
      have eR := dR.cell
      have fR := dR.frozen
      have eT := dT.cell
      have eC := hC.cell
      have fC := hC.frozen
      rw [HL0.out] at eC
      gi_wp2
      exact ⟨KeepsOthers.setCell _ _ _, by simp⟩
    case stop1 =>
      rintro D c pre W hD hp h3 hK
      rw [lst_zero] at hp
      exact absurd (List.prefix_nil.1 hp) h3
    case done1 =>
      rintro D2 ys W2 hD2 rfl ⟨⟨hC, hB2⟩, hnl⟩ hK2
      rw [lst_zero] at hC
      clear hnl
      obtain ⟨dN, dR, dW, _, dT, _⟩ := IT1.out.below hB2
      have eT := dT.cell
      have eC := hC.cell
      rw [HL0.out] at eC
      gi_wp2
      have hV3 : Below W2.heap.size W2 (W2.alloc (.cells #[.int .i64 2] 3)) := by go_grown
      have hT3 : (W2.alloc (.cells #[.int .i64 2] 3)).cell? ⟨W2.heap.size, 0, none⟩ = some (.int .i64 2) := (Boxed.new W2 3 (.int .i64 2)).cell
      generalize hgV3 : W2.alloc (.cells #[.int .i64 2] 3) = V3
      rw [hgV3] at hV3 hT3
      rw [roundsIn_succ]
      have hR3 : Boxed V3 (w.heap.size + 1) 4 (.bool false) := (hV3.block _ dR.lt).trans dR
      have eR := hR3.cell
      have fR := hR3.frozen
      gi_wp2_with (refine ⟨trivial, ?_⟩; gi_at_call 13; refine (callsIn_wide.2 (known_any _)).mono ?_; rintro e w9 ⟨rfl, b9⟩; have hf9 := (b9.frozen (p := ⟨w.heap.size + 1, 0, none⟩) hR3.lt).trans fR; have hc9 := (b9.cell (p := ⟨w.heap.size + 1, 0, none⟩) hR3.lt).trans eR)
      have hW3 : Below w.heap.size w V3 := hWV1.trans ((hB2.mono (by omega)).trans (hV3.mono (by omega)))
      have hB2s := hB2.size
      have hKa : V3.heap[D]? = some (.deferred (some [])) := (hV3.block _ (by omega)).trans ((hB2.block _ (by omega)).trans hK1)
      have hKb : V3.heap[D2]? = some (.deferred (some [])) := (hV3.block _ (Array.getElem?_eq_some_iff.1 hK2).1).trans hK2
      have hD2' : V1.heap.size < D2 := by simp only [World.size_alloc] at hD2; omega
      obtain ⟨k1, k2, k3, k4⟩ := finish2 (.bool true) (by omega : D ≠ w.heap.size + 1) (by omega : D2 ≠ w.heap.size + 1) (by omega) hW3 b9 (by omega) hR3 hKa hKb (by omega) (by omega)
      refine ⟨by simp, .inl ⟨_, _, rfl, run_takeDeferred k1, ?_⟩⟩
      refine ⟨by simp, .inl ⟨_, _, rfl, run_takeDeferred k2, ?_⟩⟩
      exact ⟨.bool true, by simp [results, Try.results6, go_sem, k3], rfl, k4⟩
theorem sets_any (s : Nat) (hs : s < 256) (n : Int) (w : World) :
    Calls Try.prog 6 #[.int .u8 s, .int .i64 n] w fun e w' => e = .returned (.bool true) ∧ Below w.heap.size w w' := by
  by_cases h : s = 0
  · subst h; exact sets_zero n w
  · exact sets_ok s hs (by rw [lst_cons s hs h]; simp) n w
end Go.Proofs.Ytgghlecpdgjnlaa.Word
