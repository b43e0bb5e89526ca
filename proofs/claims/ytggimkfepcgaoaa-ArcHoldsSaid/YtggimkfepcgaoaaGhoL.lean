/-
  Ghost lists (layer 28): Keys, walked.
-/
import Derived.Test.YtggimkfepcgaoaaGhoK
set_option linter.unusedVariables false
set_option linter.unusedSimpArgs false
namespace Go.Proofs.Ytggimkfepcgaoaa.Gho
open Go Go.RowKit Kit Go.Maps Lnk
attribute [local go_sem] Oper.semAt_some
set_option maxRecDepth 100000 in
set_option maxHeartbeats 4000000 in
theorem gkeys_any {w : World} {b c q r cq cr N : Nat} {F : Lnk.Fd} {g kc m nm : Nat} {D : DataW Unit} {most : Int} {L fr KL : List Nat} (H : Gh w b c q r cq cr N F g kc m nm D most L fr KL) (hL : L.length ≤ 1000000) :
    Calls Try.prog 43 #[.pointer (some ⟨b, 0, none⟩)] w fun e w' => ∃ v, e = .returned v ∧ w'.ownsRow w.heap.size 38 1 v L.length ((ints (kys KL L)).map (Value.int .u32)) ∧ Below w.heap.size w w' := by
  have HS := Lib.hid H
  have HZ := Lib.hid (gzero_any H)
  have HLN := Lib.hid (glen_any H)
  have HL := Lib.hid hL
  obtain ⟨K, hK⟩ : ∃ K, L.length = K := ⟨_, rfl⟩
  rw [hK] at HL HLN ⊢
  have HKK := Lib.hid hK
  have hmk := mk_cap32 (n := K) (by have := HL.out; omega)
  have hlt := H.lt
  have B1 := Lib.hid (show Below w.heap.size w ((w.alloc (.cells (madeCells #[.int .u32 0] K) 38)).alloc (.cells #[.slice (some ⟨w.heap.size, 0, none⟩) 0 K] 39)) from by go_grown)
  have hs3 := Lib.hid (show ((w.alloc (.cells (madeCells #[.int .u32 0] K) 38)).alloc (.cells #[.slice (some ⟨w.heap.size, 0, none⟩) 0 K] 39)).heap.size = w.heap.size + 2 from by simp)
  have X2 := Lib.hid (show ((w.alloc (.cells (madeCells #[.int .u32 0] K) 38)).alloc (.cells #[.slice (some ⟨w.heap.size, 0, none⟩) 0 K] 39)).heap[w.heap.size + 1]? = some (.cells #[.slice (some ⟨w.heap.size, 0, none⟩) 0 K] 39 (0, 0)) from by simpa using (MapKept.heap_alloc (w.alloc (.cells (madeCells #[.int .u32 0] K) 38)) (.cells #[.slice (some ⟨w.heap.size, 0, none⟩) 0 K] 39)).1)
  have X1 := Lib.hid (show ((w.alloc (.cells (madeCells #[.int .u32 0] K) 38)).alloc (.cells #[.slice (some ⟨w.heap.size, 0, none⟩) 0 K] 39)).ownsRow w.heap.size 38 1 (.slice (some ⟨w.heap.size, 0, none⟩) 0 K) 0 [] from by
    have h := (World.ownsRow_made (base := w.heap.size) (e := 38) (size := 1) w (madeCells #[.int .u32 0] K) K (Nat.le_refl _) (by have := HL.out; unfold maxLen; omega) (by rw [Nat.mul_one]; exact size_madeCells _ _)).alloc (.cells #[.slice (some ⟨w.heap.size, 0, none⟩) 0 K] 39)
    simpa using h)
  obtain ⟨i0, hi, hz0, hz1, hz2⟩ := u_parts
  clear H hL hK hlt
  refine (callsIn_wide (n := 7)).1 ?_
  refine callsIn_of_wp_marks Try.func43 rfl trivial ?_ rfl
  simp only [Try.ntmps43, List.size_toArray, List.length_cons, List.length_nil, Nat.reduceAdd, Nat.reduceSub, Array.replicate_succ, Array.replicate_zero, List.push_toArray, List.append_toArray, List.nil_append, List.cons_append]
  gi_wp2
  refine ⟨trivial, ?_⟩
  refine (callsIn_wide.2 HZ.out).mono ?_
  rintro e w1 ⟨rfl, rfl⟩
  gi_wp2
  refine ⟨trivial, ?_⟩
  refine (callsIn_wide.2 HLN.out).mono ?_
  rintro e w1 ⟨rfl, rfl⟩
  gi_wp2
  obtain ⟨V, hV⟩ : ∃ V, (w.alloc (.cells (madeCells #[.int .u32 0] K) 38)).alloc (.cells #[.slice (some ⟨w.heap.size, 0, none⟩) 0 K] 39) = V := ⟨_, rfl⟩
  rw [hV] at B1 hs3 X2 X1 ⊢
  clear hV hmk HZ HLN
  refine ⟨trivial, ?_⟩
  refine (callsIn_wide.2 (gall_any V b)).mono ?_
  rintro e V0 ⟨rfl, hV0⟩
  have H0 := Lib.hid (HS.out.below (tr B1.out (show Below V.heap.size V V0 from by rw [hV0]; exact box_below V _ _)))
  have hVb : Below V.heap.size V V0 := by rw [hV0]; exact box_below V _ _
  have XB := Lib.hid (show V0.heap[V.heap.size]? = some (.cells #[.pointer (some ⟨b, 0, none⟩)] 65 (0, 0)) from by rw [hV0]; exact (MapKept.heap_alloc V _).1)
  have hsV := hs3.out
  have hsV0 : V0.heap.size = w.heap.size + 3 := by rw [hV0]; simp; omega
  have B0 := Lib.hid (tr B1.out hVb)
  have X20 := Lib.hid ((hVb.block (w.heap.size + 1) (by omega)).trans X2.out)
  have X10 := Lib.hid (show V0.ownsRow w.heap.size 38 1 (.slice (some ⟨w.heap.size, 0, none⟩) 0 K) 0 [] from own_of X1.out (hVb.block w.heap.size (by omega)))
  have OBL := Lib.hid (show ∀ k, Obg b c q r g m k → k < w.heap.size from fun k hk => HS.out.blk hk)
  rw [hsV]
  rw [hsV] at XB
  clear hV0 hVb hsV B1 hs3 X2 X1
  gi_wp2
  refine' Nst.loop_own (encs := fun x : El (ints (kys KL L)) => #[.int .u32 x.val]) (Kp := Kpg b c q r g m (w.heap.size + 2)) (S := fun ys => vals ys = ints (kys KL L)) (Sp := fun _ => True) (N := L.length) (m := 3) rfl (by decide) (gf := 147) (lb := #[.pointer (some ⟨w.heap.size + 2, 0, none⟩)]) rfl trivial (enters_of Try.func147 (by kernel_rfl) rfl)
    (w0 := V0) (gall_in H0.out XB.out)
    (fun h k x hx => (k x hx).trans (h x hx)) ?hKb (Below.refl _ _) (fun _ => rfl)
    (fun hi pre W => Kst w V0 K hi (vals pre) W) (fun _ _ _ _ => False) (fun hi => ?ownI) (fun _ _ _ _ _ _ h _ _ => h) ?start _ ?assign ?body ?done ?stop
  case hKb =>
    intro V A hi r hV k hk
    refine World.putObj_heap_other ?_
    rcases hk with hk | rfl | ⟨hk, -⟩
    · have := OBL.out k hk; omega
    · omega
    · omega
  case ownI =>
    intro s W W' row hs hg hr
    exact (Kst.own (K := K) (hi := hi) (show w.heap.size + 2 ≤ V0.heap.size by omega) (Nat.le_refl _)) (vals s) W W' row hs hg hr
  case start =>
    intro W hW
    have hsz := hW.size
    exact ⟨⟨_, (hW.block _ (by omega)).trans X20.out, own_of X10.out (hW.block _ (by omega)), fun g hg => .inl (Option.some.inj hg).symm⟩, fun k _ h2 _ _ => hW.block k h2, hsz, tr B0.out hW, hsz, Nat.le_refl _⟩
  case assign =>
    intro l x W K hK
    gi_wp2
    exact hK
  case body =>
    rintro l hi' pre x V W hV hbV hhi hst hlt
    obtain ⟨v, hbx, hrow, hvb⟩ := hst.v
    have hst' := Lib.hid hst
    have hpl : pre.length < K := by have := HKK.out; omega
    have hvl : (vals pre).length = pre.length := vals_len pre
    rw [hvl] at hrow
    obtain ⟨va, vc, rfl, -, -⟩ := App.own_form hrow
    have hcc := hbx.cell
    have hws : w.heap.size + 2 ≤ W.heap.size := by have := hst.sz; omega
    have hne : ∀ g, (Value.slice va pre.length vc).ownBlock = some g → g ≠ w.heap.size + 1 := fun g hg e => by
      subst e
      rcases hvb _ hg with h | h
      · omega
      · have := hst.hh; omega
    have hbx' : W.heap[w.heap.size + 1]? = some (.cells #[.slice va pre.length vc] 39 (0, 0)) := hbx
    have HB := Lib.hid (And.intro hbx' (And.intro hvb hne))
    have HLK := Lib.hid HL.out
    have hxv : x.val = x.val := rfl
    clear hst hbx hvb hne hbx' hxv
    gi_wp2_with (gi_at_builtin; (refine wpListIn_append_own_at _ rfl (.tmp 13) (.tmp 15) 39 rfl w.heap.size 38 i0 (.int .u32 0) 1 4 Try.underlying39 hi hz0 hz1 hz2 rfl (by decide) (.slice va pre.length vc) pre.length ((vals pre).map (Value.int .u32)) rfl (hrow.alloc _) ⟨W.heap.size, 0, none⟩ 1 1 [.int .u32 x.val] rfl rfl (cell_one_new _ _ _) (by simp [Value.oneCell']) (by have := HLK.out; unfold maxLen; omega) (by have := HLK.out; omega) (by simp; omega) ?_); intro v' w4 hown hgr _ hat; (obtain ⟨g4, c4, rfl⟩ := ownsRow_succ hown); (obtain ⟨hx4, n1, n2, n3⟩ := Kst.next (V0 := V0) (K := K) (hi := hi') (pre := vals pre) (x := x.val) hvl hst'.out (by omega) HB.out.1 HB.out.2.1 HB.out.2.2 hown hgr hat); (have s1 : w4.cell? ⟨w.heap.size + 1, 0, none⟩ = some (.slice va pre.length vc) := by simp [World.cell?, hx4]); (have s2 : w4.frozen? ⟨w.heap.size + 1, 0, none⟩ = false := by simp [World.frozen?, hx4]))
    refine ⟨⟨n1.size, fun k o hB ho hc => n1.same k o (by omega) ho hc⟩, ?_, by show Kst w V0 K hi' (vals (pre ++ [x])) _; rw [vals_snoc]; exact n3⟩
    intro k hk
    have hh0 := hst'.out.hh
    refine n2 k ?_ ?_ ?_
    · rcases hk with hk | rfl | ⟨-, hk⟩
      · have := OBL.out k hk; omega
      · omega
      · exact hk
    · rcases hk with hk | rfl | ⟨hk, -⟩
      · have := OBL.out k hk; omega
      · omega
      · omega
    · rcases hk with hk | rfl | ⟨hk, -⟩
      · have := OBL.out k hk; omega
      · omega
      · omega
  case done =>
    rintro D1 hi' ys W hD hh hys hst hK'
    obtain ⟨v, hbx, hrow, hvb⟩ := hst.v
    have hcc := hbx.cell
    have hyl : (vals ys).length = K := by rw [hys, ints_len, kys_len]; exact HKK.out
    rw [hyl, hys] at hrow
    have HB := Lib.hid hst.bl
    clear hst hvb hbx
    gi_wp2
    refine ⟨by simp, .inl ⟨_, _, rfl, run_takeDeferred hK', ?_⟩⟩
    refine ⟨v, by simp [results, Try.results43, go_sem], v, rfl, ?_, ?_⟩
    · exact ownsRow_putObj hrow _ hK' rfl
    · exact HB.out.trans (belowK_b (w := w) (Nat.le_refl _) W D1 _ _ (by omega) hK' rfl rfl)
  case stop =>
    rintro D1 hi' cd pre W hD hh _ h hK'
    exact h.elim
end Go.Proofs.Ytggimkfepcgaoaa.Gho
