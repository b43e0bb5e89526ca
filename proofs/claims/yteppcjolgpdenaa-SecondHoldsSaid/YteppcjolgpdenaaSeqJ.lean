/-
  Second chance (layer 31): the reference's Ring; Same, Marks.
-/
import Derived.Test.YteppcjolgpdenaaSeqI
set_option linter.unusedVariables false
set_option linter.unusedSimpArgs false
namespace Go.Proofs.Yteppcjolgpdenaa.Seq
open Go Go.RowKit Kit Go.Maps
set_option maxRecDepth 100000 in
set_option maxHeartbeats 1000000 in
theorem rring_any {W : World} {q cap : Nat} {l : List Pl} (H : Rw W q l) (hm : l.length ≤ 1024) (hd : Int) :
    Calls Try.prog 22 #[.agg #[.slice (some ⟨q, 0, none⟩) l.length cap, .int .i64 hd]] W fun e w' => ∃ v1 v2, e = .returned (.tuple #[v1, v2]) ∧ Ks w' W.heap.size v1 (keysOf l) ∧ Ms w' W.heap.size v2 (marksOf l) ∧ Below W.heap.size W w' := by
  have H3 := Lib.hid H
  clear H
  obtain ⟨i0, hi0, hz0, hz1, hz2⟩ := info_parts info_u32
  obtain ⟨i1, hi1, ho0, ho1, ho2⟩ := info_parts info_bool
  obtain ⟨n, hn⟩ : ∃ n, l.length = n := ⟨_, rfl⟩
  rw [hn] at hm ⊢
  have HN := Lib.hid hn
  clear hn
  go_enter Try.func22, Try.ntmps22
  go_wp2_with fail
  go_loopw [4, 5, 6] (fun k u i wr => ∃ j : Nat, j ≤ n ∧ i = .int .i64 j ∧ Ks wr W.heap.size k (keysOf (l.take j)) ∧ Ms wr W.heap.size u (marksOf (l.take j)) ∧ wr.heap[W.heap.size]? = some (.cells #[.slice (some ⟨q, 0, none⟩) n cap, .int .i64 hd] 30 (0, 0)) ∧ Below W.heap.size W wr) (fun _ _ i _ => n - (intOf i).toNat)
  case atStart => exact ⟨0, by omega, rfl, World.ownsRow_nil _ _ _ _, World.ownsRow_nil _ _ _ _, (MapKept.heap_alloc W _).1, by go_grown⟩
  case round =>
    obtain ⟨j, hj, rfl, hK, hM, hX, bW⟩ := hrel
    have HB := Lib.hid bW
    have HKK := Lib.hid hK
    have HMM := Lib.hid hM
    have HX := Lib.hid hX
    have hc0 : wr.cell? ⟨W.heap.size, 0, none⟩ = some (.slice (some ⟨q, 0, none⟩) n cap) := by unfold World.cell?; rw [hX]; rfl
    clear bW hK hM hX
    by_cases hlt : j < n
    · obtain ⟨p, hp⟩ : ∃ p, l[j]? = some p := ⟨_, List.getElem?_eq_getElem (by rw [HN.out]; exact hlt)⟩
      have HR := Lib.hid (fun w' (hb : Below W.heap.size W w') => (H3.out.of (hb.block q H3.out.lt)).at_ hp)
      obtain ⟨r0, r1, r2, -⟩ := HR.out _ HB.out
      obtain ⟨S1, S2⟩ := keys_succ hp
      have hlt' : (j : Int) < (n : Int) := by omega
      have j0 : (0 : Int) ≤ (j : Int) := by omega
      cases hf : p.f with
      | false =>
        rw [hf] at r1
        have HS1 := Lib.hid (show keysOf (l.take (j + 1)) = keysOf (l.take j) from by rw [S1, hf]; simp)
        have HS2 := Lib.hid (show marksOf (l.take (j + 1)) = marksOf (l.take j) from by rw [S2, hf]; simp)
        clear hp hf S1 S2
        go_wp2_with fail
        go_roundw
        case rel => exact ⟨j + 1, by omega, by go_num, by rw [HS1.out]; exact HKK.out, by rw [HS2.out]; exact HMM.out, HX.out, HB.out⟩
        case measure => simp [intOf]; omega
      | true =>
        rw [hf] at r1 HR
        have HS1 := Lib.hid (show keysOf (l.take (j + 1)) = keysOf (l.take j) ++ [p.k] from by rw [S1, hf]; simp)
        have HS2 := Lib.hid (show marksOf (l.take (j + 1)) = marksOf (l.take j) ++ [p.m] from by rw [S2, hf]; simp)
        clear hp hf S1 S2
        have hkl := keys_len (l.take j)
        have hml := marks_len (l.take j)
        have hbs := HB.out.size
        rw [List.length_take] at hkl hml
        go_wp2_with (at_builtin; refine wpList_app2 rfl (.tmp 20) (.tmp 27) 36 rfl W.heap.size 40 i0 (.int .u32 0) 4 Try.underlying36 hi0 hz0 hz1 hz2 rfl _ _ _ (.int .u32 p.k) rfl HKK.out rfl rfl (by omega) (by omega) hbs ?_)
        intro v5 w5 o5 e5 l5 t5
        have HK5 := Lib.hid (show Ks w5 W.heap.size v5 (keysOf (l.take (j + 1))) from by
          rw [HS1.out]; unfold Ks; rw [List.length_append, List.map_append]; exact o5)
        have HM5 := Lib.hid (show Ms w5 W.heap.size u5 (marksOf (l.take j)) from others_own t5 (by decide) HMM.out)
        have HX5 := Lib.hid (t5 _ _ _ _ (by decide) HX.out)
        have hc5 : w5.cell? ⟨W.heap.size, 0, none⟩ = some (.slice (some ⟨q, 0, none⟩) n cap) := by unfold World.cell?; rw [HX5.out]; rfl
        have HB5 := Lib.hid (HB.out.trans e5)
        obtain ⟨y0, y1, y2, -⟩ := HR.out _ HB5.out
        have hb5 := HB5.out.size
        clear o5 e5 l5 t5 r0 r1 r2 hc0
        go_wp2_with (at_builtin; refine wpList_app2 rfl (.tmp 29) (.tmp 36) 37 rfl W.heap.size 4 i1 (.bool false) 1 Try.underlying37 hi1 ho0 ho1 ho2 rfl _ _ _ (.bool p.m) rfl HM5.out rfl rfl (by omega) (by omega) hb5 ?_)
        intro v6 w6 o6 e6 l6 t6
        have HM6 := Lib.hid (show Ms w6 W.heap.size v6 (marksOf (l.take (j + 1))) from by
          rw [HS2.out]; unfold Ms; rw [List.length_append, List.map_append]; exact o6)
        have HK6 := Lib.hid (show Ks w6 W.heap.size v5 (keysOf (l.take (j + 1))) from others_own t6 (by decide) HK5.out)
        have HX6 := Lib.hid (t6 _ _ _ _ (by decide) HX5.out)
        have HB6 := Lib.hid (HB5.out.trans e6)
        clear o6 e6 l6 t6
        go_wp2_with fail
        go_roundw
        case rel => exact ⟨j + 1, by omega, by go_num, HK6.out, HM6.out, HX6.out, HB6.out⟩
        case measure => simp [intOf]; omega
    · obtain rfl : j = n := by omega
      have HE := Lib.hid (show l.take j = l from by rw [← HN.out, List.take_length])
      go_wp2_with fail
      go_ret2
      exact ⟨_, _, rfl, by rw [← HE.out]; exact HKK.out, by rw [← HE.out]; exact HMM.out, HB.out⟩
end Go.Proofs.Yteppcjolgpdenaa.Seq
