/-
  Victims (layer 18): slices.Concat of two rows.
-/
import Derived.Test.YtlokilkhlhhjgaaVicB
set_option linter.unusedVariables false
set_option linter.unusedSimpArgs false
namespace Go.Proofs.Ytlokilkhlhhjgaa.Vic
open Go Go.RowKit Kit
theorem ow_below {w w' : World} {B : Nat} {v : Value} {l : List Wg} (h : Ow w B v l) (hb : Below w.heap.size w w') : Ow w' B v l := by
  obtain ⟨h0, ⟨hv, hn⟩ | ⟨g, cap, cur, hv, hb', hg, hr⟩⟩ := h
  · exact ⟨h0, .inl ⟨hv, hn⟩⟩
  · exact ⟨h0, .inr ⟨g, cap, cur, hv, hb', (hb.block g (Array.getElem?_eq_some_iff.1 hg).1).trans hg, hr⟩⟩
set_option maxRecDepth 100000 in
set_option maxHeartbeats 2000000 in
theorem concat_any {W : World} {g m1 c1 m2 c2 : Nat} {p1 p2 : Option Addr} {l1 l2 : List Wg} {t : TypeId} (h : W.heap[g]? = some (.cells #[.slice p1 m1 c1, .slice p2 m2 c2] t (0, 0))) (h1 : l1.length = m1) (h2 : l2.length = m2) (r1 : Rd W p1 l1) (r2 : Rd W p2 l2) (hb1 : m1 ≤ 4000000) (hb2 : m2 ≤ 4000000) :
    Calls Try.prog 35 #[.slice (some ⟨g, 0, none⟩) 2 2] W fun e w' => ∃ v, e = .returned v ∧ Ow w' W.heap.size v (l1 ++ l2) ∧ Below W.heap.size W w' := by
  have hg := (Array.getElem?_eq_some_iff.1 h).1
  have k0 : W.cell? ⟨g, 0, none⟩ = some (.slice p1 m1 c1) := by simp [World.cell?, h]
  have k1 : W.cell? ⟨g, 1, none⟩ = some (.slice p2 m2 c2) := by simp [World.cell?, h]
  have R1 := Lib.hid r1
  have R2 := Lib.hid r2
  have HH := Lib.hid (fun (w : World) (hb : Below W.heap.size W w) => (⟨(hb.cell (p := ⟨g, 0, none⟩) hg).trans k0, (hb.cell (p := ⟨g, 1, none⟩) hg).trans k1⟩ : w.cell? ⟨g, 0, none⟩ = some (.slice p1 m1 c1) ∧ w.cell? ⟨g, 1, none⟩ = some (.slice p2 m2 c2)))
  have w1 := IntWalk.i64_in (m1 : Int) (by omega)
  have w2 := IntWalk.i64_in ((m1 : Int) + (m2 : Int)) (by omega)
  have n1 : ¬ (m1 : Int) < 0 := by omega
  have n2 : ¬ (m1 : Int) + (m2 : Int) < 0 := by omega
  have HGR := Lib.hid (grow_any (m1 + m2) (by omega))
  rw [show (((m1 + m2 : Nat)) : Int) = (m1 : Int) + (m2 : Int) from by omega] at HGR
  clear h r1 r2
  go_enter Try.func35, Try.ntmps35
  go_wp2_with fail
  refine wp_loop_rounds 3 ?_
  repeat any_goals (rw [rounds_succ]; go_wp2_with fail)
  refine (HGR.out _).mono ?_
  rintro e v1 ⟨x1, rfl, o1, b1⟩
  have O1 := Lib.hid o1
  have B1 := Lib.hid b1
  clear o1 b1 k0 k1
  obtain ⟨k0, k1⟩ := HH.out _ B1.out
  have hs1 := B1.out.size
  go_wp2_with fail
  refine wp_loop_rounds 3 ?_
  rw [rounds_succ]
  go_wp2_with (at_builtin; refine wpList_appW rfl (.tmp 31) (.tmp 32) rfl W.heap.size _ [] rfl O1.out p1 m1 c1 l1 rfl h1 (R1.out.below B1.out) (by simp; omega) hs1 ?_)
  intro v2 x2 o2 b2 s2
  have O2 := Lib.hid o2
  have B2 := Lib.hid (B1.out.trans b2)
  clear o2 b2 k0 k1
  obtain ⟨k0, k1⟩ := HH.out _ B2.out
  have hs2 := B2.out.size
  go_wp2_with fail
  rw [rounds_succ]
  have hq : ([] ++ l1 : List Wg).length + m2 ≤ 100000000 := by simp; omega
  have HR2 := Lib.hid (R2.out.below B2.out)
  go_wp2_with (at_builtin; refine wpList_appW (w := x2) (o := _) rfl (.tmp 31) (.tmp 32) (by rfl) W.heap.size v2 ([] ++ l1) (by rfl) O2.out p2 m2 c2 l2 (by rfl) h2 HR2.out hq hs2 ?_)
  intro v3 x3 o3 b3 s3
  have O3 := Lib.hid o3
  have B3 := Lib.hid (B2.out.trans b3)
  clear o3 b3 k0 k1
  go_wp2_with fail
  rw [rounds_succ]
  go_wp2_with fail
  go_ret
  exact ⟨_, rfl, by simpa using O3.out, B3.out⟩
end Go.Proofs.Ytlokilkhlhhjgaa.Vic
