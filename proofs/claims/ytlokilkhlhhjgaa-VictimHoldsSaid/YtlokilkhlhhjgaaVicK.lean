/-
  Victims (layer 18): order.
-/
import Derived.Test.YtlokilkhlhhjgaaVicJ
set_option linter.unusedVariables false
set_option linter.unusedSimpArgs false
namespace Go.Proofs.Ytlokilkhlhhjgaa.Vic
open Go Go.RowKit Kit
set_option maxRecDepth 100000 in
theorem order_any {W : World} {m1 c1 m2 c2 : Nat} {p1 p2 : Option Addr} {l1 l2 : List Wg} {k n b : Int} (h1 : l1.length = m1) (h2 : l2.length = m2) (r1 : Rd W p1 l1) (r2 : Rd W p2 l2) (hb1 : m1 ≤ 4000000) (hb2 : m2 ≤ 4000000) :
    Calls Try.prog 25 #[qv p1 m1 c1 p2 m2 c2 k n b] W fun e w' => ∃ v, e = .returned v ∧ Ow w' W.heap.size v (notk k (l1 ++ l2)) ∧ Below W.heap.size W w' := by
  go_enter Try.func25, Try.ntmps25
  have bA : ∀ t, Below W.heap.size W (W.alloc (.cells #[.slice p1 m1 c1, .slice p2 m2 c2, .int .u32 k, .int .i64 n, .int .i64 b] t)) := fun _ => by go_grown
  go_wp2_with fail
  refine (all_any h1 h2 (r1.below (bA _)) (r2.below (bA _)) hb1 hb2).mono ?_
  rintro e w1 ⟨x1, rfl, o1, b1⟩
  have hL : (l1 ++ l2).length = m1 + m2 := by rw [List.length_append, h1, h2]
  obtain ⟨q, nn, kk, rfl, hnn, -, -⟩ := o1.form
  rw [hL] at hnn
  have R1 := Lib.hid (rd_ow o1)
  obtain ⟨ll, hll⟩ : ∃ x, l1 ++ l2 = x := ⟨_, rfl⟩
  rw [hll] at hL R1
  have HLL := Lib.hid hll
  clear hll
  have b1' := tr (bA _) b1
  have hbx : ∀ t, Qb (W.alloc (.cells #[.slice p1 m1 c1, .slice p2 m2 c2, .int .u32 k, .int .i64 n, .int .i64 b] t)) W.heap.size k := fun t => by
    have := (MapKept.heap_alloc W (.cells #[.slice p1 m1 c1, .slice p2 m2 c2, .int .u32 k, .int .i64 n, .int .i64 b] t)).1
    exact ⟨by unfold World.cell?; rw [this]; rfl, (Array.getElem?_eq_some_iff.1 this).1⟩
  have BXQ := Lib.hid ((hbx _).below b1)
  have hs1b : W.heap.size + 1 ≤ w1.heap.size := by have := b1.size; simpa only [World.size_alloc] using this
  clear o1 b1 r1 r2
  have hnb : nn ≤ 8000000 := by omega
  have HN := Lib.hid hnn
  have HL := Lib.hid hL
  clear hnn hL h1 h2 hb1 hb2
  obtain ⟨i0, hi0, hz0, hz1, hz2⟩ := w_parts
  have hs1 := b1'.size
  have hby : i0.bytes * nn ≤ 281474976710656 := by rw [hz2]; omega
  have hmx : nn ≤ maxLen := by unfold maxLen; omega
  go_wp2_with (refine wpList_make_full _ rfl (.tmp 8) (.tmp 8) 22 rfl w1.heap.size 34 i0 _ 2 (by kernel_rfl) hi0 hz0 hz1 .i64 .i64 _ _ nn rfl rfl rfl rfl hby hmx (Nat.le_refl _) ?_)
  intro w2 o2 g2
  have b2w : Below w1.heap.size w1 w2 := (Below.refl _ _).grown g2 (Nat.le_refl _) fun k hk => by cases hk
  have R2 := Lib.hid (R1.out.below b2w)
  have b2' := b2w
  clear g2 b2w R1
  have hln : ll.length = nn := HL.out.trans HN.out.symm
  have HLN := Lib.hid hln
  clear hln
  have b1s := Lib.hid b1'
  have b2s := Lib.hid b2'
  clear b1' b2'
  go_wp2_with (refine wpList_copyW rfl (.tmp 10) (.tmp 11) rfl w1.heap.size (.slice (some ⟨w1.heap.size, 0, none⟩) nn nn) nn _ (by rfl) o2 q nn kk ll (by rfl) HLN.out rfl R2.out ?_)
  intro w3 o3 b3
  have O3 := Lib.hid o3
  have B3 := Lib.hid b3
  clear o3 b3 o2
  go_wp2_with fail
  have BQ := Lib.hid (b2s.out.trans B3.out)
  refine (del_any O3.out (BXQ.out.below BQ.out) (Nat.lt_of_lt_of_le (Nat.lt_succ_self _) hs1b) (by omega) BQ.out.size).mono ?_
  rintro e w4 ⟨v4, rfl, o4, b4⟩
  have B4 := Lib.hid (BQ.out.trans b4)
  have O4 := Lib.hid o4
  clear o4 b4
  go_wp2_with fail
  go_ret
  exact ⟨_, rfl, by rw [HLL.out]; exact O4.out.lift hs1, b1s.out.trans (B4.out.mono hs1)⟩
end Go.Proofs.Ytlokilkhlhhjgaa.Vic
