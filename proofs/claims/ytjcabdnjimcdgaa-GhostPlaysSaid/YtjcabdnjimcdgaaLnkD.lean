/-
  Links (layer 14): what is asked of a node, of a list.
-/
import Derived.Test.YtjcabdnjimcdgaaLnkC
set_option linter.unusedVariables false
set_option linter.unusedSimpArgs false
namespace Go.Proofs.Ytjcabdnjimcdgaa.Lnk
open Go Go.RowKit Kit
section
variable {w : World} {c q r cq cr N : Nat} {F : Fd} {Ls : List (List Nat)}
theorem one_block (w : World) (v : Value) (t : TypeId) : (w.alloc (.cells #[v] t)).heap[w.heap.size]? = some (.cells #[v] t (0, 0)) := (MapKept.heap_alloc w _).1
theorem box_below (W : World) (vs : Array Value) (t : TypeId) : Below W.heap.size W (W.alloc (.cells vs t)) := by go_grown
set_option maxRecDepth 100000 in
theorem Of_bad (H : Lo w c q r cq cr N F Ls) {n : Int} (n0 : (N : Int) ≤ n) (n1 : n < 4294967296) :
    Calls Try.prog 76 #[.pointer (some ⟨c, 0, none⟩), .int .u32 n] w fun e w' => e = .returned (.tuple #[.int .i64 0, .int .i64 2]) ∧ Below w.heap.size w w' := by
  have HB := Lib.hid (box_below w #[.int .u32 n] 38)
  have H1 := Lib.hid (check_any (H.below HB.out) (n := n) (by omega) n1 (one_block w _ _))
  rw [if_neg (by omega)] at H1
  clear H
  go_enter Try.func76, Try.ntmps76
  go_wp2_with fail
  refine H1.out.mono ?_
  rintro e w1 ⟨rfl, b1⟩
  have B1 := Lib.hid (tr HB.out b1)
  clear b1
  go_wp2_with fail
  go_ret2
  exact ⟨rfl, B1.out⟩
set_option maxRecDepth 100000 in
theorem Of_in (H : Lo w c q r cq cr N F Ls) {n : Nat} (n0 : n < N) {k : Int} (hk : F.hd n = k) :
    Calls Try.prog 76 #[.pointer (some ⟨c, 0, none⟩), .int .u32 (n : Int)] w fun e w' => e = .returned (.tuple (if k = -1 then #[.int .i64 0, .int .i64 9] else #[.int .i64 k, .int .i64 0])) ∧ Below w.heap.size w w' := by
  have n2 := H.n2
  have h2 := H.h2
  have kb : -1 ≤ k ∧ k ≤ 4096 := by
    by_cases hf : F.hd n = -1
    · omega
    · obtain ⟨j, l, h3, h4, h5⟩ := H.ring.in_list n0 hf
      have := (List.getElem?_eq_some_iff.1 h3).1
      omega
  have HB := Lib.hid (box_below w #[.int .u32 (n : Int)] 38)
  have H1 := Lib.hid (check_any (H.below HB.out) (n := n) (by omega) (by omega) (one_block w _ _))
  rw [if_pos (by omega)] at H1
  have HH := Lib.hid (fun w' (hb : Below w.heap.size w w') => H.below hb)
  have hi : (n : Int) < ((N + Ls.length : Nat) : Int) := by omega
  have hi2 : (n : Int) < (N : Int) + (Ls.length : Int) := by omega
  have hi3 : n < N + Ls.length := by omega
  have i0 : (0 : Int) ≤ (n : Int) := by omega
  clear H
  by_cases hk1 : k = -1
  · rw [if_pos hk1]
    have hb : (k == -1) = true := by rw [beq_iff_eq]; exact hk1
    go_enter Try.func76, Try.ntmps76
    go_wp2_with fail
    refine H1.out.mono ?_
    rintro e w1 ⟨rfl, b1⟩
    have B1 := Lib.hid (tr HB.out b1)
    obtain ⟨k0, k1, k2⟩ := (HH.out _ B1.out).cells
    obtain ⟨e0, e1, e2⟩ := (HH.out _ B1.out).fw.at_ hi3
    rw [hk, hk1] at e2
    clear b1
    go_wp2_with fail
    go_ret2
    exact ⟨rfl, B1.out⟩
  · rw [if_neg hk1]
    have hb : (k == -1) = false := by rw [beq_eq_false_iff_ne]; exact hk1
    have wk := IntWalk.i64_in k (by omega)
    go_enter Try.func76, Try.ntmps76
    go_wp2_with fail
    refine H1.out.mono ?_
    rintro e w1 ⟨rfl, b1⟩
    have B1 := Lib.hid (tr HB.out b1)
    obtain ⟨k0, k1, k2⟩ := (HH.out _ B1.out).cells
    obtain ⟨e0, e1, e2⟩ := (HH.out _ B1.out).fw.at_ hi3
    rw [hk] at e2
    clear b1
    go_wp2_with fail
    go_ret2
    exact ⟨rfl, B1.out⟩
end
end Go.Proofs.Ytjcabdnjimcdgaa.Lnk
