/-
  Links (layer 14): Next, Prev, Len, Nodes, Heads.
-/
import Derived.Test.YtggimkfepcgaoaaLnkE
set_option linter.unusedVariables false
set_option linter.unusedSimpArgs false
namespace Go.Proofs.Ytggimkfepcgaoaa.Lnk
open Go Go.RowKit Kit
section
variable {w : World} {c q r cq cr N : Nat} {F : Fd} {Ls : List (List Nat)}
set_option maxRecDepth 100000 in
theorem Next_bad (H : Lo w c q r cq cr N F Ls) {n : Int} (n0 : (N : Int) ≤ n) (n1 : n < 4294967296) :
    Calls Try.prog 63 #[.pointer (some ⟨c, 0, none⟩), .int .u32 n] w fun e w' => e = .returned (.tuple #[.int .u32 0, .int .i64 2]) ∧ Below w.heap.size w w' := by
  have H1 := Lib.hid (Of_bad H n0 n1)
  clear H
  go_enter Try.func63, Try.ntmps63
  go_wp2_with fail
  refine H1.out.mono ?_
  rintro e w1 ⟨rfl, b1⟩
  have B1 := Lib.hid b1
  clear b1
  go_wp2_with fail
  go_ret2
  exact ⟨rfl, B1.out⟩
set_option maxRecDepth 100000 in
theorem Next_free (H : Lo w c q r cq cr N F Ls) {n : Nat} (n0 : n < N) (hf : F.hd n = -1) :
    Calls Try.prog 63 #[.pointer (some ⟨c, 0, none⟩), .int .u32 (n : Int)] w fun e w' => e = .returned (nodeR none) ∧ Below w.heap.size w w' := by
  have H1 := Lib.hid (Of_in H n0 hf)
  rw [if_pos rfl] at H1
  clear H
  go_enter Try.func63, Try.ntmps63
  go_wp2_with fail
  refine H1.out.mono ?_
  rintro e w1 ⟨rfl, b1⟩
  have B1 := Lib.hid b1
  clear b1
  go_wp2_with fail
  go_ret2
  exact ⟨rfl, B1.out⟩
set_option maxRecDepth 100000 in
theorem Next_in (H : Lo w c q r cq cr N F Ls) {n x : Nat} (n0 : n < N) (hf : F.hd n ≠ -1) (hx : F.nx n = x) (hxl : x < N + Ls.length) :
    Calls Try.prog 63 #[.pointer (some ⟨c, 0, none⟩), .int .u32 (n : Int)] w fun e w' => e = .returned (nodeR (if x < N then some x else none)) ∧ Below w.heap.size w w' := by
  have H1 := Of_in H n0 rfl
  rw [if_neg hf] at H1
  have H1 := Lib.hid H1
  have HI := Lib.hid (fun w' (hb : Below w.heap.size w w') => inside_any (H.below hb) hxl)
  have HS := Lib.hid (fun w' (hb : Below w.heap.size w w') => (show w'.cell? ⟨c, 1, none⟩ = some (.slice (some ⟨q, 0, none⟩) (N + Ls.length) cq) ∧ w'.cell? ⟨q, n * 3 + 1, none⟩ = some (.int .u32 (x : Int)) from by
    obtain ⟨k0, k1, k2⟩ := (H.below hb).cells
    obtain ⟨e0, e1, e2⟩ := (H.below hb).fw.at_ (i := n) (by omega)
    rw [hx] at e1
    exact ⟨k1, e1⟩))
  have n2 := H.n2
  have hi2 : (n : Int) < (N : Int) + (Ls.length : Int) := by omega
  have hi3 : (n : Int) < ((N + Ls.length : Nat) : Int) := by omega
  have i0 : (0 : Int) ≤ (n : Int) := by omega
  generalize F.hd n = k at *
  clear H hf hx
  obtain ⟨y, hy⟩ : ∃ y, (if x < N then some x else none) = y := ⟨_, rfl⟩
  rw [hy] at HI ⊢
  clear hy
  cases y <;> (
  simp only [nodeR] at HI ⊢
  go_enter Try.func63, Try.ntmps63
  go_wp2_with fail
  refine H1.out.mono ?_
  rintro e w1 ⟨rfl, b1⟩
  have B1 := Lib.hid b1
  clear b1
  obtain ⟨k1, e1⟩ := HS.out _ B1.out
  go_wp2_with fail
  refine (HI.out _ B1.out).mono ?_
  rintro e w2 ⟨rfl, rfl⟩
  go_wp2_with fail
  go_ret2
  exact ⟨rfl, B1.out⟩)
set_option maxRecDepth 100000 in
theorem Prev_bad (H : Lo w c q r cq cr N F Ls) {n : Int} (n0 : (N : Int) ≤ n) (n1 : n < 4294967296) :
    Calls Try.prog 64 #[.pointer (some ⟨c, 0, none⟩), .int .u32 n] w fun e w' => e = .returned (.tuple #[.int .u32 0, .int .i64 2]) ∧ Below w.heap.size w w' := by
  have H1 := Lib.hid (Of_bad H n0 n1)
  clear H
  go_enter Try.func64, Try.ntmps64
  go_wp2_with fail
  refine H1.out.mono ?_
  rintro e w1 ⟨rfl, b1⟩
  have B1 := Lib.hid b1
  clear b1
  go_wp2_with fail
  go_ret2
  exact ⟨rfl, B1.out⟩
set_option maxRecDepth 100000 in
theorem Prev_free (H : Lo w c q r cq cr N F Ls) {n : Nat} (n0 : n < N) (hf : F.hd n = -1) :
    Calls Try.prog 64 #[.pointer (some ⟨c, 0, none⟩), .int .u32 (n : Int)] w fun e w' => e = .returned (nodeR none) ∧ Below w.heap.size w w' := by
  have H1 := Lib.hid (Of_in H n0 hf)
  rw [if_pos rfl] at H1
  clear H
  go_enter Try.func64, Try.ntmps64
  go_wp2_with fail
  refine H1.out.mono ?_
  rintro e w1 ⟨rfl, b1⟩
  have B1 := Lib.hid b1
  clear b1
  go_wp2_with fail
  go_ret2
  exact ⟨rfl, B1.out⟩
set_option maxRecDepth 100000 in
theorem Prev_in (H : Lo w c q r cq cr N F Ls) {n x : Nat} (n0 : n < N) (hf : F.hd n ≠ -1) (hx : F.pv n = x) (hxl : x < N + Ls.length) :
    Calls Try.prog 64 #[.pointer (some ⟨c, 0, none⟩), .int .u32 (n : Int)] w fun e w' => e = .returned (nodeR (if x < N then some x else none)) ∧ Below w.heap.size w w' := by
  have H1 := Of_in H n0 rfl
  rw [if_neg hf] at H1
  have H1 := Lib.hid H1
  have HI := Lib.hid (fun w' (hb : Below w.heap.size w w') => inside_any (H.below hb) hxl)
  have HS := Lib.hid (fun w' (hb : Below w.heap.size w w') => (show w'.cell? ⟨c, 1, none⟩ = some (.slice (some ⟨q, 0, none⟩) (N + Ls.length) cq) ∧ w'.cell? ⟨q, n * 3, none⟩ = some (.int .u32 (x : Int)) from by
    obtain ⟨k0, k1, k2⟩ := (H.below hb).cells
    obtain ⟨e0, e1, e2⟩ := (H.below hb).fw.at_ (i := n) (by omega)
    rw [hx] at e0
    exact ⟨k1, e0⟩))
  have n2 := H.n2
  have hi2 : (n : Int) < (N : Int) + (Ls.length : Int) := by omega
  have hi3 : (n : Int) < ((N + Ls.length : Nat) : Int) := by omega
  have i0 : (0 : Int) ≤ (n : Int) := by omega
  generalize F.hd n = k at *
  clear H hf hx
  obtain ⟨y, hy⟩ : ∃ y, (if x < N then some x else none) = y := ⟨_, rfl⟩
  rw [hy] at HI ⊢
  clear hy
  cases y <;> (
  simp only [nodeR] at HI ⊢
  go_enter Try.func64, Try.ntmps64
  go_wp2_with fail
  refine H1.out.mono ?_
  rintro e w1 ⟨rfl, b1⟩
  have B1 := Lib.hid b1
  clear b1
  obtain ⟨k1, e1⟩ := HS.out _ B1.out
  go_wp2_with fail
  refine (HI.out _ B1.out).mono ?_
  rintro e w2 ⟨rfl, rfl⟩
  go_wp2_with fail
  go_ret2
  exact ⟨rfl, B1.out⟩)
set_option maxRecDepth 100000 in
theorem Len_ok (H : Lo w c q r cq cr N F Ls) {k : Nat} {l : List Nat} (hl : Ls[k]? = some l) :
    Calls Try.prog 68 #[.pointer (some ⟨c, 0, none⟩), .int .i64 (k : Int)] w fun e w' => e = .returned (.int .i64 (l.length : Int)) ∧ w = w' := by
  have hk := (List.getElem?_eq_some_iff.1 hl).1
  have H1 := Lib.hid (checkHead_ok H hk)
  obtain ⟨k0, k1, k2⟩ := H.cells
  obtain ⟨e0, f0⟩ := H.lw.at_ hl
  have hi : (k : Int) < (Ls.length : Int) := by omega
  have i0 : (0 : Int) ≤ (k : Int) := by omega
  clear H hl
  go_enter Try.func68, Try.ntmps68
  go_wp2_with fail
  refine H1.out.mono ?_
  rintro e w1 ⟨rfl, rfl⟩
  go_wp2_with fail
  go_ret
  exact ⟨rfl, rfl⟩
set_option maxRecDepth 100000 in
theorem Len_bad (H : Lo w c q r cq cr N F Ls) {h : Int} (hh : ¬ (0 ≤ h ∧ h < (Ls.length : Int))) :
    Calls Try.prog 68 #[.pointer (some ⟨c, 0, none⟩), .int .i64 h] w fun e w' => e = .returned (.int .i64 0) ∧ w = w' := by
  have H1 := Lib.hid (checkHead_bad H hh)
  clear H hh
  go_enter Try.func68, Try.ntmps68
  go_wp2_with fail
  refine H1.out.mono ?_
  rintro e w1 ⟨rfl, rfl⟩
  go_wp2_with fail
  go_ret
  exact ⟨rfl, rfl⟩
theorem Nodes_any (H : Lo w c q r cq cr N F Ls) :
    Calls Try.prog 71 #[.pointer (some ⟨c, 0, none⟩)] w fun e w' => e = .returned (.int .i64 (N : Int)) ∧ w = w' := by
  have H1 := Lib.hid (isZero_any H)
  obtain ⟨k0, k1, k2⟩ := H.cells
  clear H
  go_enter Try.func71, Try.ntmps71
  go_wp2_with fail
  refine H1.out.mono ?_
  rintro e w1 ⟨rfl, rfl⟩
  go_wp2_with fail
  go_ret
  exact ⟨rfl, rfl⟩
theorem Heads_any (H : Lo w c q r cq cr N F Ls) :
    Calls Try.prog 73 #[.pointer (some ⟨c, 0, none⟩)] w fun e w' => e = .returned (.int .i64 (Ls.length : Int)) ∧ w = w' := by
  have H1 := Lib.hid (isZero_any H)
  obtain ⟨k0, k1, k2⟩ := H.cells
  clear H
  go_enter Try.func73, Try.ntmps73
  go_wp2_with fail
  refine H1.out.mono ?_
  rintro e w1 ⟨rfl, rfl⟩
  go_wp2_with fail
  go_ret
  exact ⟨rfl, rfl⟩
end
end Go.Proofs.Ytggimkfepcgaoaa.Lnk
