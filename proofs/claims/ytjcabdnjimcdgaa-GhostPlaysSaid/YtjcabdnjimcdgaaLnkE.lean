/-
  Links (layer 14): First, Last, Next, Prev, Len, Nodes, Heads.
-/
import Derived.Test.YtjcabdnjimcdgaaLnkD
set_option linter.unusedVariables false
set_option linter.unusedSimpArgs false
namespace Go.Proofs.Ytjcabdnjimcdgaa.Lnk
open Go Go.RowKit Kit
/-- a node, or none -/
def nodeR : Option Nat → Value
  | some x => .tuple #[.int .u32 (x : Int), .int .i64 0]
  | none => .tuple #[.int .u32 0, .int .i64 9]
section
variable {w : World} {c q r cq cr N : Nat} {F : Fd} {Ls : List (List Nat)}
theorem inside_any (H : Lo w c q r cq cr N F Ls) {n : Nat} (hn : n < N + Ls.length) :
    Calls Try.prog 151 #[.pointer (some ⟨c, 0, none⟩), .int .u32 (n : Int)] w fun e w' => e = .returned (nodeR (if n < N then some n else none)) ∧ w = w' := by
  have n2 := H.n2
  have h2 := H.h2
  by_cases h : n < N
  · rw [if_pos h]; exact inside_in H h
  · rw [if_neg h]; exact inside_out H (by omega) (by omega)
theorem nx_lt (H : Lo w c q r cq cr N F Ls) {k : Nat} {l l1 l2 : List Nat} {x : Nat} (hl : Ls[k]? = some l) : fst l (N + k) < N + Ls.length ∧ lst (N + k) l < N + Ls.length := by
  have hk := (List.getElem?_eq_some_iff.1 hl).1
  constructor
  · cases l with
    | nil => show N + k < _; omega
    | cons y l => have := (H.ring.mem k _ y hl (by simp)).1; show y < _; omega
  · rcases lst_mem (a := N + k) (l := l) with h | h
    · rw [h]; omega
    · have := (H.ring.mem k _ _ hl h).1; omega
set_option maxRecDepth 100000 in
theorem First_ok (H : Lo w c q r cq cr N F Ls) {k : Nat} {l : List Nat} (hl : Ls[k]? = some l) :
    Calls Try.prog 77 #[.pointer (some ⟨c, 0, none⟩), .int .i64 (k : Int)] w fun e w' => e = .returned (nodeR (if fst l (N + k) < N then some (fst l (N + k)) else none)) ∧ Below w.heap.size w w' := by
  have hk := (List.getElem?_eq_some_iff.1 hl).1
  have H1 := Lib.hid (checkHead_ok H hk)
  have hc := H.ring.ch k l hl
  have hlt := (nx_lt (l1 := []) (l2 := []) (x := 0) H hl).1
  have hnx : F.nx (N + k) = fst l (N + k) := hc.first
  have HS := Lib.hid (fun w' (hb : Below w.heap.size w w') => (show w'.cell? ⟨c, 1, none⟩ = some (.slice (some ⟨q, 0, none⟩) (N + Ls.length) cq) ∧ w'.cell? ⟨q, (N + k) * 3 + 1, none⟩ = some (.int .u32 ((fst l (N + k) : Nat) : Int)) ∧ Lo w' c q r cq cr N F Ls ∧ Below w.heap.size w w' from by
    have H' := H.below hb
    obtain ⟨k0, k1, k2⟩ := H'.cells
    obtain ⟨e0, e1, e2⟩ := H'.fw.at_ (i := N + k) (by omega)
    rw [hnx] at e1
    exact ⟨k1, e1, H', hb⟩))
  have H2 := Lib.hid (fun (v : World) (h : v.cell? ⟨c, 1, none⟩ = some (.slice (some ⟨q, 0, none⟩) (N + Ls.length) cq) ∧ v.cell? ⟨q, (N + k) * 3 + 1, none⟩ = some (.int .u32 ((fst l (N + k) : Nat) : Int)) ∧ Lo v c q r cq cr N F Ls ∧ Below w.heap.size w v) => root_any h.2.2.1 hk)
  have H3 := Lib.hid (fun (v : World) (h : v.cell? ⟨c, 1, none⟩ = some (.slice (some ⟨q, 0, none⟩) (N + Ls.length) cq) ∧ v.cell? ⟨q, (N + k) * 3 + 1, none⟩ = some (.int .u32 ((fst l (N + k) : Nat) : Int)) ∧ Lo v c q r cq cr N F Ls ∧ Below w.heap.size w v) => inside_any h.2.2.1 hlt)
  have hi2 : ((N + k : Nat) : Int) < (N : Int) + (Ls.length : Int) := by omega
  have hi3 : ((N + k : Nat) : Int) < ((N + Ls.length : Nat) : Int) := by omega
  have i0 : (0 : Int) ≤ ((N + k : Nat) : Int) := by omega
  obtain ⟨k0, k1, k2⟩ := H.cells
  generalize fst l (N + k) = x at *
  clear H hc hnx hl hk
  obtain ⟨M, hM⟩ : ∃ M, N + k = M := ⟨_, rfl⟩
  rw [hM] at hi2 hi3 i0 HS H2 H3
  clear hM
  obtain ⟨y, hy⟩ : ∃ y, (if x < N then some x else none) = y := ⟨_, rfl⟩
  rw [hy] at H3 ⊢
  clear hy
  cases y <;> (
  simp only [nodeR] at H3 ⊢
  go_enter Try.func77, Try.ntmps77
  go_wp2_with fail
  refine H1.out.mono ?_
  rintro e w1 ⟨rfl, rfl⟩
  go_wp2_with fail
  go_region_held3 (fun w' => w'.cell? ⟨c, 1, none⟩ = some (.slice (some ⟨q, 0, none⟩) (N + Ls.length) cq) ∧ w'.cell? ⟨q, M * 3 + 1, none⟩ = some (.int .u32 ((x : Nat) : Int)) ∧ Lo w' c q r cq cr N F Ls ∧ Below w.heap.size w w')
    (first
      | (exact HS.out _ (Below.drew (Below.refl _ _)))
      | assumption
      | fail)
    (first
      | (go_at_call 152; refine (H2.out _ (by assumption)).mono ?_; rintro e w' ⟨rfl, rfl⟩)
      | (go_at_call 151; refine (H3.out _ (by assumption)).mono ?_; rintro e w' ⟨rfl, rfl⟩)
      | fail)
  go_wp2_with fail
  go_ret2
  exact ⟨rfl, by go_grown⟩)
set_option maxRecDepth 100000 in
theorem First_bad (H : Lo w c q r cq cr N F Ls) {h : Int} (hh : ¬ (0 ≤ h ∧ h < (Ls.length : Int))) :
    Calls Try.prog 77 #[.pointer (some ⟨c, 0, none⟩), .int .i64 h] w fun e w' => e = .returned (.tuple #[.int .u32 0, .int .i64 2]) ∧ w = w' := by
  have H1 := Lib.hid (checkHead_bad H hh)
  clear H hh
  go_enter Try.func77, Try.ntmps77
  go_wp2_with fail
  refine H1.out.mono ?_
  rintro e w1 ⟨rfl, rfl⟩
  go_wp2_with fail
  go_ret2
  exact ⟨rfl, rfl⟩
set_option maxRecDepth 100000 in
theorem Last_ok (H : Lo w c q r cq cr N F Ls) {k : Nat} {l : List Nat} (hl : Ls[k]? = some l) :
    Calls Try.prog 86 #[.pointer (some ⟨c, 0, none⟩), .int .i64 (k : Int)] w fun e w' => e = .returned (nodeR (if lst (N + k) l < N then some (lst (N + k) l) else none)) ∧ Below w.heap.size w w' := by
  have hk := (List.getElem?_eq_some_iff.1 hl).1
  have H1 := Lib.hid (checkHead_ok H hk)
  have hc := H.ring.ch k l hl
  have hlt := (nx_lt (l1 := []) (l2 := []) (x := 0) H hl).2
  have hnx : F.pv (N + k) = lst (N + k) l := hc.last
  have HS := Lib.hid (fun w' (hb : Below w.heap.size w w') => (show w'.cell? ⟨c, 1, none⟩ = some (.slice (some ⟨q, 0, none⟩) (N + Ls.length) cq) ∧ w'.cell? ⟨q, (N + k) * 3, none⟩ = some (.int .u32 ((lst (N + k) l : Nat) : Int)) ∧ Lo w' c q r cq cr N F Ls ∧ Below w.heap.size w w' from by
    have H' := H.below hb
    obtain ⟨k0, k1, k2⟩ := H'.cells
    obtain ⟨e0, e1, e2⟩ := H'.fw.at_ (i := N + k) (by omega)
    rw [hnx] at e0
    exact ⟨k1, e0, H', hb⟩))
  have H2 := Lib.hid (fun (v : World) (h : v.cell? ⟨c, 1, none⟩ = some (.slice (some ⟨q, 0, none⟩) (N + Ls.length) cq) ∧ v.cell? ⟨q, (N + k) * 3, none⟩ = some (.int .u32 ((lst (N + k) l : Nat) : Int)) ∧ Lo v c q r cq cr N F Ls ∧ Below w.heap.size w v) => root_any h.2.2.1 hk)
  have H3 := Lib.hid (fun (v : World) (h : v.cell? ⟨c, 1, none⟩ = some (.slice (some ⟨q, 0, none⟩) (N + Ls.length) cq) ∧ v.cell? ⟨q, (N + k) * 3, none⟩ = some (.int .u32 ((lst (N + k) l : Nat) : Int)) ∧ Lo v c q r cq cr N F Ls ∧ Below w.heap.size w v) => inside_any h.2.2.1 hlt)
  have hi2 : ((N + k : Nat) : Int) < (N : Int) + (Ls.length : Int) := by omega
  have hi3 : ((N + k : Nat) : Int) < ((N + Ls.length : Nat) : Int) := by omega
  have i0 : (0 : Int) ≤ ((N + k : Nat) : Int) := by omega
  obtain ⟨k0, k1, k2⟩ := H.cells
  generalize lst (N + k) l = x at *
  clear H hc hnx hl hk
  obtain ⟨M, hM⟩ : ∃ M, N + k = M := ⟨_, rfl⟩
  rw [hM] at hi2 hi3 i0 HS H2 H3
  clear hM
  obtain ⟨y, hy⟩ : ∃ y, (if x < N then some x else none) = y := ⟨_, rfl⟩
  rw [hy] at H3 ⊢
  clear hy
  cases y <;> (
  simp only [nodeR] at H3 ⊢
  go_enter Try.func86, Try.ntmps86
  go_wp2_with fail
  refine H1.out.mono ?_
  rintro e w1 ⟨rfl, rfl⟩
  go_wp2_with fail
  go_region_held3 (fun w' => w'.cell? ⟨c, 1, none⟩ = some (.slice (some ⟨q, 0, none⟩) (N + Ls.length) cq) ∧ w'.cell? ⟨q, M * 3, none⟩ = some (.int .u32 ((x : Nat) : Int)) ∧ Lo w' c q r cq cr N F Ls ∧ Below w.heap.size w w')
    (first
      | (exact HS.out _ (Below.drew (Below.refl _ _)))
      | assumption
      | fail)
    (first
      | (go_at_call 152; refine (H2.out _ (by assumption)).mono ?_; rintro e w' ⟨rfl, rfl⟩)
      | (go_at_call 151; refine (H3.out _ (by assumption)).mono ?_; rintro e w' ⟨rfl, rfl⟩)
      | fail)
  go_wp2_with fail
  go_ret2
  exact ⟨rfl, by go_grown⟩)
set_option maxRecDepth 100000 in
theorem Last_bad (H : Lo w c q r cq cr N F Ls) {h : Int} (hh : ¬ (0 ≤ h ∧ h < (Ls.length : Int))) :
    Calls Try.prog 86 #[.pointer (some ⟨c, 0, none⟩), .int .i64 h] w fun e w' => e = .returned (.tuple #[.int .u32 0, .int .i64 2]) ∧ w = w' := by
  have H1 := Lib.hid (checkHead_bad H hh)
  clear H hh
  go_enter Try.func86, Try.ntmps86
  go_wp2_with fail
  refine H1.out.mono ?_
  rintro e w1 ⟨rfl, rfl⟩
  go_wp2_with fail
  go_ret2
  exact ⟨rfl, rfl⟩
end
end Go.Proofs.Ytjcabdnjimcdgaa.Lnk
