/-
  Links (layer 14): Before.
-/
import Derived.Test.YtbbcmheedhdlfaaLnkH
set_option linter.unusedVariables false
set_option linter.unusedSimpArgs false
namespace Go.Proofs.Ytbbcmheedhdlfaa.Lnk
open Go Go.RowKit Kit
section
variable {w : World} {c q r cq cr N : Nat} {F : Fd} {Ls : List (List Nat)}
set_option maxRecDepth 100000 in
theorem check2_any (H : Lo w c q r cq cr N F Ls) {n o : Int} (n0 : 0 ≤ n) (n1 : n < 4294967296) (o0 : 0 ≤ o) (o1 : o < 4294967296) {g : Nat} {t : TypeId} (hg : w.heap[g]? = some (.cells #[.int .u32 n, .int .u32 o] t (0, 0))) :
    Calls Try.prog 102 #[.pointer (some ⟨c, 0, none⟩), .slice (some ⟨g, 0, none⟩) 2 2] w fun e w' => e = .returned (.int .i64 (if n < (N : Int) ∧ o < (N : Int) then 0 else 2)) ∧ Below w.heap.size w w' := by
  obtain ⟨k0, k1, k2⟩ := H.cells
  have H1 := Lib.hid (isZero_any H)
  have e0 : w.cell? ⟨g, 0, none⟩ = some (.int .u32 n) := by simp [World.cell?, hg]
  have e1 : w.cell? ⟨g, 1, none⟩ = some (.int .u32 o) := by simp [World.cell?, hg]
  have n2 := H.n2
  clear H hg
  have hc : (n < (N : Int) ∧ o < (N : Int)) ∨ (¬ n < (N : Int)) ∨ (n < (N : Int) ∧ ¬ o < (N : Int)) := by omega
  rcases hc with ⟨h1, h2⟩ | h1 | ⟨h1, h2⟩
  · rw [if_pos ⟨h1, h2⟩]
    have hn2 : ¬ (N : Int) ≤ n := by omega
    have ho2 : ¬ (N : Int) ≤ o := by omega
    go_enter Try.func102, Try.ntmps102
    go_wp2_with fail
    refine H1.out.mono ?_
    rintro e w1 ⟨rfl, rfl⟩
    go_wp2_with fail
    refine wp_loop_rounds 3 ?_
    repeat any_goals (rw [rounds_succ]; go_wp2_with fail)
    go_ret
    exact ⟨rfl, by go_grown⟩
  · rw [if_neg (by omega)]
    have hn2 : (N : Int) ≤ n := by omega
    go_enter Try.func102, Try.ntmps102
    go_wp2_with fail
    refine H1.out.mono ?_
    rintro e w1 ⟨rfl, rfl⟩
    go_wp2_with fail
    refine wp_loop_rounds 3 ?_
    repeat any_goals (rw [rounds_succ]; go_wp2_with fail)
    go_ret
    exact ⟨rfl, by go_grown⟩
  · rw [if_neg (by omega)]
    have hn2 : ¬ (N : Int) ≤ n := by omega
    have ho2 : (N : Int) ≤ o := by omega
    go_enter Try.func102, Try.ntmps102
    go_wp2_with fail
    refine H1.out.mono ?_
    rintro e w1 ⟨rfl, rfl⟩
    go_wp2_with fail
    refine wp_loop_rounds 3 ?_
    repeat any_goals (rw [rounds_succ]; go_wp2_with fail)
    go_ret
    exact ⟨rfl, by go_grown⟩
set_option maxRecDepth 100000 in
theorem Before_bad (H : Lo w c q r cq cr N F Ls) {n o : Int} (n0 : 0 ≤ n) (n1 : n < 4294967296) (o0 : 0 ≤ o) (o1 : o < 4294967296) (hb : ¬ (n < (N : Int) ∧ o < (N : Int))) :
    Calls Try.prog 47 #[.pointer (some ⟨c, 0, none⟩), .int .u32 n, .int .u32 o] w fun e w' => e = .returned (.int .i64 2) ∧ Below w.heap.size w w' := by
  have HB := Lib.hid (box_below w #[.int .u32 n, .int .u32 o] 38)
  have H2 := check2_any (H.below HB.out) n0 n1 o0 o1 (MapKept.heap_alloc w (Obj.cells #[.int .u32 n, .int .u32 o] 38)).1
  rw [if_neg hb] at H2
  have H2 := Lib.hid H2
  clear H hb
  go_enter Try.func47, Try.ntmps47
  go_wp2_with fail
  refine H2.out.mono ?_
  rintro e w2 ⟨rfl, b2⟩
  have B2 := Lib.hid (tr HB.out b2)
  clear b2
  go_wp2_with fail
  go_ret
  exact ⟨rfl, B2.out⟩
set_option maxRecDepth 100000 in
theorem Before_busy (H : Lo w c q r cq cr N F Ls) {n o : Nat} (hn : n < N) (ho : o < N) (hf : F.hd n ≠ -1) :
    Calls Try.prog 47 #[.pointer (some ⟨c, 0, none⟩), .int .u32 (n : Int), .int .u32 (o : Int)] w fun e w' => e = .returned (.int .i64 11) ∧ Below w.heap.size w w' := by
  have n2 := H.n2
  have HB := Lib.hid (box_below w #[.int .u32 (n : Int), .int .u32 (o : Int)] 38)
  have H2 := check2_any (H.below HB.out) (n := n) (o := o) (by omega) (by omega) (by omega) (by omega) (MapKept.heap_alloc w (Obj.cells #[.int .u32 (n : Int), .int .u32 (o : Int)] 38)).1
  rw [if_pos (by omega)] at H2
  have H2 := Lib.hid H2
  have HS := Lib.hid (fun w' (hb : Below w.heap.size w w') => (show w'.cell? ⟨c, 1, none⟩ = some (.slice (some ⟨q, 0, none⟩) (N + Ls.length) cq) ∧ w'.cell? ⟨q, n * 3 + 2, none⟩ = some (.int .i32 (F.hd n)) from ⟨(H.below hb).cells.2.1, ((H.below hb).fw.at_ (i := n) (by omega)).2.2⟩))
  have i1 : (n : Int) < (N : Int) + (Ls.length : Int) := by omega
  have i2 : (n : Int) < ((N + Ls.length : Nat) : Int) := by omega
  have i3 : (0 : Int) ≤ (n : Int) := by omega
  have hb : (F.hd n == -1) = false := by rw [beq_eq_false_iff_ne]; exact hf
  generalize F.hd n = k at *
  clear H
  go_enter Try.func47, Try.ntmps47
  go_wp2_with fail
  refine H2.out.mono ?_
  rintro e w2 ⟨rfl, b2⟩
  have B2 := Lib.hid (tr HB.out b2)
  clear b2
  obtain ⟨k1, e2⟩ := HS.out _ B2.out
  go_wp2_with fail
  go_ret
  exact ⟨rfl, B2.out⟩
set_option maxRecDepth 100000 in
theorem Before_none (H : Lo w c q r cq cr N F Ls) {n o : Nat} (hn : n < N) (ho : o < N) (hf : F.hd n = -1) (hg : F.hd o = -1) :
    Calls Try.prog 47 #[.pointer (some ⟨c, 0, none⟩), .int .u32 (n : Int), .int .u32 (o : Int)] w fun e w' => e = .returned (.int .i64 9) ∧ Below w.heap.size w w' := by
  have n2 := H.n2
  have HB := Lib.hid (box_below w #[.int .u32 (n : Int), .int .u32 (o : Int)] 38)
  have H2 := check2_any (H.below HB.out) (n := n) (o := o) (by omega) (by omega) (by omega) (by omega) (MapKept.heap_alloc w (Obj.cells #[.int .u32 (n : Int), .int .u32 (o : Int)] 38)).1
  rw [if_pos (by omega)] at H2
  have H2 := Lib.hid H2
  have HS := Lib.hid (fun w' (hb : Below w.heap.size w w') => (show w'.cell? ⟨c, 1, none⟩ = some (.slice (some ⟨q, 0, none⟩) (N + Ls.length) cq) ∧ w'.cell? ⟨q, n * 3 + 2, none⟩ = some (.int .i32 (-1)) ∧ w'.cell? ⟨q, o * 3 + 2, none⟩ = some (.int .i32 (-1)) from ⟨(H.below hb).cells.2.1, hf ▸ ((H.below hb).fw.at_ (i := n) (by omega)).2.2, hg ▸ ((H.below hb).fw.at_ (i := o) (by omega)).2.2⟩))
  have i1 : (n : Int) < (N : Int) + (Ls.length : Int) := by omega
  have i2 : (n : Int) < ((N + Ls.length : Nat) : Int) := by omega
  have i3 : (0 : Int) ≤ (n : Int) := by omega
  have j1 : (o : Int) < (N : Int) + (Ls.length : Int) := by omega
  have j2 : (o : Int) < ((N + Ls.length : Nat) : Int) := by omega
  have j3 : (0 : Int) ≤ (o : Int) := by omega
  clear H hf hg
  go_enter Try.func47, Try.ntmps47
  go_wp2_with fail
  refine H2.out.mono ?_
  rintro e w2 ⟨rfl, b2⟩
  have B2 := Lib.hid (tr HB.out b2)
  clear b2
  obtain ⟨k1, e2, e3⟩ := HS.out _ B2.out
  go_wp2_with fail
  go_ret
  exact ⟨rfl, B2.out⟩
set_option maxRecDepth 100000 in
theorem Before_ok (H : Lo w c q r cq cr N F Ls) {h n o : Nat} {l1 l2 : List Nat} (hl : Ls[h]? = some (l1 ++ o :: l2)) (hn : n < N) (hf : Free Ls n) :
    Calls Try.prog 47 #[.pointer (some ⟨c, 0, none⟩), .int .u32 (n : Int), .int .u32 (o : Int)] w fun e w' => e = .returned (.int .i64 0) ∧ Lo w' c q r cq cr N (linkF F n o) (Ls.set h (l1 ++ n :: o :: l2)) ∧ Kp (Ob c q r) w w' := by
  have n2 := H.n2
  have hom := H.ring.mem h _ o hl (by simp)
  have ho := hom.1
  have hb : (F.hd o == -1) = false := by rw [beq_eq_false_iff_ne, hom.2]; omega
  have hfn : F.hd n = -1 := (H.ring.free_iff hn).2 hf
  have HB := Lib.hid (box_below w #[.int .u32 (n : Int), .int .u32 (o : Int)] 38)
  have H2 := check2_any (H.below HB.out) (n := n) (o := o) (by omega) (by omega) (by omega) (by omega) (MapKept.heap_alloc w (Obj.cells #[.int .u32 (n : Int), .int .u32 (o : Int)] 38)).1
  rw [if_pos (by omega)] at H2
  have H2 := Lib.hid H2
  have HS := Lib.hid (fun w' (hb : Below w.heap.size w w') => (show w'.cell? ⟨c, 1, none⟩ = some (.slice (some ⟨q, 0, none⟩) (N + Ls.length) cq) ∧ w'.cell? ⟨q, n * 3 + 2, none⟩ = some (.int .i32 (-1)) ∧ w'.cell? ⟨q, o * 3 + 2, none⟩ = some (.int .i32 (F.hd o)) from ⟨(H.below hb).cells.2.1, hfn ▸ ((H.below hb).fw.at_ (i := n) (by omega)).2.2, ((H.below hb).fw.at_ (i := o) (by omega)).2.2⟩))
  have HL := Lib.hid (fun w' (hb : Below w.heap.size w w') => link_any (H.below hb) (l1 := l1) (l2 := o :: l2) (o := o) hl hn hf rfl)
  have i1 : (n : Int) < (N : Int) + (Ls.length : Int) := by omega
  have i2 : (n : Int) < ((N + Ls.length : Nat) : Int) := by omega
  have i3 : (0 : Int) ≤ (n : Int) := by omega
  have j1 : (o : Int) < (N : Int) + (Ls.length : Int) := by omega
  have j2 : (o : Int) < ((N + Ls.length : Nat) : Int) := by omega
  have j3 : (0 : Int) ≤ (o : Int) := by omega
  generalize F.hd o = k at *
  clear H hf hfn hl hom
  go_enter Try.func47, Try.ntmps47
  go_wp2_with fail
  refine H2.out.mono ?_
  rintro e w2 ⟨rfl, b2⟩
  have B2 := Lib.hid (tr HB.out b2)
  clear b2
  obtain ⟨k1, e2, e3⟩ := HS.out _ B2.out
  go_wp2_with fail
  refine (HL.out _ B2.out).mono ?_
  rintro e w3 ⟨rfl, h3, k3⟩
  have H3 := Lib.hid h3
  have K3 := Lib.hid ((Kp.of B2.out).trans k3)
  clear h3 k3
  go_wp2_with fail
  go_ret
  exact ⟨rfl, H3.out, K3.out⟩
end
end Go.Proofs.Ytbbcmheedhdlfaa.Lnk
