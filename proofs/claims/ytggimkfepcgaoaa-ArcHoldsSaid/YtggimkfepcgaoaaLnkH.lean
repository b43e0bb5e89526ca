/-
  Links (layer 14): add.
-/
import Derived.Test.YtggimkfepcgaoaaLnkG
set_option linter.unusedVariables false
set_option linter.unusedSimpArgs false
namespace Go.Proofs.Ytggimkfepcgaoaa.Lnk
open Go Go.RowKit Kit
section
variable {w : World} {c q r cq cr N : Nat} {F : Fd} {Ls : List (List Nat)}
set_option maxRecDepth 100000 in
theorem add_badH (H : Lo w c q r cq cr N F Ls) {h n : Int} (fv : Value) (hh : ¬ (0 ≤ h ∧ h < (Ls.length : Int))) :
    Calls Try.prog 85 #[.pointer (some ⟨c, 0, none⟩), .int .i64 h, .int .u32 n, fv] w fun e w' => e = .returned (.int .i64 2) ∧ Below w.heap.size w w' := by
  have H1 := Lib.hid (checkHead_bad H hh)
  clear H hh
  go_enter Try.func85, Try.ntmps85
  go_wp2_with fail
  refine H1.out.mono ?_
  rintro e w1 ⟨rfl, rfl⟩
  go_wp2_with fail
  go_ret
  exact ⟨rfl, Below.refl _ _⟩
set_option maxRecDepth 100000 in
theorem add_badN (H : Lo w c q r cq cr N F Ls) {h : Nat} {n : Int} (fv : Value) (hh : h < Ls.length) (n0 : (N : Int) ≤ n) (n1 : n < 4294967296) :
    Calls Try.prog 85 #[.pointer (some ⟨c, 0, none⟩), .int .i64 (h : Int), .int .u32 n, fv] w fun e w' => e = .returned (.int .i64 2) ∧ Below w.heap.size w w' := by
  have H1 := Lib.hid (checkHead_ok H hh)
  have HB := Lib.hid (box_below w #[.int .u32 n] 38)
  have H2 := check_any (H.below HB.out) (n := n) (by omega) n1 (one_block w _ _)
  rw [if_neg (by omega)] at H2
  have H2 := Lib.hid H2
  clear H hh
  go_enter Try.func85, Try.ntmps85
  go_wp2_with fail
  refine H1.out.mono ?_
  rintro e w1 ⟨rfl, rfl⟩
  go_wp2_with fail
  refine H2.out.mono ?_
  rintro e w2 ⟨rfl, b2⟩
  have B2 := Lib.hid (tr HB.out b2)
  clear b2
  go_wp2_with fail
  go_ret
  exact ⟨rfl, B2.out⟩
set_option maxRecDepth 100000 in
theorem add_busy (H : Lo w c q r cq cr N F Ls) {h n : Nat} (fv : Value) (hh : h < Ls.length) (hn : n < N) (hf : F.hd n ≠ -1) :
    Calls Try.prog 85 #[.pointer (some ⟨c, 0, none⟩), .int .i64 (h : Int), .int .u32 (n : Int), fv] w fun e w' => e = .returned (.int .i64 11) ∧ Below w.heap.size w w' := by
  have n2 := H.n2
  have H1 := Lib.hid (checkHead_ok H hh)
  have HB := Lib.hid (box_below w #[.int .u32 (n : Int)] 38)
  have H2 := check_any (H.below HB.out) (n := n) (by omega) (by omega) (one_block w _ _)
  rw [if_pos (by omega)] at H2
  have H2 := Lib.hid H2
  have HS := Lib.hid (fun w' (hb : Below w.heap.size w w') => (show w'.cell? ⟨c, 1, none⟩ = some (.slice (some ⟨q, 0, none⟩) (N + Ls.length) cq) ∧ w'.cell? ⟨q, n * 3 + 2, none⟩ = some (.int .i32 (F.hd n)) from ⟨(H.below hb).cells.2.1, ((H.below hb).fw.at_ (i := n) (by omega)).2.2⟩))
  have i1 : (n : Int) < (N : Int) + (Ls.length : Int) := by omega
  have i2 : (n : Int) < ((N + Ls.length : Nat) : Int) := by omega
  have i3 : (0 : Int) ≤ (n : Int) := by omega
  have hb : (F.hd n == -1) = false := by rw [beq_eq_false_iff_ne]; exact hf
  generalize F.hd n = k at *
  clear H hh
  go_enter Try.func85, Try.ntmps85
  go_wp2_with fail
  refine H1.out.mono ?_
  rintro e w1 ⟨rfl, rfl⟩
  go_wp2_with fail
  refine H2.out.mono ?_
  rintro e w2 ⟨rfl, b2⟩
  have B2 := Lib.hid (tr HB.out b2)
  clear b2
  obtain ⟨k1, e2⟩ := HS.out _ B2.out
  go_wp2_with fail
  go_ret
  exact ⟨rfl, B2.out⟩
set_option maxRecDepth 100000 in
theorem add_back (H : Lo w c q r cq cr N F Ls) {h n : Nat} {l1 l2 : List Nat} (hl : Ls[h]? = some (l1 ++ l2)) (hn : n < N) (hf : Free Ls n) {o : Nat} (ho : fst l2 (N + h) = o)
    (hC : ∀ w', Below w.heap.size w w' → Calls Try.prog 86 #[.int .u32 ((N + h : Nat) : Int)] w' fun e v => e = .returned (.int .u32 (o : Int)) ∧ Below w'.heap.size w' v) :
    Calls Try.prog 85 #[.pointer (some ⟨c, 0, none⟩), .int .i64 (h : Int), .int .u32 (n : Int), .func (.func 86) #[] #[]] w fun e w' => e = .returned (.int .i64 0) ∧ Lo w' c q r cq cr N (linkF F n o) (Ls.set h (l1 ++ n :: l2)) ∧ Kp (Ob c q r) w w' := by
  have n2 := H.n2
  have hh := (List.getElem?_eq_some_iff.1 hl).1
  have H1 := Lib.hid (checkHead_ok H hh)
  have HB := Lib.hid (box_below w #[.int .u32 (n : Int)] 38)
  have H2 := check_any (H.below HB.out) (n := n) (by omega) (by omega) (one_block w _ _)
  rw [if_pos (by omega)] at H2
  have H2 := Lib.hid H2
  have hd := H.ring.out n hn hf
  have HS := Lib.hid (fun w' (hb : Below w.heap.size w w') => (show w'.cell? ⟨c, 1, none⟩ = some (.slice (some ⟨q, 0, none⟩) (N + Ls.length) cq) ∧ w'.cell? ⟨q, n * 3 + 2, none⟩ = some (.int .i32 (-1)) from by
    refine ⟨(H.below hb).cells.2.1, ?_⟩
    have := ((H.below hb).fw.at_ (i := n) (by omega)).2.2
    rwa [hd] at this))
  have HR := Lib.hid (fun w' (hb : Below w.heap.size w w') => root_any (H.below hb) hh)
  have HK := Lib.hid (fun w' (hb : Below w.heap.size w w') => link_any (H.below hb) hl hn hf ho)
  have HC := Lib.hid hC
  have i1 : (n : Int) < (N : Int) + (Ls.length : Int) := by omega
  have i2 : (n : Int) < ((N + Ls.length : Nat) : Int) := by omega
  have i3 : (0 : Int) ≤ (n : Int) := by omega
  clear H hh hl hf ho hd hC
  go_enter Try.func85, Try.ntmps85
  go_wp2_with fail
  refine H1.out.mono ?_
  rintro e w1 ⟨rfl, rfl⟩
  go_wp2_with fail
  refine H2.out.mono ?_
  rintro e w2 ⟨rfl, b2⟩
  have B2 := Lib.hid (tr HB.out b2)
  clear b2
  obtain ⟨k1, e2⟩ := HS.out _ B2.out
  go_wp2_with fail
  refine (HR.out _ B2.out).mono ?_
  rintro e w3 ⟨rfl, rfl⟩
  go_wp2_with fail
  refine (HC.out _ B2.out).mono ?_
  rintro e w4 ⟨rfl, b4⟩
  have B4 := Lib.hid (tr B2.out b4)
  clear b4 k1 e2
  go_wp2_with fail
  refine (HK.out _ B4.out).mono ?_
  rintro e w5 ⟨rfl, h5, k5⟩
  have H5 := Lib.hid h5
  have K5 := Lib.hid ((Kp.of B4.out).trans k5)
  clear h5 k5
  go_wp2_with fail
  go_ret
  exact ⟨rfl, H5.out, K5.out⟩
set_option maxRecDepth 100000 in
theorem add_front (H : Lo w c q r cq cr N F Ls) {h n : Nat} {l1 l2 : List Nat} (g : Nat) (hl : Ls[h]? = some (l1 ++ l2)) (hn : n < N) (hf : Free Ls n) {o : Nat} (ho : fst l2 (N + h) = o)
    (hC : ∀ w', Below w.heap.size w w' → Calls Try.prog 90 #[.int .u32 ((N + h : Nat) : Int), .pointer (some ⟨g, 0, none⟩)] w' fun e v => e = .returned (.int .u32 (o : Int)) ∧ Below w'.heap.size w' v) :
    Calls Try.prog 85 #[.pointer (some ⟨c, 0, none⟩), .int .i64 (h : Int), .int .u32 (n : Int), .func (.func 90) #[] #[.pointer (some ⟨g, 0, none⟩)]] w fun e w' => e = .returned (.int .i64 0) ∧ Lo w' c q r cq cr N (linkF F n o) (Ls.set h (l1 ++ n :: l2)) ∧ Kp (Ob c q r) w w' := by
  have n2 := H.n2
  have hh := (List.getElem?_eq_some_iff.1 hl).1
  have H1 := Lib.hid (checkHead_ok H hh)
  have HB := Lib.hid (box_below w #[.int .u32 (n : Int)] 38)
  have H2 := check_any (H.below HB.out) (n := n) (by omega) (by omega) (one_block w _ _)
  rw [if_pos (by omega)] at H2
  have H2 := Lib.hid H2
  have hd := H.ring.out n hn hf
  have HS := Lib.hid (fun w' (hb : Below w.heap.size w w') => (show w'.cell? ⟨c, 1, none⟩ = some (.slice (some ⟨q, 0, none⟩) (N + Ls.length) cq) ∧ w'.cell? ⟨q, n * 3 + 2, none⟩ = some (.int .i32 (-1)) from by
    refine ⟨(H.below hb).cells.2.1, ?_⟩
    have := ((H.below hb).fw.at_ (i := n) (by omega)).2.2
    rwa [hd] at this))
  have HR := Lib.hid (fun w' (hb : Below w.heap.size w w') => root_any (H.below hb) hh)
  have HK := Lib.hid (fun w' (hb : Below w.heap.size w w') => link_any (H.below hb) hl hn hf ho)
  have HC := Lib.hid hC
  have i1 : (n : Int) < (N : Int) + (Ls.length : Int) := by omega
  have i2 : (n : Int) < ((N + Ls.length : Nat) : Int) := by omega
  have i3 : (0 : Int) ≤ (n : Int) := by omega
  clear H hh hl hf ho hd hC
  go_enter Try.func85, Try.ntmps85
  go_wp2_with fail
  refine H1.out.mono ?_
  rintro e w1 ⟨rfl, rfl⟩
  go_wp2_with fail
  refine H2.out.mono ?_
  rintro e w2 ⟨rfl, b2⟩
  have B2 := Lib.hid (tr HB.out b2)
  clear b2
  obtain ⟨k1, e2⟩ := HS.out _ B2.out
  go_wp2_with fail
  refine (HR.out _ B2.out).mono ?_
  rintro e w3 ⟨rfl, rfl⟩
  go_wp2_with fail
  refine (HC.out _ B2.out).mono ?_
  rintro e w4 ⟨rfl, b4⟩
  have B4 := Lib.hid (tr B2.out b4)
  clear b4 k1 e2
  go_wp2_with fail
  refine (HK.out _ B4.out).mono ?_
  rintro e w5 ⟨rfl, h5, k5⟩
  have H5 := Lib.hid h5
  have K5 := Lib.hid ((Kp.of B4.out).trans k5)
  clear h5 k5
  go_wp2_with fail
  go_ret
  exact ⟨rfl, H5.out, K5.out⟩
end
end Go.Proofs.Ytggimkfepcgaoaa.Lnk
