/-
  Second chance (layer 31): the law on any calls.
-/
import Derived.Test.YteppcjolgpdenaaSeqU
set_option linter.unusedVariables false
set_option linter.unusedSimpArgs false
namespace Go.Proofs.Yteppcjolgpdenaa.Seq
open Go Go.RowKit Kit Go.Maps
def Kn (W : World) : Prop := ∀ w1, Below W.heap.size W w1 → Calls Try.prog 6 #[] w1 fun e w' => e = .returned (.bool true) ∧ Below w1.heap.size w1 w'
set_option maxHeartbeats 1000000 in
set_option maxRecDepth 100000 in
theorem lplays_bad {W : World} {n : Int} {a : Option Addr} {len cap : Nat} (hk : Kn W) (hbad : n < 1 ∨ 40 < n ∨ 100 < (len : Int)) :
    Calls Try.prog 3 #[.int .i64 n, .slice a len cap] W fun e w' => e = .returned (.bool true) ∧ Below W.heap.size W w' := by
  have HK := Lib.hid hk
  clear hk
  by_cases c1 : n < 1
  · clear hbad
    go_enter Try.func3, Try.ntmps3
    go_wp2_with fail
    refine (HK.out _ (Below.refl _ _)).mono ?_
    rintro e w3 ⟨rfl, b3⟩
    go_wp2_with fail
    go_ret
    exact ⟨rfl, b3⟩
  by_cases c2 : 40 < n
  · clear hbad
    go_enter Try.func3, Try.ntmps3
    go_wp2_with fail
    refine (HK.out _ (Below.refl _ _)).mono ?_
    rintro e w3 ⟨rfl, b3⟩
    go_wp2_with fail
    go_ret
    exact ⟨rfl, b3⟩
  · have c3 : 100 < (len : Int) := by omega
    clear hbad
    go_enter Try.func3, Try.ntmps3
    go_wp2_with fail
    refine (HK.out _ (Below.refl _ _)).mono ?_
    rintro e w3 ⟨rfl, b3⟩
    go_wp2_with fail
    go_ret
    exact ⟨rfl, b3⟩
set_option maxHeartbeats 1000000 in
set_option maxRecDepth 100000 in
theorem lplays_ok {W : World} {n : Int} {a : Option Addr} {len cap : Nat} {f0 f1 : Nat → Int} (hacts : Acts W.heap.size W a len f0 f1) (hk : Kn W) (c1 : 1 ≤ n) (c2 : n ≤ 40) (c3 : len ≤ 100) :
    Calls Try.prog 3 #[.int .i64 n, .slice a len cap] W fun e w' => e = .returned (.bool true) ∧ Below W.heap.size W w' := by
  have HK := Lib.hid hk
  have HA := Lib.hid hacts
  have c3' : ¬ 100 < (len : Int) := by omega
  clear hk hacts
  go_enter Try.func3, Try.ntmps3
  go_wp2_with fail
  refine (snew_any c1 (by omega)).mono ?_
  rintro e w1 ⟨c, hi, rfl, s1, b1⟩
  have S1 := Lib.hid s1
  have B1 := Lib.hid b1
  have ht := s1.top
  clear s1 b1
  go_wp2_with fail
  refine (srnew_any c1 (by omega)).mono ?_
  rintro e w2 ⟨q, rfl, r2, hq, b2⟩
  have S2 := Lib.hid (S1.out.below b2)
  have R2 := Lib.hid r2
  have B2 := Lib.hid (tr B1.out b2)
  clear r2 b2 S1 B1
  have HPL := Lib.hid (fun w' hb => plays_any (acap := cap) (cap := n.toNat) (HA.out.below (tr B2.out hb) (Nat.le_refl _)) c3 (S2.out.below (W' := w') hb) (R2.out.of ((show Below w2.heap.size w2 w' from hb).block q R2.out.lt)) (Nat.le_refl _) (.inr (by omega)))
  rw [blanks_len] at HPL
  go_wp2_with fail
  refine (HPL.out _ (by go_grown)).mono ?_
  rintro e w3 ⟨c', lo', hi', q', cap', l', h', rfl, -, -, -, -, -, -, b3⟩
  have B3 := Lib.hid ((tr B2.out (by go_grown)).trans (b3.below (Nat.le_refl _) (by have := B2.out.size; simp; omega)))
  clear b3 HPL
  go_wp2_with fail
  refine (HK.out _ (tr B3.out (by go_grown))).mono ?_
  rintro e w4 ⟨rfl, b4⟩
  go_wp2_with fail
  go_ret
  exact ⟨rfl, tr (tr B3.out (by go_grown)) b4⟩
theorem lplays_any {W : World} {n : Int} {a : Option Addr} {len cap : Nat} {f0 f1 : Nat → Int} (hacts : Acts W.heap.size W a len f0 f1) (hk : Kn W) :
    Calls Try.prog 3 #[.int .i64 n, .slice a len cap] W fun e w' => e = .returned (.bool true) ∧ Below W.heap.size W w' := by
  by_cases h : n < 1 ∨ 40 < n ∨ 100 < (len : Int)
  · exact lplays_bad hk h
  · exact lplays_ok hacts hk (by omega) (by omega) (by omega)
end Go.Proofs.Yteppcjolgpdenaa.Seq
