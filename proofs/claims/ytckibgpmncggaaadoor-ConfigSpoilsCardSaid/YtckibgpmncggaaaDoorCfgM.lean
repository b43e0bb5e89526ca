/-
  Configurations (layer 23): the texts of the chapter's examples.
-/
import Derived.Test.YtckibgpmncggaaaDoorCfgK
set_option linter.unusedVariables false
set_option linter.unusedSimpArgs false
namespace Go.Proofs.YtckibgpmncggaaaDoor.Cfg
open Go Go.RowKit Kit
theorem dd0 : Lib.decDigits 0 = [48] := by rw [Lib.decDigits_one (by decide)]; rfl
theorem dd1 : Lib.decDigits 1 = [49] := by rw [Lib.decDigits_one (by decide)]; rfl
theorem dd_step (u : Nat) (h : ¬ u < 10) (l : List UInt8) (x : UInt8) (hl : Lib.decDigits (u / 10) = l) (hx : UInt8.ofNat (48 + u % 10) = x) : Lib.decDigits u = l ++ [x] := by
  rw [Lib.decDigits, dif_neg h, hl, hx]
theorem d0 : Lib.decDigits 0 = [48] := by rw [Lib.decDigits_one (by decide)]; rfl
theorem d1 : Lib.decDigits 1 = [49] := by rw [Lib.decDigits_one (by decide)]; rfl
theorem d10 : Lib.decDigits 10 = [49, 48] := dd_step 10 (by decide) _ 48 d1 rfl
theorem d102 : Lib.decDigits 102 = [49, 48, 50] := dd_step 102 (by decide) _ 50 d10 rfl
theorem d1024 : Lib.decDigits 1024 = [49, 48, 50, 52] := dd_step 1024 (by decide) _ 52 d102 rfl
theorem d104 : Lib.decDigits 104 = [49, 48, 52] := dd_step 104 (by decide) _ 52 d10 rfl
theorem d1048 : Lib.decDigits 1048 = [49, 48, 52, 56] := dd_step 1048 (by decide) _ 56 d104 rfl
theorem d10485 : Lib.decDigits 10485 = [49, 48, 52, 56, 53] := dd_step 10485 (by decide) _ 53 d1048 rfl
theorem d104857 : Lib.decDigits 104857 = [49, 48, 52, 56, 53, 55] := dd_step 104857 (by decide) _ 55 d10485 rfl
theorem d1048576 : Lib.decDigits 1048576 = [49, 48, 52, 56, 53, 55, 54] := dd_step 1048576 (by decide) _ 54 d104857 rfl
theorem d8 : Lib.decDigits 8 = [56] := by rw [Lib.decDigits_one (by decide)]; rfl
theorem d80 : Lib.decDigits 80 = [56, 48] := dd_step 80 (by decide) _ 48 d8 rfl
theorem d18 : Lib.decDigits 18 = [49, 56] := dd_step 18 (by decide) _ 56 d1 rfl
theorem d184 : Lib.decDigits 184 = [49, 56, 52] := dd_step 184 (by decide) _ 52 d18 rfl
theorem d1844 : Lib.decDigits 1844 = [49, 56, 52, 52] := dd_step 1844 (by decide) _ 52 d184 rfl
theorem d18446 : Lib.decDigits 18446 = [49, 56, 52, 52, 54] := dd_step 18446 (by decide) _ 54 d1844 rfl
theorem d184467 : Lib.decDigits 184467 = [49, 56, 52, 52, 54, 55] := dd_step 184467 (by decide) _ 55 d18446 rfl
theorem d1844674 : Lib.decDigits 1844674 = [49, 56, 52, 52, 54, 55, 52] := dd_step 1844674 (by decide) _ 52 d184467 rfl
theorem d18446744 : Lib.decDigits 18446744 = [49, 56, 52, 52, 54, 55, 52, 52] := dd_step 18446744 (by decide) _ 52 d1844674 rfl
theorem d184467440 : Lib.decDigits 184467440 = [49, 56, 52, 52, 54, 55, 52, 52, 48] := dd_step 184467440 (by decide) _ 48 d18446744 rfl
theorem d1844674407 : Lib.decDigits 1844674407 = [49, 56, 52, 52, 54, 55, 52, 52, 48, 55] := dd_step 1844674407 (by decide) _ 55 d184467440 rfl
theorem d18446744073 : Lib.decDigits 18446744073 = [49, 56, 52, 52, 54, 55, 52, 52, 48, 55, 51] := dd_step 18446744073 (by decide) _ 51 d1844674407 rfl
theorem d184467440737 : Lib.decDigits 184467440737 = [49, 56, 52, 52, 54, 55, 52, 52, 48, 55, 51, 55] := dd_step 184467440737 (by decide) _ 55 d18446744073 rfl
theorem d1844674407370 : Lib.decDigits 1844674407370 = [49, 56, 52, 52, 54, 55, 52, 52, 48, 55, 51, 55, 48] := dd_step 1844674407370 (by decide) _ 48 d184467440737 rfl
theorem d18446744073709 : Lib.decDigits 18446744073709 = [49, 56, 52, 52, 54, 55, 52, 52, 48, 55, 51, 55, 48, 57] := dd_step 18446744073709 (by decide) _ 57 d1844674407370 rfl
theorem d184467440737095 : Lib.decDigits 184467440737095 = [49, 56, 52, 52, 54, 55, 52, 52, 48, 55, 51, 55, 48, 57, 53] := dd_step 184467440737095 (by decide) _ 53 d18446744073709 rfl
theorem d1844674407370955 : Lib.decDigits 1844674407370955 = [49, 56, 52, 52, 54, 55, 52, 52, 48, 55, 51, 55, 48, 57, 53, 53] := dd_step 1844674407370955 (by decide) _ 53 d184467440737095 rfl
theorem d18446744073709551 : Lib.decDigits 18446744073709551 = [49, 56, 52, 52, 54, 55, 52, 52, 48, 55, 51, 55, 48, 57, 53, 53, 49] := dd_step 18446744073709551 (by decide) _ 49 d1844674407370955 rfl
theorem d184467440737095516 : Lib.decDigits 184467440737095516 = [49, 56, 52, 52, 54, 55, 52, 52, 48, 55, 51, 55, 48, 57, 53, 53, 49, 54] := dd_step 184467440737095516 (by decide) _ 54 d18446744073709551 rfl
theorem d1844674407370955161 : Lib.decDigits 1844674407370955161 = [49, 56, 52, 52, 54, 55, 52, 52, 48, 55, 51, 55, 48, 57, 53, 53, 49, 54, 49] := dd_step 1844674407370955161 (by decide) _ 49 d184467440737095516 rfl
theorem d18446744073709551615 : Lib.decDigits 18446744073709551615 = [49, 56, 52, 52, 54, 55, 52, 52, 48, 55, 51, 55, 48, 57, 53, 53, 49, 54, 49, 53] := dd_step 18446744073709551615 (by decide) _ 53 d1844674407370955161 rfl
theorem ka : T 1024 1048576 80 0 false = [99, 111, 117, 110, 116, 61, 49, 48, 50, 52, 32, 98, 121, 116, 101, 115, 61, 49, 48, 52, 56, 53, 55, 54, 32, 112, 114, 111, 116, 101, 99, 116, 101, 100, 61, 56, 48, 32, 115, 101, 101, 100, 61, 48, 32, 115, 97, 109, 101, 61, 110, 111] := by unfold T; rw [d1024, d1048576, d80, d0]; rfl
theorem kb : T 1 1 0 18446744073709551615 true = [99, 111, 117, 110, 116, 61, 49, 32, 98, 121, 116, 101, 115, 61, 49, 32, 112, 114, 111, 116, 101, 99, 116, 101, 100, 61, 48, 32, 115, 101, 101, 100, 61, 49, 56, 52, 52, 54, 55, 52, 52, 48, 55, 51, 55, 48, 57, 53, 53, 49, 54, 49, 53, 32, 115, 97, 109, 101, 61, 121, 101, 115] := by unfold T; rw [d1, d0, d18446744073709551615]; rfl
theorem kn : T 1 1 0 0 false = [99, 111, 117, 110, 116, 61, 49, 32, 98, 121, 116, 101, 115, 61, 49, 32, 112, 114, 111, 116, 101, 99, 116, 101, 100, 61, 48, 32, 115, 101, 101, 100, 61, 48, 32, 115, 97, 109, 101, 61, 110, 111] := by unfold T; rw [d1, d0]; rfl
/-- of what the program reads no text but one is that of a configuration -/
theorem none_of {s : List UInt8} {a b c d : Nat} {y : Bool} (hr : rd s = ⟨a, b, c, d, y⟩) (h : ¬ (ck a b c = 0 ∧ T a b c d y = s)) : pres s = .tuple #[conf 0 0 0 0 false, .int .i64 6] := by
  refine pres_none fun a' b' c' d' y' hc hd ht => ?_
  obtain ⟨q1, q2, q3, q4, q5, q6⟩ := ck_ok hc
  have h2 : rd s = ⟨a', b', c', d', y'⟩ := by rw [← ht]; exact rd_T a' b' c' d' y' (by omega) (by omega) (by omega) (by omega)
  rw [hr] at h2
  injection h2 with e1 e2 e3 e4 e5
  subst e1; subst e2; subst e3; subst e4; subst e5
  exact h ⟨hc, ht⟩
theorem pb : ∃ s, (⟨#[99, 111, 117, 110, 116, 61, 49, 32, 98, 121, 116, 101, 115, 61, 49, 32, 112, 114, 111, 116, 101, 99, 116, 101, 100, 61, 48, 32, 115, 101, 101, 100, 61, 49, 56, 52, 52, 54, 55, 52, 52, 48, 55, 51, 55, 48, 57, 53, 53, 49, 54, 49, 53, 32, 115, 97, 109, 101, 61, 121, 101, 115]⟩ : ByteArray) = str s ∧ s.length ≤ 1000 ∧ pres s = .tuple #[conf 1 1 0 18446744073709551615 true, .int .i64 0] :=
  ⟨_, rfl, by decide, pres_some (a := 1) (b := 1) (c := 0) (d := 18446744073709551615) (y := true) (by decide) (by decide) kb⟩
theorem pc1 : ∃ s, (⟨#[99, 111, 117, 110, 116, 61, 49, 32, 98, 121, 116, 101, 115, 61, 49, 32, 112, 114, 111, 116, 101, 99, 116, 101, 100, 61, 48, 32, 115, 101, 101, 100, 61, 48, 32, 115, 97, 109, 101, 61, 110, 111, 32]⟩ : ByteArray) = str s ∧ s.length ≤ 1000 ∧ pres s = .tuple #[conf 0 0 0 0 false, .int .i64 6] :=
  ⟨[99, 111, 117, 110, 116, 61, 49, 32, 98, 121, 116, 101, 115, 61, 49, 32, 112, 114, 111, 116, 101, 99, 116, 101, 100, 61, 48, 32, 115, 101, 101, 100, 61, 48, 32, 115, 97, 109, 101, 61, 110, 111, 32], rfl, by decide, none_of (a := 1) (b := 1) (c := 0) (d := 0) (y := false) (by kernel_rfl) (by rw [kn]; decide)⟩
theorem pd1 : ∃ s, (⟨#[99, 111, 117, 110, 116, 61, 48, 49, 32, 98, 121, 116, 101, 115, 61, 49, 32, 112, 114, 111, 116, 101, 99, 116, 101, 100, 61, 48, 32, 115, 101, 101, 100, 61, 48, 32, 115, 97, 109, 101, 61, 110, 111]⟩ : ByteArray) = str s ∧ s.length ≤ 1000 ∧ pres s = .tuple #[conf 0 0 0 0 false, .int .i64 6] :=
  ⟨[99, 111, 117, 110, 116, 61, 48, 49, 32, 98, 121, 116, 101, 115, 61, 49, 32, 112, 114, 111, 116, 101, 99, 116, 101, 100, 61, 48, 32, 115, 101, 101, 100, 61, 48, 32, 115, 97, 109, 101, 61, 110, 111], rfl, by decide, none_of (a := 1) (b := 1) (c := 0) (d := 0) (y := false) (by kernel_rfl) (by rw [kn]; decide)⟩
theorem pf1 : ∃ s, (⟨#[99, 111, 117, 110, 116, 61, 49, 32, 98, 121, 116, 101, 115, 61, 49, 32, 112, 114, 111, 116, 101, 99, 116, 101, 100, 61, 49, 48, 48, 32, 115, 101, 101, 100, 61, 48, 32, 115, 97, 109, 101, 61, 110, 111]⟩ : ByteArray) = str s ∧ s.length ≤ 1000 ∧ pres s = .tuple #[conf 0 0 0 0 false, .int .i64 6] :=
  ⟨[99, 111, 117, 110, 116, 61, 49, 32, 98, 121, 116, 101, 115, 61, 49, 32, 112, 114, 111, 116, 101, 99, 116, 101, 100, 61, 49, 48, 48, 32, 115, 101, 101, 100, 61, 48, 32, 115, 97, 109, 101, 61, 110, 111], rfl, by decide, none_of (a := 1) (b := 1) (c := 100) (d := 0) (y := false) (by kernel_rfl) (fun h => absurd h.1 (by decide))⟩
end Go.Proofs.YtckibgpmncggaaaDoor.Cfg
