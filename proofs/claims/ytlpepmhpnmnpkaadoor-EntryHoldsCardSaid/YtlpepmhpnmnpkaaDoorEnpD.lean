/-
  Entries (layer 4): the reference's digits, bytes and words.
-/
import Derived.Test.YtlpepmhpnmnpkaaDoorEnpB
set_option linter.unusedVariables false
set_option linter.unusedSimpArgs false
namespace Go.Proofs.YtlpepmhpnmnpkaaDoor.Ent
open Go Go.RowKit Kit
theorem at_digI (d : Int) (h0 : 0 ≤ d) (h1 : d < 16) (w : World) : (Instr.index 9 (.string ⟨#[48, 49, 50, 51, 52, 53, 54, 55, 56, 57, 97, 98, 99, 100, 101, 102]⟩) (.int .i64 d)).run Tryd.prog w = .ok (.int .u8 (hx d)) w := by
  obtain rfl | rfl | rfl | rfl | rfl | rfl | rfl | rfl | rfl | rfl | rfl | rfl | rfl | rfl | rfl | rfl : d = 0 ∨ d = 1 ∨ d = 2 ∨ d = 3 ∨ d = 4 ∨ d = 5 ∨ d = 6 ∨ d = 7 ∨ d = 8 ∨ d = 9 ∨ d = 10 ∨ d = 11 ∨ d = 12 ∨ d = 13 ∨ d = 14 ∨ d = 15 := by omega
  all_goals first
    | (simp [Instr.index, asIntOf, run_underlying Tryd.underlying9, hx]; done)
    | (simp [Instr.index, asIntOf, run_underlying Tryd.underlying9, hx]; rfl)
def dv (c : UInt8) : Int := if dgt c = 0 then 0 else (dgt c : Int) - 1
theorem dgt_of (c : UInt8) (d : Int) (h0 : 0 ≤ d) (h1 : d < 16) (h : hx d = (c.toNat : Int)) : dgt c = d.toNat + 1 := by
  have hb := hx_byte d h0 h1
  have : c = UInt8.ofNat (hx d).toNat := by
    apply UInt8.toNat.inj
    rw [UInt8.toNat_ofNat']; omega
  rw [this]
  exact dgt_hx d h0 h1
theorem dgt_no (c : UInt8) (h : ∀ d : Int, 0 ≤ d → d < 16 → hx d ≠ (c.toNat : Int)) : dgt c = 0 := by
  rcases Nat.eq_zero_or_pos (dgt c) with h1 | h1
  · exact h1
  · exfalso
    have h2 := hx_dgt c (by omega)
    have hl := dgt_le c
    have hb := hx_byte ((dgt c : Int) - 1) (by omega) (by omega)
    refine h ((dgt c : Int) - 1) (by omega) (by omega) ?_
    have h3 := congrArg UInt8.toNat h2
    rw [UInt8.toNat_ofNat'] at h3
    omega
set_option maxRecDepth 100000 in
theorem rdigit_any (c : UInt8) (w : World) :
    Calls Tryd.prog 62 #[.int .u8 (c.toNat : Int)] w fun e w' => e = .returned (.tuple #[.int .i64 (dv c), .bool (dgt c != 0)]) ∧ w = w' := by
  have HV := Lib.hid (show ∀ d : Int, 0 ≤ d → d < 16 → hx d = (c.toNat : Int) → dv c = d ∧ (dgt c != 0) = true from fun d h0 h1 h => by
    have := dgt_of c d h0 h1 h
    unfold dv
    rw [this, if_neg (by omega)]
    exact ⟨by omega, by simp⟩)
  have HN := Lib.hid (show (∀ d : Int, 0 ≤ d → d < 16 → hx d ≠ (c.toNat : Int)) → dv c = 0 ∧ (dgt c != 0) = false from fun h => by
    have := dgt_no c h
    unfold dv
    rw [this]
    exact ⟨rfl, rfl⟩)
  generalize dv c = x at *
  generalize (dgt c != 0) = y at *
  generalize (c.toNat : Int) = z at *
  go_enter Tryd.func62, Tryd.ntmps62
  go_wp2_with fail
  go_loopw [4] (fun i wr => ∃ j : Nat, j ≤ 16 ∧ i = .int .i64 j ∧ (∀ d : Int, 0 ≤ d → d < j → hx d ≠ z) ∧ w = wr) (fun i _ => 16 - (intOf i).toNat)
  case atStart => exact ⟨0, by omega, rfl, fun d h0 h1 => by omega, rfl⟩
  case round =>
    obtain ⟨j, hj, rfl, hY, rfl⟩ := hrel
    have HY := Lib.hid hY
    clear hY
    by_cases hlt : j < 16
    · have hlt' : (j : Int) < 16 := by omega
      have hix := at_digI (j : Int) (by omega) (by omega)
      have HX := Lib.hid (show ∀ v, hx (j : Int) = v → hx (j : Int) = v from fun _ h => h)
      obtain ⟨v, hv⟩ : ∃ v, hx (j : Int) = v := ⟨_, rfl⟩
      rw [hv] at hix
      have HVV := Lib.hid hv
      clear hv HX
      by_cases hc : v = z
      · subst hc
        obtain ⟨q1, q2⟩ := HV.out (j : Int) (by omega) hlt' HVV.out
        subst q1
        subst q2
        go_wp2_with fail
        go_ret2
        exact ⟨rfl, rfl⟩
      · have hcb : (v == z) = false := by rw [beq_eq_false_iff_ne]; exact hc
        have HC := Lib.hid hc
        clear hc
        go_wp2_with fail
        go_roundw
        case rel => exact ⟨j + 1, by omega, by go_num, fun d h0 h1 => by
          by_cases h2 : d < (j : Int)
          · exact HY.out d h0 h2
          · obtain rfl : d = j := by omega
            rw [HVV.out]; exact HC.out, trivial⟩
        case measure => simp [intOf]; omega
    · obtain rfl : j = 16 := by omega
      obtain ⟨q1, q2⟩ := HN.out HY.out
      subst q1
      subst q2
      go_wp2_with fail
      go_ret2
      exact ⟨rfl, rfl⟩
/-! ### the words of a line -/
def spl (l : List (List UInt8)) (c : UInt8) : List (List UInt8) := if c = 32 then l ++ [[]] else l.set (l.length - 1) ((l.getD (l.length - 1) []) ++ [c])
def wordsOf (s : List UInt8) : List (List UInt8) := s.foldl spl [[]]
theorem spl_len (l : List (List UInt8)) (c : UInt8) (h : 1 ≤ l.length) : 1 ≤ (spl l c).length ∧ (spl l c).length ≤ l.length + 1 := by
  unfold spl
  split
  · simp
  · simp; exact h
theorem words_len : ∀ (s : List UInt8) (l : List (List UInt8)), 1 ≤ l.length → 1 ≤ (s.foldl spl l).length ∧ (s.foldl spl l).length ≤ l.length + s.length
  | [], l, h => ⟨h, by simp⟩
  | c :: s, l, h => by
    have h1 := spl_len l c h
    have h2 := words_len s (spl l c) h1.1
    exact ⟨h2.1, by simp only [List.foldl_cons, List.length_cons]; omega⟩
theorem spl_last (p : List (List UInt8)) (x : List UInt8) (c : UInt8) (hc : c ≠ 32) : spl (p ++ [x]) c = p ++ [x ++ [c]] := by
  unfold spl
  rw [if_neg hc]
  simp
theorem spl_ns (p : List (List UInt8)) : ∀ (a x : List UInt8), ns a → a.foldl spl (p ++ [x]) = p ++ [x ++ a]
  | [], x, _ => by simp
  | c :: a, x, h => by
    rw [List.foldl_cons, spl_last p x c (h c (by simp)), spl_ns p a (x ++ [c]) (fun y hy => h y (by simp [hy]))]
    simp
theorem words_four (a0 a1 a2 a3 : List UInt8) (h0 : ns a0) (h1 : ns a1) (h2 : ns a2) (h3 : ns a3) : wordsOf (a0 ++ 32 :: (a1 ++ 32 :: (a2 ++ 32 :: a3))) = [a0, a1, a2, a3] := by
  unfold wordsOf
  have sp : ∀ (l : List (List UInt8)), spl l 32 = l ++ [[]] := fun l => by unfold spl; rw [if_pos rfl]
  rw [List.foldl_append, show ([[]] : List (List UInt8)) = [] ++ [[]] from rfl, spl_ns [] a0 [] h0]
  rw [List.foldl_cons, sp, List.foldl_append, spl_ns _ a1 [] h1]
  rw [List.foldl_cons, sp, List.foldl_append, spl_ns _ a2 [] h2]
  rw [List.foldl_cons, sp, spl_ns _ a3 [] h3]
  simp
def joinS (l : List (List UInt8)) : List UInt8 := l.flatMap fun w => 32 :: w
theorem joinS_spl (p : List (List UInt8)) (x : List UInt8) (c : UInt8) : joinS (spl (p ++ [x]) c) = joinS (p ++ [x]) ++ [c] := by
  by_cases hc : c = 32
  · subst hc
    unfold spl
    rw [if_pos rfl]
    simp [joinS]
  · rw [spl_last p x c hc]
    simp [joinS]
theorem ends (l : List (List UInt8)) (h : 1 ≤ l.length) : ∃ p x, l = p ++ [x] := by
  refine ⟨l.dropLast, l.getLast (by intro h'; subst h'; simp at h), ?_⟩
  exact (List.dropLast_concat_getLast _).symm
theorem joinS_fold : ∀ (s : List UInt8) (l : List (List UInt8)), 1 ≤ l.length → joinS (s.foldl spl l) = joinS l ++ s
  | [], l, _ => by simp
  | c :: s, l, h => by
    obtain ⟨p, x, rfl⟩ := ends l h
    rw [List.foldl_cons, joinS_fold s _ (spl_len _ c h).1, joinS_spl]
    simp
theorem words_join {s a0 a1 a2 a3 : List UInt8} (h : wordsOf s = [a0, a1, a2, a3]) : s = a0 ++ 32 :: (a1 ++ 32 :: (a2 ++ 32 :: a3)) := by
  have h1 := joinS_fold s [[]] (by simp)
  unfold wordsOf at h
  rw [h] at h1
  simp [joinS] at h1
  exact h1.symm
theorem fold_take (s : List UInt8) {j : Nat} (hj : j < s.length) : (s.take (j + 1)).foldl spl [[]] = spl ((s.take j).foldl spl [[]]) s[j] := by
  rw [List.take_succ_eq_append_getElem hj, List.foldl_append]
  rfl
end Go.Proofs.YtlpepmhpnmnpkaaDoor.Ent
