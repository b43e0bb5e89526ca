/-
  Stack distances (layer 37): the law ReuseLists.
-/
import Derived.Test.YtbbcmheedhdlfaaRee
import Derived.Test.YtbbcmheedhdlfaaLruF
set_option linter.unusedVariables false
set_option linter.unusedSimpArgs false
namespace Go.Proofs.Ytbbcmheedhdlfaa.Reu
open Go Go.RowKit Kit Go.Maps Lnk Lru
/-- an LRU list of size s behind some requests, the oldest key first -/
def lrl (T : List Nat) (s j : Nat) : List Nat := (top (stk [] (T.take j)) s).reverse
theorem top_nd {D : List Nat} (h : D.Nodup) (s : Nat) : (top D s).Nodup := (List.take_sublist _ _).nodup ((nodup_rev _).2 h)
theorem stk_sub : ∀ (a D : List Nat) (y : Nat), y ∈ stk D a → y ∈ D ∨ y ∈ a
  | [], D, y, h => .inl h
  | x :: a, D, y, h => by
    rcases stk_sub a (nxt D x) y h with h | h
    · rcases nxt_mem h with h | rfl
      · exact .inl h
      · exact .inr (by simp)
    · exact .inr (List.mem_cons_of_mem _ h)
theorem lrl_zero (T : List Nat) (s : Nat) : lrl T s 0 = [] := by simp [lrl, top, stk]
theorem lrl_mem {T : List Nat} {s j x : Nat} : x ∈ lrl T s j ↔ x ∈ top (stk [] (T.take j)) s := by unfold lrl; exact List.mem_reverse
theorem lrl_len (T : List Nat) (s j : Nat) : (lrl T s j).length ≤ s := by unfold lrl; rw [List.length_reverse]; exact top_len _ _
theorem lrl_next {T : List Nat} {s j x : Nat} (hx : T[j]? = some x) : lrl T s (j + 1) = ((x :: (top (stk [] (T.take j)) s).filter (fun y => decide (y ≠ x))).take s).reverse := by
  unfold lrl
  rw [take_next hx, stk_snoc, top_next (stk_nodup _ [] (by simp))]
theorem lrl_hit {T : List Nat} {s j x : Nat} (hx : T[j]? = some x) (hm : x ∈ lrl T s j) : lrl T s (j + 1) = useL (lrl T s j) x := by
  have hnd := top_nd (stk_nodup (T.take j) [] (by simp)) s
  have hm2 := lrl_mem.1 hm
  rw [lrl_next hx]
  unfold useL
  rw [if_pos hm]
  have h1 : ((lrl T s j).erase x).reverse = (top (stk [] (T.take j)) s).filter (fun y => decide (y ≠ x)) := by
    unfold lrl
    rw [erase_rev ((nodup_rev _).2 hnd), List.reverse_reverse]
  have h2 : ((top (stk [] (T.take j)) s).filter (fun y => decide (y ≠ x))).length + 1 = (top (stk [] (T.take j)) s).length := by
    rw [← h1, List.length_reverse, List.length_erase_of_mem hm]
    unfold lrl
    rw [List.length_reverse]
    have := List.length_pos_of_mem hm2
    omega
  have h3 := top_len (stk [] (T.take j)) s
  rw [List.take_of_length_le (by rw [List.length_cons]; omega), ← h1, List.reverse_cons, List.reverse_reverse]
theorem lrl_miss {T : List Nat} {s j x : Nat} (hx : T[j]? = some x) (hm : x ∉ lrl T s j) : lrl T s (j + 1) = if (lrl T s j).length + 1 ≤ s then lrl T s j ++ [x] else (lrl T s j ++ [x]).tail := by
  have hm2 : x ∉ top (stk [] (T.take j)) s := fun h => hm (lrl_mem.2 h)
  rw [lrl_next hx, filter_id _ hm2]
  have hl : (lrl T s j).length = (top (stk [] (T.take j)) s).length := by unfold lrl; rw [List.length_reverse]
  have h3 := top_len (stk [] (T.take j)) s
  by_cases h : (lrl T s j).length + 1 ≤ s
  · rw [if_pos h, List.take_of_length_le (by rw [List.length_cons]; omega), List.reverse_cons]
    rfl
  · rw [if_neg h]
    have : (x :: top (stk [] (T.take j)) s).take s = (x :: top (stk [] (T.take j)) s).dropLast := by rw [List.dropLast_eq_take, List.length_cons]; congr 1; omega
    rw [this]
    unfold lrl
    rw [← List.reverse_cons, List.tail_reverse]
theorem lrl_sub {T : List Nat} {s j y : Nat} (h : y ∈ lrl T s j) : y ∈ T.take j := by
  have h2 := List.mem_reverse.1 (List.mem_of_mem_take (lrl_mem.1 h))
  rcases stk_sub _ _ _ h2 with h | h
  · cases h
  · exact h
theorem lrl_nd (T : List Nat) (s j : Nat) : (lrl T s j).Nodup := (nodup_rev _).2 (top_nd (stk_nodup _ [] (by simp)) s)
theorem upto_big {ds : List Int} {K s : Nat} (h : ∀ d ∈ ds, d = -1 ∨ (0 ≤ d ∧ d < (K : Int))) (hs : K ≤ s) : upto ds s = upto ds K := by
  unfold upto
  congr 1
  apply List.filter_congr
  intro d hd
  have := h d hd
  have e : (0 ≤ d ∧ d < (s : Int)) ↔ (0 ≤ d ∧ d < (K : Int)) := by omega
  simp only [e]
set_option maxRecDepth 100000 in
set_option maxHeartbeats 4000000 in
theorem llists_in {w : World} {p : Option Addr} {n c : Nat} {T : List Nat} (hT : T.length = n) (hn : n ≤ 120) (hr : Ru w p (ints T)) (hw : ∀ x ∈ T, x < 4294967296) (s : Nat) (hs : s ≤ 30) :
    Calls Try.prog 10 #[.slice p n c, .int .i64 (s : Int)] w fun e w' => e = .returned (.bool true) ∧ Below w.heap.size w w' := by
  have HKN := Lib.hid known37
  have h1 : ¬ (120 : Int) < (n : Int) := by omega
  have h2 : ¬ (s : Int) < 0 := by omega
  have h3 : ¬ (30 : Int) < (s : Int) := by omega
  have HH := Lib.hid (fun (v : World) (hb : Below w.heap.size w v) => Hits_any (c := c) hT (by omega) (hr.below hb) hw)
  have HR := Lib.hid (show T.length = n ∧ Ru w p (ints T) ∧ (∀ x ∈ T, x < 4294967296) from ⟨hT, hr, hw⟩)
  have HL := Lib.hid (show n ≤ 120 ∧ s ≤ 30 ∧ (stk [] T).length ≤ n ∧ (∀ d ∈ dists [] T, d = -1 ∨ (0 ≤ d ∧ d < ((stk [] T).length : Int))) from ⟨hn, hs, by have := stk_len T []; simp at this; omega, dists_lt T []⟩)
  obtain ⟨K, hK⟩ : ∃ K, (stk [] T).length = K := ⟨_, rfl⟩
  rw [hK] at HH HL
  obtain ⟨K1, hK1⟩ : ∃ K1, K + 1 = K1 := ⟨_, rfl⟩
  rw [hK1] at HH
  have HKK := Lib.hid hK1
  have HN := Lib.hid (Kn.new w)
  clear hT hr hw hn hK hK1 hs
  go_enter Try.func10, Try.ntmps10
  go_wp2_with fail
  refine HN.out.mono ?_
  rintro e w1 ⟨o, rfl, k1⟩
  have KN1 := Lib.hid k1
  clear k1 HN
  go_wp2_with fail
  go_loopw [7, 6] (fun iv nv wr => ∃ j : Nat, j ≤ n ∧ iv = .int .i64 (j : Int) ∧ nv = .int .i64 (upto (dists [] (T.take j)) s : Int) ∧ Hid (Kn w o (lrl T s j) wr) ∧ Hid (∀ y ∈ T.take j, y < 4194304)) (fun iv _ _ => n - (intOf iv).toNat)
  case atStart => exact ⟨0, Nat.zero_le _, rfl, rfl, by rw [lrl_zero]; exact KN1, Lib.hid (fun y hy => by simp at hy)⟩
  case round =>
    obtain ⟨j, hj, rfl, rfl, KN, HB4⟩ := hrel
    clear KN1
    obtain ⟨z, hz⟩ : ∃ z : Int, (upto (dists [] (T.take j)) s : Int) = z := ⟨_, rfl⟩
    rw [hz]
    by_cases hjn : j < n
    · have i1 : (j : Int) < (n : Int) := by omega
      have j0 : (0 : Int) ≤ (j : Int) := by omega
      obtain ⟨x, hx⟩ := take_lt HR.out.1 hjn
      obtain ⟨u, hu⟩ : ∃ u : Int, (x : Int) = u := ⟨_, rfl⟩
      obtain ⟨y, rfl, -, e0⟩ := (HR.out.2.1.below KN.out.2) j u (by rw [← hu]; exact Lnk.ints_at hx)
      have HZ := Lib.hid (show (upto (dists [] (T.take j)) s : Int) = z ∧ 0 ≤ z ∧ z ≤ j from ⟨hz, by omega, by
        have h := List.length_filter_le (fun d => decide (0 ≤ d ∧ d < (s : Int))) (dists [] (T.take j))
        rw [dists_len, List.length_take] at h
        unfold upto at hz
        omega⟩)
      have HX := Lib.hid hx
      have HU := Lib.hid hu
      have HJ := Lib.hid hjn
      have wj := IntWalk.i64_in ((j : Int) + 1) (by have := HL.out; omega)
      have wz := IntWalk.i64_in (z + 1) (by have := HZ.out; have := HL.out; omega)
      by_cases h1000 : (1000 : Int) ≤ u
      · have B0 := Lib.hid KN.out.2
        clear hx hu hj hjn hz
        go_wp2_with fail
        refine (HKN.out _).mono ?_
        rintro e w2 ⟨rfl, b2⟩
        have B2 := Lib.hid (tr B0.out b2)
        clear b2
        go_wp2_with fail
        go_returns
        exact ⟨rfl, B2.out⟩
      · have hx4 : x < 4194304 := by omega
        have HX4 := Lib.hid hx4
        have HB5 := Lib.hid (show ∀ y ∈ T.take (j + 1), y < 4194304 from fun y hy => by
          rw [take_next hx] at hy
          rcases List.mem_append.1 hy with h | h
          · exact HB4.out y h
          · simp at h; omega)
        have HHas := Lib.hid (KN.out.has x (by omega))
        have HUP := Lib.hid (show upto (dists [] (T.take (j + 1))) s = upto (dists [] (T.take j)) s + (if x ∈ lrl T s j then 1 else 0) from by
          rw [take_next hx, dists_snoc, upto_snoc]
          congr 1
          by_cases h : x ∈ lrl T s j
          · rw [if_pos h, if_pos ((top_hit (stk_nodup _ [] (by simp)) x s).1 (lrl_mem.1 h))]
          · rw [if_neg h, if_neg fun e => h (lrl_mem.2 ((top_hit (stk_nodup _ [] (by simp)) x s).2 e))])
        rw [hu] at HHas
        clear hx hu hj hjn hz hx4 KN
        go_wp2_with fail
        refine HHas.out.mono ?_
        rintro e w2 ⟨rfl, k2⟩
        have K2 := Lib.hid k2
        clear k2 HHas
        by_cases hin : x ∈ lrl T s j
        · have hd : decide (x ∈ lrl T s j) = true := decide_eq_true hin
          have HE := Lib.hid (show useL (lrl T s j) x = lrl T s (j + 1) ∧ (upto (dists [] (T.take (j + 1))) s : Int) = z + 1 from ⟨(lrl_hit HX.out hin).symm, by have := HUP.out; rw [if_pos hin] at this; have := HZ.out; omega⟩)
          have hrc : remC (lrl T s j) x = 0 := by unfold remC; rw [if_pos HX4.out, if_pos hin]
          have HC := Lib.hid (K2.out.use x (by have := HX4.out; omega))
          rw [hrc, HE.out.1, HU.out] at HC
          clear hin hrc
          go_wp2_with fail
          refine HC.out.mono ?_
          rintro e w3 ⟨rfl, k3⟩
          have K3 := Lib.hid k3
          clear k3 HC
          go_wp2_with fail
          go_roundw
          case rel => exact ⟨j + 1, by have := HJ.out; omega, by go_num, by rw [HE.out.2], K3, HB5⟩
          case measure => have := HJ.out; simp [intOf]; omega
        · have hd : decide (x ∈ lrl T s j) = false := decide_eq_false hin
          have HE := Lib.hid (show (upto (dists [] (T.take (j + 1))) s : Int) = z ∧ lrl T s (j + 1) = (if (lrl T s j).length + 1 ≤ s then lrl T s j ++ [x] else (lrl T s j ++ [x]).tail) from ⟨by have := HUP.out; rw [if_neg hin] at this; have := HZ.out; omega, lrl_miss HX.out hin⟩)
          have hac : addC (lrl T s j) x = 0 := by unfold addC; rw [if_pos HX4.out, if_neg hin]
          have hal : addL (lrl T s j) x = lrl T s j ++ [x] := by unfold addL; rw [if_pos ⟨HX4.out, hin⟩]
          have HC := Lib.hid (K2.out.add x (by have := HX4.out; omega))
          rw [hac, hal, HU.out] at HC
          have HNI := Lib.hid hin
          clear hin hac hal
          go_wp2_with fail
          refine HC.out.mono ?_
          rintro e w3 ⟨rfl, k3⟩
          have K3 := Lib.hid k3
          clear k3 HC
          have HLN := Lib.hid K3.out.len
          obtain ⟨L1, hL1⟩ : ∃ L1, (lrl T s j ++ [x]).length = L1 := ⟨_, rfl⟩
          rw [hL1] at HLN
          have HL1 := Lib.hid hL1
          clear hL1
          go_wp2_with fail
          refine HLN.out.mono ?_
          rintro e w4 ⟨rfl, k4⟩
          have K4 := Lib.hid k4
          clear k4 HLN K3
          by_cases hlen : L1 ≤ s
          · have i5 : ¬ (s : Int) < (L1 : Int) := by omega
            have HF := Lib.hid (show lrl T s (j + 1) = lrl T s j ++ [x] from by rw [HE.out.2, if_pos (by have := HL1.out; rw [List.length_append, List.length_singleton] at this; omega)])
            clear hlen
            go_wp2_with fail
            go_roundw
            case rel => exact ⟨j + 1, by have := HJ.out; omega, by go_num, by rw [HE.out.1], by rw [HF.out]; exact K4, HB5⟩
            case measure => have := HJ.out; simp [intOf]; omega
          · have i5 : (s : Int) < (L1 : Int) := by omega
            have HF := Lib.hid (show lrl T s (j + 1) = (lrl T s j ++ [x]).tail from by rw [HE.out.2, if_neg (by have := HL1.out; rw [List.length_append, List.length_singleton] at this; omega)])
            obtain ⟨a, tl, hat⟩ : ∃ a tl, lrl T s j ++ [x] = a :: tl := by
              cases h : lrl T s j ++ [x] with
              | nil => simp at h
              | cons a tl => exact ⟨a, tl, rfl⟩
            have hnd : (lrl T s j ++ [x]).Nodup := by
              rw [List.nodup_append]
              exact ⟨lrl_nd T s j, by simp, fun a ha b hb => by simp at hb; subst hb; exact fun e => HNI.out (e ▸ ha)⟩
            have HO := Lib.hid K4.out.oldest
            have ha4 : a < 4194304 := by
              have : a ∈ lrl T s j ++ [x] := by rw [hat]; simp
              rcases List.mem_append.1 this with h | h
              · exact HB4.out a (lrl_sub h)
              · simp at h; have := HX4.out; omega
            have HRM := Lib.hid (fun (v : World) (hb : Below w4.heap.size w4 v) => (K4.out.below hb).remove a (by omega))
            have hrc : remC (lrl T s j ++ [x]) a = 0 := by unfold remC; rw [if_pos ha4, if_pos (by rw [hat]; simp)]
            have her : (lrl T s j ++ [x]).erase a = lrl T s (j + 1) := by rw [HF.out, hat]; simp
            rw [hrc, her] at HRM
            rw [hat] at HO
            obtain ⟨q, hq⟩ : ∃ q : Int, (a : Int) = q := ⟨_, rfl⟩
            have e1 : nodeR (a :: tl).head? = .tuple #[.int .u32 q, .int .i64 0] := by rw [← hq]; rfl
            rw [e1] at HO
            rw [hq] at HRM
            clear hlen hat hnd hrc her hq ha4 e1
            go_wp2_with fail
            refine HO.out.mono ?_
            rintro e w5 ⟨rfl, b5⟩
            have HC := Lib.hid (HRM.out _ b5)
            clear b5 HO
            go_wp2_with fail
            refine HC.out.mono ?_
            rintro e w6 ⟨rfl, k6⟩
            have K6 := Lib.hid k6
            clear k6 HC
            go_wp2_with fail
            go_roundw
            case rel => exact ⟨j + 1, by have := HJ.out; omega, by go_num, by rw [HE.out.1], K6, HB5⟩
            case measure => have := HJ.out; simp [intOf]; omega
    · have i1 : ¬ (j : Int) < (n : Int) := by omega
      obtain rfl : j = n := by omega
      have HZ := Lib.hid hz
      rw [List.take_of_length_le (Nat.le_of_eq HR.out.1)] at HZ
      have HC := Lib.hid (HH.out _ KN.out.2)
      have B0 := Lib.hid KN.out.2
      clear hz KN
      go_wp2_with fail
      refine HC.out.mono ?_
      rintro e w2 ⟨g, rfl, -, row, b2⟩
      have RW := Lib.hid row
      have B2 := Lib.hid (tr B0.out b2)
      clear row b2 HC HH
      have wk : IntKind.i64.wrap ((K1 : Int) - 1) = (K : Int) := by rw [IntWalk.i64_in _ (by have := HL.out; have := HKK.out; omega)]; have := HKK.out; omega
      have k0 : ((K1 : Int) == 0) = false := by rw [beq_eq_false_iff_ne]; have := HKK.out; omega
      by_cases hsK : (K : Int) < (s : Int)
      · have c1 := RW.out.cell K (by have := HKK.out; omega)
        have e1 : (upto (dists [] T) K : Int) = z := by
          rw [← HZ.out]
          exact congrArg Int.ofNat (upto_big HL.out.2.2.2 (by omega)).symm
        rw [e1] at c1
        have i3 : (0 : Int) ≤ (K : Int) := by omega
        have i4 : (K : Int) < (K1 : Int) := by have := HKK.out; omega
        have hzz : (z == z) = true := by simp
        clear e1
        go_wp2_with fail
        refine (HKN.out _).mono ?_
        rintro e w7 ⟨rfl, b7⟩
        have B7 := Lib.hid (tr B2.out b7)
        clear b7
        go_wp2_with fail
        go_returns
        exact ⟨rfl, B7.out⟩
      · have c1 := RW.out.cell s (by have := HKK.out; omega)
        rw [HZ.out] at c1
        have i3 : (0 : Int) ≤ (s : Int) := by omega
        have i4 : (s : Int) < (K1 : Int) := by have := HKK.out; omega
        have hzz : (z == z) = true := by simp
        go_wp2_with fail
        refine (HKN.out _).mono ?_
        rintro e w7 ⟨rfl, b7⟩
        have B7 := Lib.hid (tr B2.out b7)
        clear b7
        go_wp2_with fail
        go_returns
        exact ⟨rfl, B7.out⟩
set_option maxRecDepth 100000 in
theorem llists_far {w : World} {p : Option Addr} {n c : Nat} {s : Int} (h : 120 < n ∨ s < 0 ∨ 30 < s) :
    Calls Try.prog 10 #[.slice p n c, .int .i64 s] w fun e w' => e = .returned (.bool true) ∧ Below w.heap.size w w' := by
  have HKN := Lib.hid known37
  by_cases h1 : (120 : Int) < (n : Int)
  · clear h
    go_enter Try.func10, Try.ntmps10
    go_wp2_with fail
    refine (HKN.out _).mono ?_
    rintro e w1 ⟨rfl, b1⟩
    go_wp2_with fail
    go_returns
    exact ⟨rfl, b1⟩
  by_cases h2 : s < 0
  · clear h
    go_enter Try.func10, Try.ntmps10
    go_wp2_with fail
    refine (HKN.out _).mono ?_
    rintro e w1 ⟨rfl, b1⟩
    go_wp2_with fail
    go_returns
    exact ⟨rfl, b1⟩
  have h3 : 30 < s := by omega
  clear h
  go_enter Try.func10, Try.ntmps10
  go_wp2_with fail
  refine (HKN.out _).mono ?_
  rintro e w1 ⟨rfl, b1⟩
  go_wp2_with fail
  go_returns
  exact ⟨rfl, b1⟩
theorem llists_row {w : World} {p : Option Addr} {n k : Nat} (h : (p = none ∧ n = 0) ∨ ∃ y, p = some y ∧ n ≤ k ∧ k ≤ maxLen ∧ ∀ i, i < n → ∃ z : Int, w.cell? (y.add i) = some (.int .u32 z) ∧ (Lit.int .u32 z).wf = true) (s : Int) :
    Calls Try.prog 10 #[.slice p n k, .int .i64 s] w fun e w' => e = .returned (.bool true) ∧ Below w.heap.size w w' := by
  obtain ⟨T, h1, h2, h3⟩ := ru_nat h
  by_cases hf : 120 < n ∨ s < 0 ∨ 30 < s
  · exact llists_far hf
  · obtain ⟨s', rfl⟩ := Int.eq_ofNat_of_zero_le (show 0 ≤ s by omega)
    exact llists_in h1 (by omega) h2 h3 s' (by omega)
end Go.Proofs.Ytbbcmheedhdlfaa.Reu
