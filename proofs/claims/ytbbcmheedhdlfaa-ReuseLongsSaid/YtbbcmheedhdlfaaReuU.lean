/-
  Stack distances (layer 37): the law ReuseLongs.
-/
import Derived.Test.YtbbcmheedhdlfaaReuT
set_option linter.unusedVariables false
set_option linter.unusedSimpArgs false
namespace Go.Proofs.Ytbbcmheedhdlfaa.Reu
open Go Go.RowKit Kit Go.Maps Lnk Lru
/-- the keys of a loop -/
def cyc (k n : Nat) : List Nat := (List.range n).map fun j => j % k
theorem cyc_succ (k n : Nat) : cyc k (n + 1) = cyc k n ++ [n % k] := by unfold cyc; rw [List.range_succ, List.map_append]; rfl
theorem cyc_len (k n : Nat) : (cyc k n).length = n := by simp [cyc]
theorem cyc_all (k : Nat) (hk : 1 ≤ k) : ∀ j, stk [] (cyc k j) = (List.range' (j - min j k) (min j k)).map (fun i => i % k) ∧ dists [] (cyc k j) = (List.range j).map fun i => if i < k then (-1 : Int) else (k : Int) - 1
  | 0 => by simp [cyc, stk, dists]
  | j + 1 => by
    obtain ⟨h1, h2⟩ := cyc_all k hk j
    rw [cyc_succ, stk_snoc, dists_snoc, h1, h2, List.range_succ, List.map_append]
    by_cases hj : j < k
    · have e1 : min j k = j := by omega
      have e2 : min (j + 1) k = j + 1 := by omega
      have hm : j % k = j := Nat.mod_eq_of_lt hj
      have hn : j ∉ (List.range' (j - min j k) (min j k)).map (fun i => i % k) := fun h => by
        obtain ⟨i, hi, e⟩ := List.mem_map.1 h
        rw [e1] at hi
        have := List.mem_range'_1.1 hi
        have e3 : i % k = i := Nat.mod_eq_of_lt (by omega)
        omega
      rw [hm, dist_no hn]
      refine ⟨?_, by simp [hj]⟩
      unfold nxt
      rw [List.erase_of_not_mem hn, e1, e2, List.range'_concat, List.map_append]
      simp [hm]
    · have e1 : min j k = k := by omega
      have e2 : min (j + 1) k = k := by omega
      obtain ⟨k1, rfl⟩ : ∃ k1, k = k1 + 1 := ⟨k - 1, by omega⟩
      have e3 : (j - (k1 + 1)) % (k1 + 1) = j % (k1 + 1) := (Nat.mod_eq_sub_mod (by omega)).symm
      have e4 : (List.range' (j - (k1 + 1)) (k1 + 1)).map (fun i => i % (k1 + 1)) = j % (k1 + 1) :: (List.range' (j - (k1 + 1) + 1) k1).map (fun i => i % (k1 + 1)) := by
        rw [List.range'_succ, List.map_cons, e3]
      rw [e1, e2, e4]
      refine ⟨?_, ?_⟩
      · unfold nxt
        rw [List.erase_cons_head]
        have e5 : j + 1 - (k1 + 1) = j - (k1 + 1) + 1 := by omega
        rw [e5, List.range'_concat, List.map_append]
        simp only [List.map_cons, List.map_nil]
        congr 3
        omega
      · have : dist (j % (k1 + 1) :: (List.range' (j - (k1 + 1) + 1) k1).map (fun i => i % (k1 + 1))) (j % (k1 + 1)) = ((k1 + 1 : Nat) : Int) - 1 := by
          unfold dist
          rw [if_pos (by simp), List.idxOf_cons_self, List.length_cons, List.length_map, List.length_range']
          omega
        rw [this]
        simp [hj]
theorem cyc_stk {k n : Nat} (hk : 1 ≤ k) (hn : k ≤ n) : (stk [] (cyc k n)).length = k := by
  rw [(cyc_all k hk n).1, List.length_map, List.length_range']
  omega
theorem cyc_at {k n i : Nat} (hk : 1 ≤ k) (hi : i < n) : (dists [] (cyc k n))[i]? = some (if i < k then (-1 : Int) else (k : Int) - 1) := by
  rw [(cyc_all k hk n).2, List.getElem?_map, List.getElem?_range hi]; rfl
theorem cyc_less {k n i : Nat} (hk : 1 ≤ k) (hi : i < k) : upto (dists [] (cyc k n)) i = 0 := by
  unfold upto
  rw [List.length_eq_zero_iff, List.filter_eq_nil_iff]
  intro d hd
  rw [(cyc_all k hk n).2] at hd
  obtain ⟨j, -, rfl⟩ := List.mem_map.1 hd
  by_cases h : j < k
  · rw [if_pos h]; simp
  · rw [if_neg h]; simp; omega
theorem cyc_full {k n : Nat} (hk : 1 ≤ k) (hn : k ≤ n) : (upto (dists [] (cyc k n)) k : Int) = (n : Int) - (k : Int) := by
  have := upto_all (cyc k n)
  rw [cyc_stk hk hn, cyc_len] at this
  exact this
theorem cyc_lt {k n : Nat} (hk : 1 ≤ k) (h2 : k ≤ 200) : ∀ x ∈ cyc k n, x < 4294967296 := fun x hx => by
  obtain ⟨j, -, rfl⟩ := List.mem_map.1 hx
  have := Nat.mod_lt j (show 0 < k by omega)
  show j % k < _
  omega
set_option maxRecDepth 100000 in
theorem llongs_far {w : World} {m k : Int} (h : m < 4094 ∨ 4098 < m ∨ k < 1 ∨ 200 < k) :
    Calls Try.prog 11 #[.int .i64 m, .int .i64 k] w fun e w' => e = .returned (.bool true) ∧ Below w.heap.size w w' := by
  have HKN := Lib.hid known37
  by_cases h1 : m < 4094
  · clear h
    go_enter Try.func11, Try.ntmps11
    go_wp2_with fail
    refine (HKN.out _).mono ?_
    rintro e w1 ⟨rfl, b1⟩
    go_wp2_with fail
    go_returns
    exact ⟨rfl, b1⟩
  by_cases h2 : 4098 < m
  · clear h
    go_enter Try.func11, Try.ntmps11
    go_wp2_with fail
    refine (HKN.out _).mono ?_
    rintro e w1 ⟨rfl, b1⟩
    go_wp2_with fail
    go_returns
    exact ⟨rfl, b1⟩
  by_cases h3 : k < 1
  · clear h
    go_enter Try.func11, Try.ntmps11
    go_wp2_with fail
    refine (HKN.out _).mono ?_
    rintro e w1 ⟨rfl, b1⟩
    go_wp2_with fail
    go_returns
    exact ⟨rfl, b1⟩
  have h4 : 200 < k := by omega
  clear h
  go_enter Try.func11, Try.ntmps11
  go_wp2_with fail
  refine (HKN.out _).mono ?_
  rintro e w1 ⟨rfl, b1⟩
  go_wp2_with fail
  go_returns
  exact ⟨rfl, b1⟩
set_option maxRecDepth 100000 in
set_option maxHeartbeats 4000000 in
theorem llongs_in {w : World} {m k : Nat} (hm0 : 4094 ≤ m) (hm1 : m ≤ 4098) (hk0 : 1 ≤ k) (hk1 : k ≤ 200) :
    Calls Try.prog 11 #[.int .i64 (m : Int), .int .i64 (k : Int)] w fun e w' => e = .returned (.bool true) ∧ Below w.heap.size w w' := by
  have HKN := Lib.hid known37
  have h1 : ¬ (m : Int) < 4094 := by omega
  have h2 : ¬ (4098 : Int) < (m : Int) := by omega
  have h3 : ¬ (k : Int) < 1 := by omega
  have h4 : ¬ (200 : Int) < (k : Int) := by omega
  have hmk := App.mk_row (t := 39) (e := 38) (z := .int .u32 0) (bytes := 4) (by kernel_rfl) (by kernel_rfl) rfl (by omega) m (by omega) w
  have HL := Lib.hid (show 4094 ≤ m ∧ m ≤ 4098 ∧ 1 ≤ k ∧ k ≤ 200 from ⟨hm0, hm1, hk0, hk1⟩)
  have R0 := Lib.hid (Row.made w (.int .u32 0) rfl m 38)
  have B0 := Lib.hid (box_below w (madeCells #[.int .u32 0] m) 38)
  clear hm0 hm1 hk0 hk1
  go_enter Try.func11, Try.ntmps11
  go_wp2_with fail
  clear hmk h1 h2 h3 h4
  go_loopw [6] (fun iv V => ∃ j : Nat, j ≤ m ∧ iv = .int .i64 (j : Int) ∧ Hid (Row V w.heap.size m 38 fun i => .int .u32 (if i < j then ((i % k : Nat) : Int) else 0)) ∧ Hid (Below w.heap.size w V)) (fun iv _ => m - (intOf iv).toNat)
  case atStart => exact ⟨0, Nat.zero_le _, rfl, Lib.hid (R0.out.congr fun i _ => by simp), B0⟩
  case round =>
    obtain ⟨j, hj, rfl, RW, BV⟩ := hrel
    clear R0 B0
    by_cases hjn : j < m
    · have j1 : (j : Int) < (m : Int) := by omega
      have j0 : (0 : Int) ≤ (j : Int) := by omega
      have kc := RW.out.cell j hjn
      have kf := RW.out.fr j
      have wj := IntWalk.i64_in ((j : Int) + 1) (by have := HL.out; omega)
      have k0 : ((k : Int) == 0) = false := by rw [beq_eq_false_iff_ne]; have := HL.out; omega
      have k1 : ¬ (k : Int) = 0 := by have := HL.out; omega
      have k2 : ¬ k = 0 := by have := HL.out; omega
      obtain ⟨r, hr⟩ : ∃ r, j % k = r := ⟨_, rfl⟩
      have hmod : (j : Int).tmod (k : Int) = (r : Int) := by rw [← hr]; exact (Int.ofNat_tmod j k).symm
      have hrk : r < k := by rw [← hr]; exact Nat.mod_lt _ (by omega)
      have wr1 := IntWalk.i64_in (r : Int) (by have := HL.out; omega)
      have wr2 : IntKind.u32.wrap (r : Int) = (r : Int) := by
        have : IntKind.u32.wrap (r : Int) = (r : Int) % 4294967296 := by simp [IntKind.wrap, IntKind.bits, IntKind.signed]
        have := HL.out
        omega
      have HR := Lib.hid hr
      have HRK := Lib.hid hrk
      clear hr hrk hj hjn
      go_wp2_with fail
      have hjm : j < m := by omega
      refine ⟨⟨j + 1, by omega, rfl, Lib.hid ((RW.out.set j _).congr fun i hi => ?_), Lib.hid (BV.out.setCell (p := ⟨w.heap.size, j, none⟩) (Nat.le_refl _) _)⟩, by simp [intOf]; omega⟩
      by_cases hij : i = j
      · subst hij
        rw [if_pos rfl, if_pos (by omega), HR.out]
      · rw [if_neg hij]
        by_cases h2 : i < j
        · rw [if_pos h2, if_pos (by omega)]
        · rw [if_neg h2, if_neg (by omega)]
    · have j1 : ¬ (j : Int) < (m : Int) := by omega
      obtain rfl : j = m := by omega
      by_cases hlong : 4096 < j
      · have HA := Lib.hid (fun (v : World) => Distances_long (w := v) (p := some ⟨w.heap.size, 0, none⟩) (c := j) hlong)
        have HB := Lib.hid (fun (v : World) => Hits_long (w := v) (p := some ⟨w.heap.size, 0, none⟩) (c := j) hlong)
        have HC := Lib.hid (fun (v : World) => Least_long (w := v) (p := some ⟨w.heap.size, 0, none⟩) (c := j) (h := -1) hlong)
        have HD := Lib.hid (fun (v : World) => Stack_long (w := v) (p := some ⟨w.heap.size, 0, none⟩) (c := j) hlong)
        have i2 : (4096 : Int) < (j : Int) := by omega
        clear hlong RW
        go_wp2_with fail
        refine (HA.out _).mono ?_
        rintro e w1 ⟨rfl, rfl⟩
        go_wp2_with fail
        refine (HB.out _).mono ?_
        rintro e w2 ⟨rfl, rfl⟩
        go_wp2_with fail
        refine (HC.out _).mono ?_
        rintro e w3 ⟨rfl, b3⟩
        have B3 := Lib.hid (tr BV.out b3)
        clear b3
        go_wp2_with fail
        refine (HD.out _).mono ?_
        rintro e w4 ⟨rfl, b4⟩
        have B4 := Lib.hid (tr B3.out b4)
        clear b4
        go_wp2_with fail
        refine (HKN.out _).mono ?_
        rintro e w5 ⟨rfl, b5⟩
        have B5 := Lib.hid (tr B4.out b5)
        clear b5
        go_wp2_with fail
        go_returns
        exact ⟨rfl, B5.out⟩
      · have i2 : ¬ (4096 : Int) < (j : Int) := by omega
        have hru : Ru wr (some ⟨w.heap.size, 0, none⟩) (ints (cyc k j)) := by
          apply ru_rg
          have h := App.Row.rg RW.out
          have e : (ints (cyc k j)).map (Value.int .u32) = (List.range j).map fun i => .int .u32 (if i < j then ((i % k : Nat) : Int) else 0) := by
            unfold ints cyc
            rw [List.map_map, List.map_map]
            apply List.map_congr_left
            intro i hi
            rw [if_pos (List.mem_range.1 hi)]
            rfl
          rw [e]
          exact h
        have HRU := Lib.hid hru
        have hT := cyc_len k j
        have hw := cyc_lt (n := j) HL.out.2.2.1 HL.out.2.2.2
        have hj4 : j ≤ 4096 := by omega
        have hkj : k ≤ j := by have := HL.out; omega
        have HA := Lib.hid (Distances_any (c := j) hT hj4 hru hw)
        have HB := Lib.hid (fun (v : World) (hb : Below wr.heap.size wr v) => Hits_any (c := j) hT hj4 (HRU.out.below hb) hw)
        have HC := Lib.hid (fun (v : World) (hb : Below wr.heap.size wr v) => Least_any (c := j) (h := -1) hT hj4 (HRU.out.below hb) hw)
        have HD := Lib.hid (fun (v : World) (hb : Below wr.heap.size wr v) => Stack_any (c := j) hT hj4 (HRU.out.below hb) hw)
        rw [cyc_stk HL.out.2.2.1 hkj] at HB HC HD
        have hls : lst (dists [] (cyc k j)) k (-1) = (0, 2) := by unfold lst; rw [if_pos (by omega)]
        rw [hls] at HC
        obtain ⟨ds, hds⟩ : ∃ ds, dists [] (cyc k j) = ds := ⟨_, rfl⟩
        have HDS := Lib.hid (show ds.length = j ∧ (∀ i, i < j → ds[i]? = some (if i < k then (-1 : Int) else (k : Int) - 1)) ∧ (∀ i, i < k → upto ds i = 0) ∧ (upto ds k : Int) = (j : Int) - (k : Int) from by
          rw [← hds]
          exact ⟨by rw [dists_len]; exact hT, fun i hi => cyc_at HL.out.2.2.1 hi, fun i hi => cyc_less HL.out.2.2.1 hi, cyc_full HL.out.2.2.1 hkj⟩)
        rw [hds] at HA HB
        obtain ⟨k1, hk1⟩ : ∃ k1, k + 1 = k1 := ⟨_, rfl⟩
        rw [hk1] at HB
        have HK1 := Lib.hid (show k + 1 = k1 ∧ k ≤ j from ⟨hk1, hkj⟩)
        have wk : IntKind.i64.wrap ((k : Int) + 1) = (k1 : Int) := by rw [IntWalk.i64_in _ (by have := HL.out; omega)]; omega
        clear hlong RW hru hT hw hj4 hkj hls hds hk1
        go_wp2_with fail
        refine HA.out.mono ?_
        rintro e w1 ⟨lv, rfl, row, b1⟩
        obtain ⟨dp, dc, rfl, ri, -⟩ := own_ri row
        have D1 := Lib.hid ri
        have B1 := Lib.hid b1
        clear row ri b1 HA
        go_wp2_with fail
        refine (HB.out _ B1.out).mono ?_
        rintro e w2 ⟨g, rfl, -, row, b2⟩
        have H2 := Lib.hid row
        have D2 := Lib.hid (D1.out.below b2)
        have B2 := Lib.hid (tr B1.out b2)
        clear row b2 D1 B1 HB
        go_wp2_with fail
        refine (HC.out _ B2.out).mono ?_
        rintro e w3 ⟨rfl, b3⟩
        have H3 := Lib.hid (H2.out.below b3)
        have D3 := Lib.hid (D2.out.below b3)
        have B3 := Lib.hid (tr B2.out b3)
        clear b3 D2 B2 H2 HC
        go_wp2_with fail
        refine (HD.out _ B3.out).mono ?_
        rintro e w4 ⟨sv, rfl, row, b4⟩
        obtain ⟨sp, sc, rfl, -, -⟩ := own_ru row
        have H4 := Lib.hid (H3.out.below b4)
        have D4 := Lib.hid (D3.out.below b4)
        have B4 := Lib.hid (tr BV.out (tr B3.out b4))
        clear row b4 D3 B3 H3 HD
        go_wp2_with fail
        clear wk
        go_loopw [15] (fun iv V => ∃ i : Nat, i ≤ j ∧ iv = .int .i64 (i : Int) ∧ w4 = V) (fun iv _ => j - (intOf iv).toNat)
        case atStart => exact ⟨0, Nat.zero_le _, rfl, rfl⟩
        case round =>
          obtain ⟨i, hi, rfl, rfl⟩ := hrel
          by_cases hij : i < j
          · have j1 : (i : Int) < (j : Int) := by omega
            have j0 : (0 : Int) ≤ (i : Int) := by omega
            have wj := IntWalk.i64_in ((i : Int) + 1) (by have := HL.out; omega)
            have HIJ := Lib.hid hij
            by_cases hik : i < k
            · have j2 : (i : Int) < (k : Int) := by omega
              have j3 : ¬ (k : Int) ≤ (i : Int) := by omega
              obtain ⟨y, rfl, -, e0⟩ := D4.out i (-1) (by rw [HDS.out.2.1 i hij, if_pos hik])
              clear hik hij hi
              go_wp2_with fail
              go_roundw
              case rel => exact ⟨i + 1, by have := HIJ.out; omega, by go_num, trivial⟩
              case measure => have := HIJ.out; simp [intOf]; omega
            · have j2 : ¬ (i : Int) < (k : Int) := by omega
              have j3 : (k : Int) ≤ (i : Int) := by omega
              obtain ⟨z, hz⟩ : ∃ z : Int, (k : Int) - 1 = z := ⟨_, rfl⟩
              obtain ⟨y, rfl, -, e0⟩ := D4.out i z (by rw [HDS.out.2.1 i hij, if_neg hik, hz])
              have wz : IntKind.i64.wrap ((k : Int) - 1) = z := by rw [IntWalk.i64_in _ (by have := HL.out; omega)]; exact hz
              clear hik hij hi hz
              go_wp2_with fail
              go_roundw
              case rel => exact ⟨i + 1, by have := HIJ.out; omega, by go_num, trivial⟩
              case measure => have := HIJ.out; simp [intOf]; omega
          · have j1 : ¬ (i : Int) < (j : Int) := by omega
            clear hij hi
            go_wp2_with fail
            go_loopw [16] (fun iv V => ∃ i : Nat, i ≤ k + 1 ∧ iv = .int .i64 (i : Int) ∧ w4 = V) (fun iv _ => k + 1 - (intOf iv).toNat)
            case atStart => exact ⟨0, Nat.zero_le _, rfl, rfl⟩
            case round =>
              obtain ⟨i, hi, rfl, rfl⟩ := hrel
              by_cases hik : i ≤ k
              · have j4 : (i : Int) ≤ (k : Int) := by omega
                have j0 : (0 : Int) ≤ (i : Int) := by omega
                have j5 : (i : Int) < (k1 : Int) := by have := HK1.out; omega
                have wj := IntWalk.i64_in ((i : Int) + 1) (by have := HL.out; omega)
                have HIK := Lib.hid hik
                have c0 := H4.out.cell i (by have := HK1.out; omega)
                by_cases hlt : i < k
                · have j6 : (i : Int) < (k : Int) := by omega
                  have j7 : ((i : Int) == (k : Int)) = false := by rw [beq_eq_false_iff_ne]; omega
                  rw [HDS.out.2.2.1 i hlt] at c0
                  clear hik hlt hi
                  go_wp2_with fail
                  go_roundw
                  case rel => exact ⟨i + 1, by have := HIK.out; omega, by go_num, trivial⟩
                  case measure => have := HIK.out; simp [intOf]; omega
                · obtain rfl : i = k := by omega
                  have j6 : ¬ (i : Int) < (i : Int) := by omega
                  obtain ⟨z, hz⟩ : ∃ z : Int, (upto ds i : Int) = z := ⟨_, rfl⟩
                  rw [hz] at c0
                  have wz : IntKind.i64.wrap ((j : Int) - (i : Int)) = z := by rw [IntWalk.i64_in _ (by have := HL.out; omega), ← hz, HDS.out.2.2.2]
                  clear hik hlt hi hz
                  go_wp2_with fail
                  go_roundw
                  case rel => exact ⟨i + 1, by have := HIK.out; omega, by go_num, trivial⟩
                  case measure => have := HIK.out; simp [intOf] <;> omega
              · have j4 : ¬ (i : Int) ≤ (k : Int) := by omega
                clear hik hi
                go_wp2_with fail
                refine (HKN.out _).mono ?_
                rintro e w5 ⟨rfl, b5⟩
                have B5 := Lib.hid (tr B4.out b5)
                clear b5
                go_wp2_with fail
                go_returns
                exact ⟨rfl, B5.out⟩
theorem llongs_any (w : World) (m k : Int) :
    Calls Try.prog 11 #[.int .i64 m, .int .i64 k] w fun e w' => e = .returned (.bool true) ∧ Below w.heap.size w w' := by
  by_cases h : m < 4094 ∨ 4098 < m ∨ k < 1 ∨ 200 < k
  · exact llongs_far h
  · obtain ⟨m', rfl⟩ := Int.eq_ofNat_of_zero_le (show 0 ≤ m by omega)
    obtain ⟨k', rfl⟩ := Int.eq_ofNat_of_zero_le (show 0 ≤ k by omega)
    exact llongs_in (by omega) (by omega) (by omega) (by omega)
end Go.Proofs.Ytbbcmheedhdlfaa.Reu
