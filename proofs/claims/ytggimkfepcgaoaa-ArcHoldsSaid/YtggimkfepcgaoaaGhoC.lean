/-
  Ghost lists (layer 28): 'append(s, make([]T, n)...)' onto an owned row: the row.
-/
import Derived.Test.YtggimkfepcgaoaaGhoB
set_option linter.unusedVariables false
set_option linter.unusedSimpArgs false
namespace Go.Proofs.Ytggimkfepcgaoaa.Gho
open Go Go.RowKit Kit Go.Maps Lnk
theorem zeros_list (z : Value) (n : Nat) : (Builtin.zeroCells #[z] n).toList = List.replicate n z := by
  refine List.eq_replicate_iff.2 ⟨by rw [Array.length_toList, size_zeroCells]; simp, fun u hu => ?_⟩
  simp [Builtin.zeroCells] at hu
  obtain ⟨a, _, rfl⟩ := hu
  simp [Nat.mod_one]
theorem run_append_zeros2 {P : Program} (w : World) (t tn ty e : TypeId) (i : TypeInfo) (z : Value) (ht : P.underlying t = some (.slice e)) (htn : P.underlying tn = some (.int .i64)) (hi : P.info? e = some i) (hz : i.zero = some z) (hs1 : i.size = 1) (hzc : z.cells = #[z]) (hz1 : z.oneCell' = true) (hb4 : i.bytes ≤ 100000)
    (base : Nat) (hbase : base ≤ w.heap.size) {g cap : Nat} (m : Nat) (xs : List Value) (hown : w.ownsRow base e 1 (.slice (some ⟨g, 0, none⟩) m cap) m xs) (n : Nat) (h0 : 0 < n) (hn : m + n ≤ 100000000) :
    ∃ g' k w', (Builtin.append_ #[t, tn] ty #[.slice (some ⟨g, 0, none⟩) m cap, .int .i64 (n : Int)]).run P w = .ok (.slice (some ⟨g', 0, none⟩) (m + n) k) w' ∧ w'.ownsRow base e 1 (.slice (some ⟨g', 0, none⟩) (m + n) k) (m + n) (xs ++ List.replicate n z) ∧ (g' = g ∨ w.heap.size ≤ g') ∧ Kp (fun k => k = g) w w' := by
  have hbn : n * i.bytes ≤ 281474976710656 := by
    have := Nat.mul_le_mul (show n ≤ 100000000 by omega) hb4
    omega
  have hbm : (m + n) * i.bytes ≤ 140737488355328 := by
    have := Nat.mul_le_mul hn hb4
    omega
  have hn0 : n ≠ 0 := by omega
  have hw : IntKind.i64.wrap (n : Int) = n := by rw [IntKind.wrap_i64]; omega
  have hneg : ¬ ((n : Int) < 0) := by omega
  have h48i : ¬ (281474976710656 < (n : Int) * (i.bytes : Int)) := by rw [← Int.natCast_mul]; omega
  have hns : ¬ (n * i.size = 0) := by rw [hs1]; omega
  have hxl := hown.1
  rcases hown.2 with ⟨hv, -⟩ | ⟨g2, cap2, cur, hv, hbg, hg, hnc, hcm, hcs, htake⟩
  · cases hv
  · cases hv
    have hgb : base ≤ g := hbg
    by_cases hroom : m + n ≤ cap
    · have hzl : (Builtin.zeroCells #[z] n).toList.length = n := by rw [Array.length_toList, size_zeroCells]; simp
      have h1 : ∀ u ∈ (Builtin.zeroCells #[z] n).toList, u.oneCell' = true := fun u hu => by
        simp [Builtin.zeroCells] at hu
        obtain ⟨a, _, rfl⟩ := hu
        simpa [Nat.mod_one] using hz1
      have hst := run_storeCells_at P g m e (Builtin.zeroCells #[z] n).toList 0 cur w hg (by rw [hzl]; simp; omega) h1
      simp only [Nat.add_zero] at hst
      refine ⟨g, cap, w.setRow g (cur.toList.take m ++ (Builtin.zeroCells #[z] n).toList ++ cur.toList.drop (m + (Builtin.zeroCells #[z] n).toList.length)).toArray, ?_, ?_, .inl rfl, ?_⟩
      · simp [Builtin.append_, run_underlying ht, run_underlying htn, sizeOf, typeInfo, zeroValue, hi, hz, asInt, asIntOf, hw, hneg, hns, hn0, hs1, h48i, hroom, hzc, Addr.add_lit, hst]
      · rw [Nat.mul_one] at htake
        refine ⟨by simp [hxl], .inr ⟨g, cap, _, rfl, hbg, setRow_heap w g cur _ e (0, 0) hg, hroom, hcm, ?_, ?_⟩⟩
        · simp [size_zeroCells]; omega
        · rw [htake, zeros_list, Nat.mul_one]
          simp only [List.append_assoc]
          rw [← List.append_assoc, List.take_left' (by simp [hxl])]
      · refine ⟨rfl, rfl, rfl, by simp, fun k hk hne => ?_⟩
        exact setRow_other w g k _ hne
    · have hnr : ¬ (m + n ≤ cap) := hroom
      have h63' : ¬ (9223372036854775807 < ((m : Int) + (n : Int))) := by omega
      have h48' : ¬ (281474976710656 < Builtin.nextslicecap (m + n) cap * i.bytes) := by
        have := growslice_fits (show cap < m + n by omega) hbm
        omega
      have holds : ∀ j u, xs[j]? = some u → w.drew.cell? ((⟨g, 0, none⟩ : Addr).add j) = some u := fun j u hj => by simpa using hown.cells (g := g) rfl j u hj
      have hfo := run_firstCells_some (P := P) w.drew 1 m ⟨g, 0, none⟩ m cap xs (by rw [hown.1]) holds
      have hge := grownCap_ge w (m + n) cap e
      refine ⟨w.heap.size, grownCap w (m + n) cap e, w.drew.alloc (.cells (xs.toArray ++ Builtin.zeroCells #[z] n ++ Builtin.zeroCells #[z] (grownCap w (m + n) cap e - (m + n))) e), ?_, ?_, .inr (Nat.le_refl _), ?_⟩
      · simp [Builtin.append_, run_underlying ht, run_underlying htn, sizeOf, typeInfo, zeroValue, hi, hz, asInt, asIntOf, hw, hneg, hns, hn0, hs1, h48i, hnr, h63', h48', hzc, Question.forced, hfo, newRow, grownCap]
      · refine ⟨by simp [hxl], .inr ⟨w.heap.size, _, _, rfl, hbase, (MapKept.heap_alloc w.drew _).1, hge, grownCap_le_maxLen w (m + n) cap e (by unfold maxLen; omega), ?_, ?_⟩⟩
        · simp [size_zeroCells, hxl]; omega
        · rw [Nat.mul_one]
          simp only [Array.toList_append, List.toList_toArray, zeros_list]
          rw [List.take_left' (by simp [hxl])]
      · exact Kp.of (((Below.refl w.heap.size w).drew).alloc (Nat.le_refl _) _)
end Go.Proofs.Ytggimkfepcgaoaa.Gho
