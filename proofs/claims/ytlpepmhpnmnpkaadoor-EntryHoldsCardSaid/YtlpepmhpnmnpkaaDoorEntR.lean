/-
  EntryTexts (layer 4): the reference's text of an entry; the law.
-/
import Derived.Test.YtlpepmhpnmnpkaaDoorEntU
import Derived.Lib.ConvBytes
import Derived.Lib.RuneBytes
set_option linter.unusedVariables false
set_option linter.unusedSimpArgs false
namespace Go.Proofs.YtlpepmhpnmnpkaaDoor.Ent
open Go Go.RowKit Kit
set_option maxRecDepth 100000 in
theorem etext_bad (k : ByteArray) (p : Option Addr) (l c : Nat) (d b : Int) (w : World) (hc : ¬ chk k l b = 0) :
    Calls Tryd.prog 25 #[ent k p l c d b] w fun e w' => e = .returned (.tuple #[.string ⟨#[]⟩, .int .i64 (chk k l b)]) ∧ Below w.heap.size w w' := by
  have HC := Lib.hid (echeck_any k p l c d b)
  generalize chk k l b = r at *
  have hr : (r == 0) = false := by rw [beq_eq_false_iff_ne]; exact hc
  go_enter Tryd.func25, Tryd.ntmps25
  go_wp2_with fail
  refine (HC.out _).mono ?_
  rintro e w1 ⟨rfl, e1⟩
  go_wp2_with fail
  go_ret2
  exact ⟨rfl, tr (by go_grown) e1⟩
theorem bytes_conv (W : World) (e : TypeId) (k : ByteArray) (hk : k.size ≤ 250) : Ev.BytesOf (Lib.bytesWorld W e k) (some ⟨W.heap.size, 0, none⟩) k.size (nums k) := by
  refine ⟨nums_length k, nums_byte k, Lib.BytesIn.of_cells fun i hi => ?_, by unfold maxLen; omega⟩
  have ha : (⟨W.heap.size, 0, none⟩ : Addr).add i = ⟨W.heap.size, i, none⟩ := by rw [Lib.add_plain, Nat.zero_add]
  rw [ha, Lib.bytesWorld_cell W e k i hi]
  have hi' : i < k.data.toList.length := by rw [Array.length_toList]; exact hi
  rw [show (nums k).getD i 0 = ((k.data.toList.getD i 0).toNat : Int) from by unfold nums; rw [List.getD_eq_getElem?_getD, List.getD_eq_getElem?_getD, List.getElem?_map, List.getElem?_eq_getElem hi']; rfl]
/-- the conversion in the reference's text -/
def convOp : Op := Op.convert 9 31 (Operand.tmp 13)
theorem rhexA (p : Option Addr) (l c : Nat) (zs : List Int) (w : World) (A : ByteArray) (hbs : Ev.BytesOf w p l zs) (hk : l ≤ 65536) (hA : strOfNums (hexT zs) = A) :
    Calls Tryd.prog 50 #[.slice p l c] w fun e w' => e = .returned (.string A) ∧ Below w.heap.size w w' := by
  rw [← hA]; exact rhex_any p l c zs w hbs hk
set_option maxRecDepth 100000 in
set_option maxHeartbeats 600000 in
theorem rtext4_any (k : ByteArray) (p : Option Addr) (l c : Nat) (zs : List Int) (d b : Int) (d0 : 0 ≤ d) (d1 : d ≤ 18446744073709551615) (b0 : 0 ≤ b) (b1 : b ≤ 18446744073709551615) (w : World) (hbs : Ev.BytesOf w p l zs) (hk : k.size ≤ 250) (hl : l ≤ 65536) :
    Calls Tryd.prog 26 #[ent k p l c d b] w fun e w' => e = .returned (.string (strOfNums (rowT k zs d b))) ∧ Below w.heap.size w w' := by
  have HN := Lib.hid (fun w1 => Num.rnumber4_any b.toNat (by omega) w1)
  rw [show ((b.toNat : Nat) : Int) = b from by omega] at HN
  have HT := Lib.hid (fun w1 => Num.rtext_any d d0 d1 w1)
  obtain ⟨V, hV⟩ : ∃ V, w.alloc (.cells #[.string k, .slice p l c, .int .u64 d, .int .u64 b] 33) = V := ⟨_, rfl⟩
  have hwV : Below w.heap.size w V := by rw [← hV]; go_grown
  have hq : w.heap.size < V.heap.size := by rw [← hV]; simp
  have HS := Lib.hid (show ∀ w1, Below V.heap.size V w1 → w1.cell? ⟨w.heap.size, 0, none⟩ = some (.string k) ∧ w1.cell? ⟨w.heap.size, 1, none⟩ = some (.slice p l c) ∧ w1.cell? ⟨w.heap.size, 2, none⟩ = some (.int .u64 d) ∧ w1.cell? ⟨w.heap.size, 3, none⟩ = some (.int .u64 b) ∧ Below V.heap.size V w1 from by
    intro w1 h
    have hh : w1.heap[w.heap.size]? = some (.cells #[.string k, .slice p l c, .int .u64 d, .int .u64 b] 33) := by rw [h.block _ hq, ← hV]; exact (MapKept.heap_alloc w _).1
    refine ⟨?_, ?_, ?_, ?_, h⟩ <;> simp [World.cell?, hh])
  have HBV := Lib.hid (fun (w1 : World) (f : Below V.heap.size V w1) => ((hbs.below hwV).below f))
  have hk' : k.size ≤ 65536 := by omega
  have hcv : ∀ W : World, (convert 9 31 (.string k)).run Tryd.prog W = .ok (.slice (some ⟨W.heap.size, 0, none⟩) k.size (grownCap W k.size 0 5)) (Lib.bytesWorld W 5 k) := fun W => Lib.run_convert_string_bytes W _ _ _ k Tryd.underlying9 Tryd.underlying31 Tryd.underlying5
  have s1 : (Num.dec b.toNat).size ≤ 20 := dec_size _ (by omega)
  have s2 : (Num.txt d).size ≤ 20 := by
    unfold Num.txt
    split
    · decide
    · exact dec_size _ (by omega)
  have s3 : (strOfNums (hexT (nums k))).size ≤ 501 := by
    rw [strOfNums_size]
    have h1 := hexT_length (nums k)
    rw [nums_length] at h1
    omega
  have s4 : (strOfNums (hexT zs)).size ≤ 131073 := by
    rw [strOfNums_size]
    have h1 := hexT_length zs
    rw [hbs.1] at h1
    omega
  have HE := Lib.hid (show strOfNums (rowT k zs d b) = Num.dec b.toNat ++ ⟨#[32]⟩ ++ Num.txt d ++ ⟨#[32]⟩ ++ strOfNums (hexT (nums k)) ++ ⟨#[32]⟩ ++ strOfNums (hexT zs) from by
    unfold rowT
    rw [strOfNums_append, strOfNums_append, strOfNums_append, strOfNums_append, strOfNums_append, strOfNums_append]
    rw [show strOfNums (nums (Num.dec b.toNat)) = Num.dec b.toNat from strOfNums_bytes _, show strOfNums (nums (Num.txt d)) = Num.txt d from strOfNums_bytes _, show strOfNums [32] = ⟨#[32]⟩ from rfl])
  have HWV := Lib.hid hwV
  have HV := Lib.hid hV
  clear hbs hwV hq hV
  generalize strOfNums (rowT k zs d b) = R at *
  generalize Num.dec b.toNat = A1 at *
  generalize Num.txt d = A2 at *
  generalize hA3 : strOfNums (hexT (nums k)) = A3 at *
  generalize hA4 : strOfNums (hexT zs) = A4 at *
  have E3 := Lib.hid hA3
  have E4 := Lib.hid hA4
  clear hA3 hA4
  have g1 : ¬ 9223372036854775807 < A1.size + 1 := by omega
  have g2 : ¬ 9223372036854775807 < A1.size + 1 + A2.size := by omega
  have g3 : ¬ 9223372036854775807 < A1.size + 1 + A2.size + 1 := by omega
  have g4 : ¬ 9223372036854775807 < A1.size + 1 + A2.size + 1 + A3.size := by omega
  have g5 : ¬ 9223372036854775807 < A1.size + 1 + A2.size + 1 + A3.size + 1 := by omega
  have g6 : ¬ 9223372036854775807 < A1.size + 1 + A2.size + 1 + A3.size + 1 + A4.size := by omega
  go_enter Tryd.func26, Tryd.ntmps26
  go_wp2_with fail
  rw [HV.out]
  have hoc : convOp = Op.convert 9 31 (Operand.tmp 13) := rfl
  rw [← hoc]
  go_region_held3 (fun w' => w'.cell? ⟨w.heap.size, 0, none⟩ = some (.string k) ∧ w'.cell? ⟨w.heap.size, 1, none⟩ = some (.slice p l c) ∧ w'.cell? ⟨w.heap.size, 2, none⟩ = some (.int .u64 d) ∧ w'.cell? ⟨w.heap.size, 3, none⟩ = some (.int .u64 b) ∧ Below V.heap.size V w')
    (first
      | (exact HS.out _ (Below.drew (Below.refl _ _)))
      | assumption
      | (exact HS.out _ (tr (by assumption : _ ∧ _ ∧ _ ∧ _ ∧ Below V.heap.size V _).2.2.2.2 o1))
      | (exact HS.out _ (tr (by assumption : _ ∧ _ ∧ _ ∧ _ ∧ Below V.heap.size V _).2.2.2.2 (Lib.bytesWorld_below _ _ _)))
      | fail)
    (first
      | (go_at_call 49; refine (HN.out _).mono ?_; rintro e w' ⟨rfl, rfl⟩)
      | (go_at_call 12; refine (HT.out _).mono ?_; rintro e w' ⟨rfl, rfl⟩)
      | (go_at_call 50
         refine (rhexA _ _ _ _ _ _ (by first | exact HBV.out _ (by assumption : _ ∧ _ ∧ _ ∧ _ ∧ Below V.heap.size V _).2.2.2.2 | exact bytes_conv _ _ k hk) (by first | exact hl | exact hk') (by first | exact E4.out | exact E3.out)).mono ?_
         rintro e w' ⟨rfl, o1⟩)
      | fail)
  all_goals (go_wp2; go_ret; exact ⟨by rw [HE.out]; rfl, HWV.out.trans (((by assumption : _ ∧ _ ∧ _ ∧ _ ∧ Below V.heap.size V _).2.2.2.2).mono HWV.out.size)⟩)
theorem chk_ok {k : ByteArray} {l : Nat} {b : Int} (h : chk k l b = 0) : k.size ≤ 250 ∧ l ≤ 65536 := by
  unfold chk at h
  split at h
  · omega
  · split at h
    · omega
    · split at h
      · omega
      · rename_i h2 h3
        have : keyB k = true := by simpa using h2
        unfold keyB at this
        simp at this
        omega
set_option maxRecDepth 100000 in
set_option maxHeartbeats 600000 in
theorem etexts_any (k : ByteArray) (p : Option Addr) (l c : Nat) (zs : List Int) (d b : Int) (d0 : 0 ≤ d) (d1 : d ≤ 18446744073709551615) (b0 : 0 ≤ b) (b1 : b ≤ 18446744073709551615) (w : World) (h : Ev.BytesOf w p l zs) (htab : Num.Tabs w)
    (HKN : ∀ w1, Below w.heap.size w w1 → Calls Tryd.prog 15 #[] w1 fun e w' => e = .returned (.bool true) ∧ Below w1.heap.size w1 w') :
    Calls Tryd.prog 6 #[ent k p l c d b] w fun e w' => e = .returned (.bool true) ∧ Below w.heap.size w w' := by
  have HK := Lib.hid HKN
  have H1 := Lib.hid h
  have HTB := Lib.hid htab
  clear HKN h htab
  go_enter Tryd.func6, Tryd.ntmps6
  go_wp2_with fail
  refine (few_one _ k p l c d b 33 (0, 0) _ (new2 w _ _)).mono ?_
  rintro e w1 ⟨rfl, e1⟩
  obtain ⟨⟨k0, k1, k2, k3, -⟩, f0, -, bel, hsz⟩ := two4 e1
  by_cases hf : (decide (k.size ≤ 600) && decide (l ≤ 600)) = true
  · rw [hf]
    have HC4 := Lib.hid (fun (w2 : World) (h2 : Below w1.heap.size w1 w2) => keep4 h2 (by omega : w.heap.size < w1.heap.size) k0 k1 k2 k3)
    have HR := Lib.hid (rcheck_any k p l c b)
    have HB := Lib.hid (fun (w2 : World) (h2 : Below w1.heap.size w1 w2) => H1.out.below (tr bel h2))
    have HT := Lib.hid (fun (w2 : World) (h2 : Below w1.heap.size w1 w2) => HTB.out.below (tr bel h2))
    have BEL := Lib.hid bel
    by_cases hc : chk k l b = 0
    · obtain ⟨hk, hl⟩ := chk_ok hc
      rw [hc] at HR
      have HP := Lib.hid (fun (w2 : World) (h2 : Below w1.heap.size w1 w2) => etext_ok k p l c zs d b d0 d1 b0 b1 w2 (HB.out w2 h2) (HT.out w2 h2) hc hk hl)
      have HQ := Lib.hid (fun (w2 : World) (h2 : Below w1.heap.size w1 w2) => rtext4_any k p l c zs d b d0 d1 b0 b1 w2 (HB.out w2 h2) hk hl)
      generalize strOfNums (rowT k zs d b) = R at *
      clear hc e1 bel f0
      go_wp2_with fail
      refine (HP.out _ (Below.refl _ _)).mono ?_
      rintro e w2 ⟨rfl, e2⟩
      obtain ⟨j0, j1, j2, j3, -⟩ := HC4.out _ e2
      go_wp2_with fail
      refine (HR.out _).mono ?_
      rintro e w3 ⟨rfl, e3⟩
      have f3 := tr e2 e3
      clear e3 j0 j1 j2 j3
      obtain ⟨j0, j1, j2, j3, -⟩ := HC4.out _ f3
      go_wp2_with fail
      refine (HQ.out _ f3).mono ?_
      rintro e w4 ⟨rfl, e4⟩
      have f4 := tr f3 e4
      go_wp2_with fail
      refine (HK.out _ (tr BEL.out f4)).mono ?_
      rintro e w5 ⟨rfl, e5⟩
      go_wp2_with fail
      go_ret
      exact ⟨rfl, tr BEL.out (tr f4 e5)⟩
    · have HP := Lib.hid (fun (w2 : World) => etext_bad k p l c d b w2 hc)
      generalize chk k l b = r at *
      have hr : (r == 0) = false := by rw [beq_eq_false_iff_ne]; exact hc
      clear e1 bel f0
      go_wp2_with fail
      refine (HP.out _).mono ?_
      rintro e w2 ⟨rfl, e2⟩
      obtain ⟨j0, j1, j2, j3, -⟩ := HC4.out _ e2
      go_wp2_with fail
      refine (HR.out _).mono ?_
      rintro e w3 ⟨rfl, e3⟩
      have f3 := tr e2 e3
      go_wp2_with fail
      refine (HK.out _ (tr BEL.out f3)).mono ?_
      rintro e w5 ⟨rfl, e5⟩
      go_wp2_with fail
      go_ret
      exact ⟨rfl, tr BEL.out (tr f3 e5)⟩
  · rw [show (decide (k.size ≤ 600) && decide (l ≤ 600)) = false from by simpa using hf]
    go_wp2_with fail
    refine (HK.out _ bel).mono ?_
    rintro e w2 ⟨rfl, e2⟩
    go_wp2_with fail
    go_ret
    exact ⟨rfl, tr bel e2⟩
end Go.Proofs.YtlpepmhpnmnpkaaDoor.Ent
