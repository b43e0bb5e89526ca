/-
  Second chance (layer 31): put, Drop.
-/
import Derived.Test.YteppcjolgpdenaaSeqD
set_option linter.unusedVariables false
set_option linter.unusedSimpArgs false
namespace Go.Proofs.Yteppcjolgpdenaa.Seq
open Go Go.RowKit Kit Go.Maps
set_option maxRecDepth 100000 in
set_option maxHeartbeats 1000000 in
theorem put_any {W : World} {c q m cap N lo hi : Nat} {l : List Pl} {h : Nat} {D : DataW Unit} (H : So W c q m cap N lo hi l h D) {i : Nat} (hi' : i < l.length) {k : Int} (k0 : 0 ≤ k) (k1 : k < 4294967296) (hN : N < 99999) :
    Calls Try.prog 28 #[.pointer (some ⟨c, 0, none⟩), .int .i64 (i : Int), .int .u32 k] W fun e w' => e = .returned (.tuple #[]) ∧ So w' c q m cap (N + 1) lo hi (l.set i ⟨k, true, false⟩) h (D.put (.int .u32 k) (.lit (.int .i64 (i : Int)))) ∧ Keep lo hi W w' := by
  obtain ⟨c0, c1, c2, cf⟩ := H.cs
  obtain ⟨H2, K2⟩ := H.put hi' ⟨k, true, false⟩ ⟨k0, k1⟩
  obtain ⟨p0, hp0⟩ : ∃ p, l[i]? = some p := ⟨_, List.getElem?_eq_getElem hi'⟩
  obtain ⟨e0, e1, e2, ef⟩ := H.row.at_ hp0
  have H2' := Lib.hid H2
  have K2' := Lib.hid K2
  have h2 := H.l2
  have hlt : (i : Int) < (l.length : Int) := by omega
  have hlo : (0 : Int) ≤ (i : Int) := by omega
  have HX := Lib.hid H
  have hcq : c ≠ q := H.d1
  have hqc : q ≠ c := Ne.symm H.d1
  have K := Maps.int_keyed (P := Try.prog) und_u32
  have hkey := Maps.keyOf_int_mk (P := Try.prog) und_u32 (wf32 k0 k1)
  have hval : plainElem (H := Unit) Try.prog 3 (.int .i64 (i : Int)) = some (.lit (.int .i64 (i : Int)), []) := plainElem_int und_int (by
    show (decide ((-9223372036854775808 : Int) ≤ (i : Int)) && decide ((i : Int) ≤ 9223372036854775807)) = true
    simp; omega)
  have HKE := Lib.hid hkey
  have HVA := Lib.hid hval
  clear H H2 K2 hi' hp0 hkey hval
  generalize l.length = n at *
  go_enter Try.func28, Try.ntmps28
  go_wp2_with (first
    | (at_mapUpdate; refine wpList_mapUpdate_in _ rfl _ _ _ 56 rfl 40 3 K und_map (plainElem Try.prog 3) m N D rfl H2'.out.map (by unfold maxLen; omega) _ _ (.int .u32 k) rfl rfl HKE.out _ [] HVA.out ?_; intro w5 ho5 ht5)
    | fail)
  obtain ⟨a1, a2⟩ := H2'.out.turn ho5 (by omega) ht5
  exact bodyPost_end (v := .tuple #[]) (results_none rfl _ _ _) rfl ⟨rfl, a1, K2'.out.trans a2⟩
def dropL (l : List Pl) (k : Int) : List Pl := match find l k with
  | some i => l.set i ⟨0, false, false⟩
  | none => l
set_option maxRecDepth 100000 in
set_option maxHeartbeats 1000000 in
theorem drop_any {W : World} {c lo hi : Nat} {l : List Pl} {h : Nat} (H0 : Sc W c lo hi l h) {k : Int} (k0 : 0 ≤ k) (k1 : k < 4294967296) :
    Calls Try.prog 13 #[.pointer (some ⟨c, 0, none⟩), .int .u32 k] W fun e w' => e = .returned (.tuple #[.bool (find l k).isSome, .int .i64 0]) ∧ Sc w' c lo hi (dropL l k) h ∧ Keep lo hi W w' := by
  have HZ := Lib.hid H0.zero
  obtain ⟨q, m, cap, N, D, H, M⟩ := H0.so
  obtain ⟨c0, c1, c2, cf⟩ := H.cs
  have hwf := wf32 k0 k1
  obtain ⟨v, hlk, hv⟩ := look_map H.map M k hwf
  cases hf : find l k with
  | none =>
    have HD := Lib.hid (show dropL l k = l from by unfold dropL; rw [hf])
    rw [hf] at hlk
    have HS := Lib.hid H0
    clear H H0 M hv hf
    go_enter Try.func13, Try.ntmps13
    go_wp2_with fail
    refine HZ.out.mono ?_
    rintro e w1 ⟨rfl, rfl⟩
    go_wp2_with fail
    go_ret2
    exact ⟨rfl, by rw [HD.out]; exact HS.out, Keep.refl _ _ _⟩
  | some i =>
    have HD := Lib.hid (show dropL l k = l.set i ⟨0, false, false⟩ from by unfold dropL; rw [hf])
    have hA := find_at hf
    have hi' := hA.lt
    obtain ⟨p0, hp0, pf, pk⟩ := hA
    rw [hf] at hlk
    obtain rfl := hv i hf
    obtain ⟨e0, e1, e2, ef⟩ := H.row.at_ hp0
    obtain ⟨H2, K2⟩ := H.put hi' ⟨0, false, false⟩ ⟨by show (0 : Int) ≤ 0; omega, by show (0 : Int) < 4294967296; omega⟩
    have h2 := H.l2
    have hlt : (i : Int) < (l.length : Int) := by omega
    have hlo : (0 : Int) ≤ (i : Int) := by omega
    have hnb := H.nb
    have hcq : c ≠ q := H.d1
    have hqc : q ≠ c := Ne.symm H.d1
    have K := Maps.int_keyed (P := Try.prog) und_u32
    have HKE := Lib.hid (Maps.keyOf_int_mk (P := Try.prog) und_u32 hwf)
    have H2' := Lib.hid H2
    have K2' := Lib.hid K2
    have HM := Lib.hid (M.del (H.map.tidy K) hp0 pf pk ⟨0, false, false⟩ rfl)
    clear H H0 M hv hf H2 K2 hi' hp0 pf pk
    generalize l.length = n at *
    go_enter Try.func13, Try.ntmps13
    go_wp2_with fail
    refine HZ.out.mono ?_
    rintro e w1 ⟨rfl, rfl⟩
    go_wp2_with (first
      | (at_delete; refine wpList_delete_own _ rfl _ _ 56 40 rfl 3 K und_map (plainElem Try.prog 3) m N D rfl H2'.out.map _ (.int .u32 k) rfl HKE.out ?_; intro w5 ho5 ht5)
      | fail)
    obtain ⟨a1, a2⟩ := H2'.out.turn ho5 hnb ht5
    go_ret2
    exact ⟨rfl, by rw [HD.out]; exact a1.sc HM.out, K2'.out.trans a2⟩
end Go.Proofs.Yteppcjolgpdenaa.Seq
