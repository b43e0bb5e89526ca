/-
  Second chance (layer 31): Has, Len, Size, Hand, Drop, put, advance.
-/
import Derived.Test.YteppcjolgpdenaaSeqB
set_option linter.unusedVariables false
set_option linter.unusedSimpArgs false
namespace Go.Proofs.Yteppcjolgpdenaa.Seq
open Go Go.RowKit Kit Go.Maps
theorem und_map : Try.prog.underlying 56 = some (.map 40 3) := by kernel_rfl
theorem und_u32 : Try.prog.underlying 40 = some (.int .u32) := by kernel_rfl
theorem und_int : Try.prog.underlying 3 = some (.int .i64) := by kernel_rfl
theorem wf32 {k : Int} (h0 : 0 ≤ k) (h1 : k < 4294967296) : (Lit.int .u32 k).wf = true := by
  show (decide ((0 : Int) ≤ k) && decide (k ≤ 4294967295)) = true
  simp
  omega
theorem look_map {W : World} {m N : Nat} {D : DataW Unit} {l : List Pl} (h3 : W.ownsMap Try.prog 40 (plainElem Try.prog 3) m N D) (h4 : Mp D l) (k : Int) (hk : (Lit.int .u32 k).wf = true) :
    ∃ v : Int, (Instr.lookup 56 (.map (some m)) (.int .u32 k) true).run Try.prog W = .ok (.tuple #[.int .i64 v, .bool (find l k).isSome]) W ∧ ∀ i, find l k = some i → v = (i : Int) := by
  have K := Maps.int_keyed (P := Try.prog) und_u32
  have hkey := Maps.keyOf_int_mk (P := Try.prog) und_u32 hk
  have hz : (zeroValue 3).run Try.prog W = .ok (.int .i64 0) W := by kernel_rfl
  obtain ⟨v, ps, hrun, hR⟩ := h3.look_ok K und_map hz (plainElem_int und_int (by decide)) hkey
  obtain ⟨c, rfl, hc, -⟩ := plainElem_int_inv und_int hR
  cases hf : find l k with
  | none =>
    have hh := h4.no k (find_none hf)
    exact ⟨c, by rw [hrun, hh]; rfl, fun i hi => by cases hi⟩
  | some i =>
    obtain ⟨hh, ha⟩ := h4.at_ k i (find_at hf)
    refine ⟨c, by rw [hrun, hh]; rfl, fun j hj => ?_⟩
    cases hj
    have h1 := ha (.lit (.int .i64 0))
    have h2 := congrArg Prod.fst hc
    simp only at h2
    rw [h1] at h2
    injection h2 with h2
    injection h2 with h2
    omega
set_option maxRecDepth 100000 in
theorem Sc.has {W : World} {c lo hi : Nat} {l : List Pl} {h : Nat} (H : Sc W c lo hi l h) (k : Int) (hk : (Lit.int .u32 k).wf = true) :
    Calls Try.prog 15 #[.pointer (some ⟨c, 0, none⟩), .int .u32 k] W fun e w' => e = .returned (.bool (find l k).isSome) ∧ W = w' := by
  have HZ := Lib.hid H.zero
  obtain ⟨⟨q, m, cap, N, D, h1, h2, h3, h4, -⟩, -⟩ := H
  obtain ⟨v, hlk, -⟩ := look_map h3 h4 k hk
  have k0 : W.cell? ⟨c, 2, none⟩ = some (.map (some m)) := by simp [World.cell?, h1]
  generalize (find l k).isSome = b at *
  clear h1 h2 h3 h4
  go_enter Try.func15, Try.ntmps15
  go_wp2_with fail
  refine HZ.out.mono ?_
  rintro e w1 ⟨rfl, rfl⟩
  go_wp2_with fail
  go_ret
  exact ⟨rfl, rfl⟩
theorem Sc.handR {W : World} {c lo hi : Nat} {l : List Pl} {h : Nat} (H : Sc W c lo hi l h) :
    Calls Try.prog 25 #[.pointer (some ⟨c, 0, none⟩)] W fun e w' => e = .returned (.int .i64 (h : Int)) ∧ W = w' := by
  have HZ := Lib.hid H.zero
  obtain ⟨⟨q, m, cap, N, D, h1, -⟩, -⟩ := H
  have k0 : W.cell? ⟨c, 1, none⟩ = some (.int .i64 (h : Int)) := by simp [World.cell?, h1]
  clear h1
  go_enter Try.func25, Try.ntmps25
  go_wp2_with fail
  refine HZ.out.mono ?_
  rintro e w1 ⟨rfl, rfl⟩
  go_wp2_with fail
  go_ret
  exact ⟨rfl, rfl⟩
theorem Sc.sizeR {W : World} {c lo hi : Nat} {l : List Pl} {h : Nat} (H : Sc W c lo hi l h) :
    Calls Try.prog 26 #[.pointer (some ⟨c, 0, none⟩)] W fun e w' => e = .returned (.int .i64 (l.length : Int)) ∧ W = w' := by
  have HZ := Lib.hid H.zero
  obtain ⟨⟨q, m, cap, N, D, h1, -⟩, -⟩ := H
  have k0 : W.cell? ⟨c, 0, none⟩ = some (.slice (some ⟨q, 0, none⟩) l.length cap) := by simp [World.cell?, h1]
  clear h1
  go_enter Try.func26, Try.ntmps26
  go_wp2_with fail
  refine HZ.out.mono ?_
  rintro e w1 ⟨rfl, rfl⟩
  go_wp2_with fail
  go_ret
  exact ⟨rfl, rfl⟩
set_option maxRecDepth 100000 in
theorem Sc.lenR {W : World} {c lo hi : Nat} {l : List Pl} {h : Nat} (H : Sc W c lo hi l h) :
    Calls Try.prog 14 #[.pointer (some ⟨c, 0, none⟩)] W fun e w' => e = .returned (.int .i64 (full l : Int)) ∧ W = w' := by
  have HZ := Lib.hid H.zero
  obtain ⟨⟨q, m, cap, N, D, h1, h2, h3, h4, -⟩, -⟩ := H
  have k0 : W.cell? ⟨c, 2, none⟩ = some (.map (some m)) := by simp [World.cell?, h1]
  have hlm : (Builtin.len_ #[56] 3 #[.map (some m)]).run Try.prog W = .ok (.int .i64 (full l : Int)) W := by
    rw [h3.len und_map, h4.size]
  clear h1 h2 h3 h4
  go_enter Try.func14, Try.ntmps14
  go_wp2_with fail
  refine HZ.out.mono ?_
  rintro e w1 ⟨rfl, rfl⟩
  go_wp2_with fail
  go_ret
  exact ⟨rfl, rfl⟩
end Go.Proofs.Yteppcjolgpdenaa.Seq
