/-
  Walks over package entry (layer 4) and its reference: keys and costs.
-/
import Derived.Test.YtdhdaknfmpfegaaProg
import Derived.Test.YtdhdaknfmpfegaaKit
import Derived.Carry
import Derived.BigQuiet
import Derived.Deep.QuietTactic
set_option linter.unusedVariables false
set_option linter.unusedSimpArgs false
namespace Go.Proofs.Ytdhdaknfmpfegaa.Ent
open Go.RowKit Kit
/-- 'make([]byte, n)', n open -/
theorem make_any {P : Program} (w : World) (t e : TypeId) (z : Value) (s bytes : Nat) (ht : P.underlying t = some (.slice e)) (hinfo : (P.info? e).map (fun i => (i.zero, i.size, i.bytes)) = some (some z, s, bytes))
    (n : Int) (h0 : 0 ≤ n) (h1 : n ≤ 1000000) (hb : bytes ≤ 1000000) :
    (Instr.makeSlice t (.int .i64 n) (.int .i64 n)).run P w = .ok (.slice (some ⟨w.heap.size, 0, none⟩) n.toNat n.toNat) (w.alloc (.cells (madeCells z.cells (n.toNat * s)) e)) := by
  obtain ⟨i, hi, hzz⟩ := Option.map_eq_some_iff.1 hinfo
  simp only [Prod.mk.injEq] at hzz
  obtain ⟨hz, hs, hb'⟩ := hzz
  have hbb : (i.bytes : Int) * n ≤ 281474976710656 := by
    rw [hb']
    have h2 : (bytes : Int) ≤ 1000000 := by omega
    have := Int.mul_le_mul h2 h1 h0 (by omega)
    omega
  have hr := run_make (P := P) w t e i z ht hi hz .i64 .i64 n n h0 (Int.le_refl _) hbb (by omega)
  rw [hs] at hr
  exact hr
theorem u8_info : (Try.prog.info? 5).map (fun i => (i.zero, i.size, i.bytes)) = some (some (.int .u8 0), 1, 1) := by kernel_rfl
def keyB (k : ByteArray) : Bool := decide (1 ≤ k.size) && decide (k.size ≤ 250)
theorem valid_any (k : ByteArray) (w : World) : Calls Try.prog 50 #[.string k] w fun e w' => e = .returned (.bool (keyB k)) ∧ w = w' := by
  go_enter Try.func50, Try.ntmps50
  go_wp2
  all_goals (go_ret; refine ⟨ret_bool ?_, rfl⟩)
  all_goals (unfold keyB; first | (simp_all; done) | (simp; omega) | omega | (rw [Bool.eq_iff_iff]; simp; omega) | trace_state)
theorem rvalid_any (k : ByteArray) (w : World) : Calls Try.prog 48 #[.string k] w fun e w' => e = .returned (.bool (keyB k)) ∧ w = w' := by
  go_enter Try.func48, Try.ntmps48
  go_wp2
  all_goals (go_ret; refine ⟨ret_bool ?_, rfl⟩)
  all_goals (unfold keyB; first | (simp_all; done) | (simp; omega) | omega | (rw [Bool.eq_iff_iff]; simp; omega) | trace_state)
set_option maxRecDepth 100000 in
theorem cost_bad (k : ByteArray) (a : Option Addr) (l c : Nat) (hk : keyB k = false) (w : World) : Calls Try.prog 49 #[.string k, .slice a l c] w fun e w' => e = .returned (.tuple #[.int .i64 0, .int .i64 2]) ∧ w = w' := by
  have HV := Lib.hid (valid_any k)
  rw [hk] at HV
  go_enter Try.func49, Try.ntmps49
  go_wp2_with fail
  refine (HV.out _).mono ?_
  rintro e w1 ⟨rfl, rfl⟩
  go_wp2_with fail
  go_ret2
  exact ⟨rfl, rfl⟩
set_option maxRecDepth 100000 in
theorem cost_long (k : ByteArray) (a : Option Addr) (l c : Nat) (hk : keyB k = true) (hl : 65536 < l) (w : World) : Calls Try.prog 49 #[.string k, .slice a l c] w fun e w' => e = .returned (.tuple #[.int .i64 0, .int .i64 5]) ∧ w = w' := by
  have HV := Lib.hid (valid_any k)
  rw [hk] at HV
  go_enter Try.func49, Try.ntmps49
  go_wp2_with fail
  refine (HV.out _).mono ?_
  rintro e w1 ⟨rfl, rfl⟩
  go_wp2_with fail
  go_ret2
  exact ⟨rfl, rfl⟩
set_option maxRecDepth 100000 in
theorem cost_ok (k : ByteArray) (a : Option Addr) (l c : Nat) (hk : keyB k = true) (hl : l ≤ 65536) (w : World) : Calls Try.prog 49 #[.string k, .slice a l c] w fun e w' => e = .returned (.tuple #[.int .i64 (48 + k.size + l), .int .i64 0]) ∧ w = w' := by
  have hk2 : k.size ≤ 250 ∧ 1 ≤ k.size := by unfold keyB at hk; simp at hk; omega
  have HV := Lib.hid (valid_any k)
  rw [hk] at HV
  go_enter Try.func49, Try.ntmps49
  go_wp2_with fail
  refine (HV.out _).mono ?_
  rintro e w1 ⟨rfl, rfl⟩
  go_wp2_with fail
  go_ret2
  exact ⟨by first | rfl | (congr 4; omega) | (simp; omega), rfl⟩
set_option maxRecDepth 100000 in
theorem check_bad (k : ByteArray) (a : Option Addr) (l c : Nat) (hk : keyB k = false) (w : World) : Calls Try.prog 44 #[.string k, .slice a l c, .int .u64 1] w fun e w' => e = .returned (.int .i64 2) ∧ w = w' := by
  have HV := Lib.hid (rvalid_any k)
  rw [hk] at HV
  go_enter Try.func44, Try.ntmps44
  go_wp2_with fail
  refine (HV.out _).mono ?_
  rintro e w1 ⟨rfl, rfl⟩
  go_wp2_with fail
  go_ret
  exact ⟨rfl, rfl⟩
set_option maxRecDepth 100000 in
theorem check_long (k : ByteArray) (a : Option Addr) (l c : Nat) (hk : keyB k = true) (hl : 65536 < l) (w : World) : Calls Try.prog 44 #[.string k, .slice a l c, .int .u64 1] w fun e w' => e = .returned (.int .i64 5) ∧ w = w' := by
  have HV := Lib.hid (rvalid_any k)
  rw [hk] at HV
  go_enter Try.func44, Try.ntmps44
  go_wp2_with fail
  refine (HV.out _).mono ?_
  rintro e w1 ⟨rfl, rfl⟩
  go_wp2_with fail
  go_ret
  exact ⟨rfl, rfl⟩
set_option maxRecDepth 100000 in
theorem check_ok (k : ByteArray) (a : Option Addr) (l c : Nat) (hk : keyB k = true) (hl : l ≤ 65536) (w : World) : Calls Try.prog 44 #[.string k, .slice a l c, .int .u64 1] w fun e w' => e = .returned (.int .i64 0) ∧ w = w' := by
  have HV := Lib.hid (rvalid_any k)
  rw [hk] at HV
  go_enter Try.func44, Try.ntmps44
  go_wp2_with fail
  refine (HV.out _).mono ?_
  rintro e w1 ⟨rfl, rfl⟩
  go_wp2_with fail
  go_ret
  exact ⟨rfl, rfl⟩
end Go.Proofs.Ytdhdaknfmpfegaa.Ent
