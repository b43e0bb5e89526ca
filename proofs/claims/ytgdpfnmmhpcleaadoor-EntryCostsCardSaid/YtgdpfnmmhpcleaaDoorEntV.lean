/-
  The law of the costs (layer 4), walked.
-/
import Derived.Test.YtgdpfnmmhpcleaaDoorEntW
set_option linter.unusedVariables false
set_option linter.unusedSimpArgs false
namespace Go.Proofs.YtgdpfnmmhpcleaaDoor.Ent
open Go.RowKit Kit
def Known (w : World) : Prop := ∀ w1, Below w.heap.size w w1 → Calls Tryd.prog 33 #[] w1 fun e w' => e = .returned (.bool true) ∧ Below w1.heap.size w1 w'
set_option maxHeartbeats 1000000 in
set_option maxRecDepth 100000 in
theorem costs_bad (k : ByteArray) (n : Int) (h0 : 0 ≤ n) (h1 : n ≤ 66000) (hk : keyB k = false) (w : World) : Calls Tryd.prog 37 #[.string k, .int .i64 n, (.int .i64 0), (.int .i64 2)] w fun e w' => e = .returned (.bool true) ∧ Below w.heap.size w w' := by
  have HC := Lib.hid fun (a : Option Addr) => cost_bad k a n.toNat n.toNat hk
  have hmk := fun w => make_any (P := Tryd.prog) w 43 5 _ 1 1 (by kernel_rfl) u8_info n (by omega) (by omega) (by omega)
  go_enter Tryd.func37, Tryd.ntmps37
  go_wp2_with fail
  refine (HC.out _ _).mono ?_
  rintro e w1 ⟨rfl, rfl⟩
  go_wp2_with fail
  go_ret
  exact ⟨rfl, by go_grown⟩
set_option maxHeartbeats 2000000 in
set_option maxRecDepth 100000 in
theorem law_bad (k : ByteArray) (n : Int) (h0 : 0 ≤ n) (h1 : n ≤ 66000) (h2 : k.size ≤ 600) (hk : keyB k = false) (w : World) (hkn : Known w) : Calls Tryd.prog 7 #[.string k, .int .i64 n] w fun e w' => e = .returned (.bool true) ∧ Below w.heap.size w w' := by
  have HKN := Lib.hid hkn
  clear hkn
  have HC := Lib.hid fun (a : Option Addr) => rcost_bad k a n.toNat n.toNat hk
  have HL := Lib.hid (costs_bad k n h0 h1 hk)
  have HV := Lib.hid (valid_any k)
  have HR := Lib.hid (rvalid_any k)
  rw [hk] at HV HR
  have hmk := fun w => make_any (P := Tryd.prog) w 43 5 _ 1 1 (by kernel_rfl) u8_info n (by omega) (by omega) (by omega)
  go_enter Tryd.func7, Tryd.ntmps7
  go_wp2_with fail
  refine (HC.out _ _).mono ?_
  rintro e w1 ⟨rfl, rfl⟩
  go_wp2_with fail
  refine (HV.out _).mono ?_
  rintro e w1 ⟨rfl, rfl⟩
  go_wp2_with fail
  refine (HR.out _).mono ?_
  rintro e w1 ⟨rfl, rfl⟩
  go_wp2_with fail
  refine (HL.out _).mono ?_
  rintro e w2 ⟨rfl, q1⟩
  have Q := Lib.hid (tr (by go_grown : Below w.heap.size w _) q1)
  clear q1
  go_wp2_with fail
  refine (HKN.out _ Q.out).mono ?_
  rintro e w3 ⟨rfl, q2⟩
  go_wp2_with fail
  go_ret
  exact ⟨rfl, tr Q.out q2⟩
set_option maxHeartbeats 1000000 in
set_option maxRecDepth 100000 in
theorem costs_long (k : ByteArray) (n : Int) (h0 : 0 ≤ n) (h1 : n ≤ 66000) (hk : keyB k = true) (hl : 65536 < n) (w : World) : Calls Tryd.prog 37 #[.string k, .int .i64 n, (.int .i64 0), (.int .i64 5)] w fun e w' => e = .returned (.bool true) ∧ Below w.heap.size w w' := by
  have HC := Lib.hid fun (a : Option Addr) => cost_long k a n.toNat n.toNat hk (by omega)
  have hmk := fun w => make_any (P := Tryd.prog) w 43 5 _ 1 1 (by kernel_rfl) u8_info n (by omega) (by omega) (by omega)
  go_enter Tryd.func37, Tryd.ntmps37
  go_wp2_with fail
  refine (HC.out _ _).mono ?_
  rintro e w1 ⟨rfl, rfl⟩
  go_wp2_with fail
  go_ret
  exact ⟨rfl, by go_grown⟩
set_option maxHeartbeats 2000000 in
set_option maxRecDepth 100000 in
theorem law_long (k : ByteArray) (n : Int) (h0 : 0 ≤ n) (h1 : n ≤ 66000) (h2 : k.size ≤ 600) (hk : keyB k = true) (hl : 65536 < n) (w : World) (hkn : Known w) : Calls Tryd.prog 7 #[.string k, .int .i64 n] w fun e w' => e = .returned (.bool true) ∧ Below w.heap.size w w' := by
  have HKN := Lib.hid hkn
  clear hkn
  have HC := Lib.hid fun (a : Option Addr) => rcost_long k a n.toNat n.toNat hk (by omega)
  have HL := Lib.hid (costs_long k n h0 h1 hk hl)
  have HV := Lib.hid (valid_any k)
  have HR := Lib.hid (rvalid_any k)
  rw [hk] at HV HR
  have hmk := fun w => make_any (P := Tryd.prog) w 43 5 _ 1 1 (by kernel_rfl) u8_info n (by omega) (by omega) (by omega)
  go_enter Tryd.func7, Tryd.ntmps7
  go_wp2_with fail
  refine (HC.out _ _).mono ?_
  rintro e w1 ⟨rfl, rfl⟩
  go_wp2_with fail
  refine (HV.out _).mono ?_
  rintro e w1 ⟨rfl, rfl⟩
  go_wp2_with fail
  refine (HR.out _).mono ?_
  rintro e w1 ⟨rfl, rfl⟩
  go_wp2_with fail
  refine (HL.out _).mono ?_
  rintro e w2 ⟨rfl, q1⟩
  have Q := Lib.hid (tr (by go_grown : Below w.heap.size w _) q1)
  clear q1
  go_wp2_with fail
  refine (HKN.out _ Q.out).mono ?_
  rintro e w3 ⟨rfl, q2⟩
  go_wp2_with fail
  go_ret
  exact ⟨rfl, tr Q.out q2⟩
set_option maxHeartbeats 1000000 in
set_option maxRecDepth 100000 in
theorem costs_ok (k : ByteArray) (n : Int) (h0 : 0 ≤ n) (h1 : n ≤ 66000) (hk : keyB k = true) (hl : n ≤ 65536) (w : World) : Calls Tryd.prog 37 #[.string k, .int .i64 n, (.int .i64 (48 + k.size + n.toNat)), (.int .i64 0)] w fun e w' => e = .returned (.bool true) ∧ Below w.heap.size w w' := by
  have HC := Lib.hid fun (a : Option Addr) => cost_ok k a n.toNat n.toNat hk (by omega)
  have hmk := fun w => make_any (P := Tryd.prog) w 43 5 _ 1 1 (by kernel_rfl) u8_info n (by omega) (by omega) (by omega)
  go_enter Tryd.func37, Tryd.ntmps37
  go_wp2_with fail
  refine (HC.out _ _).mono ?_
  rintro e w1 ⟨rfl, rfl⟩
  go_wp2_with fail
  go_ret
  exact ⟨rfl, by go_grown⟩
set_option maxHeartbeats 2000000 in
set_option maxRecDepth 100000 in
theorem law_ok (k : ByteArray) (n : Int) (h0 : 0 ≤ n) (h1 : n ≤ 66000) (h2 : k.size ≤ 600) (hk : keyB k = true) (hl : n ≤ 65536) (w : World) (hkn : Known w) : Calls Tryd.prog 7 #[.string k, .int .i64 n] w fun e w' => e = .returned (.bool true) ∧ Below w.heap.size w w' := by
  have HKN := Lib.hid hkn
  clear hkn
  have HC := Lib.hid fun (a : Option Addr) => rcost_ok k a n.toNat n.toNat hk (by omega)
  have HL := Lib.hid (costs_ok k n h0 h1 hk hl)
  generalize hvv : (48 + (k.size : Int) + (n.toNat : Int)) = v at HC HL
  clear hvv
  have HV := Lib.hid (valid_any k)
  have HR := Lib.hid (rvalid_any k)
  rw [hk] at HV HR
  have hmk := fun w => make_any (P := Tryd.prog) w 43 5 _ 1 1 (by kernel_rfl) u8_info n (by omega) (by omega) (by omega)
  go_enter Tryd.func7, Tryd.ntmps7
  go_wp2_with fail
  refine (HC.out _ _).mono ?_
  rintro e w1 ⟨rfl, rfl⟩
  go_wp2_with fail
  refine (HV.out _).mono ?_
  rintro e w1 ⟨rfl, rfl⟩
  go_wp2_with fail
  refine (HR.out _).mono ?_
  rintro e w1 ⟨rfl, rfl⟩
  go_wp2_with fail
  refine (HL.out _).mono ?_
  rintro e w2 ⟨rfl, q1⟩
  have Q := Lib.hid (tr (by go_grown : Below w.heap.size w _) q1)
  clear q1
  go_wp2_with fail
  refine (HKN.out _ Q.out).mono ?_
  rintro e w3 ⟨rfl, q2⟩
  go_wp2_with fail
  go_ret
  exact ⟨rfl, tr Q.out q2⟩
set_option maxRecDepth 100000 in
theorem law_no_a (k : ByteArray) (n : Int) (h : 600 < k.size) (w : World) (hkn : Known w) : Calls Tryd.prog 7 #[.string k, .int .i64 n] w fun e w' => e = .returned (.bool true) ∧ Below w.heap.size w w' := by
  have HKN := Lib.hid hkn
  clear hkn
  go_enter Tryd.func7, Tryd.ntmps7
  go_wp2_with fail
  refine (HKN.out _ (Below.refl _ _)).mono ?_
  rintro e w3 ⟨rfl, q2⟩
  go_wp2_with fail
  go_ret
  exact ⟨rfl, q2⟩
set_option maxRecDepth 100000 in
theorem law_no_b (k : ByteArray) (n : Int) (h0 : k.size ≤ 600) (h : n < 0) (w : World) (hkn : Known w) : Calls Tryd.prog 7 #[.string k, .int .i64 n] w fun e w' => e = .returned (.bool true) ∧ Below w.heap.size w w' := by
  have HKN := Lib.hid hkn
  clear hkn
  go_enter Tryd.func7, Tryd.ntmps7
  go_wp2_with fail
  refine (HKN.out _ (Below.refl _ _)).mono ?_
  rintro e w3 ⟨rfl, q2⟩
  go_wp2_with fail
  go_ret
  exact ⟨rfl, q2⟩
set_option maxRecDepth 100000 in
theorem law_no_c (k : ByteArray) (n : Int) (h0 : k.size ≤ 600) (h : 66000 < n) (w : World) (hkn : Known w) : Calls Tryd.prog 7 #[.string k, .int .i64 n] w fun e w' => e = .returned (.bool true) ∧ Below w.heap.size w w' := by
  have HKN := Lib.hid hkn
  clear hkn
  go_enter Tryd.func7, Tryd.ntmps7
  go_wp2_with fail
  refine (HKN.out _ (Below.refl _ _)).mono ?_
  rintro e w3 ⟨rfl, q2⟩
  go_wp2_with fail
  go_ret
  exact ⟨rfl, q2⟩
theorem law_any (k : ByteArray) (n : Int) (w : World) (hkn : Known w) : Calls Tryd.prog 7 #[.string k, .int .i64 n] w fun e w' => e = .returned (.bool true) ∧ Below w.heap.size w w' := by
  by_cases c0 : 600 < k.size
  · exact law_no_a k n c0 w hkn
  by_cases c1 : n < 0
  · exact law_no_b k n (by omega) c1 w hkn
  by_cases c2 : 66000 < n
  · exact law_no_c k n (by omega) c2 w hkn
  cases hk : keyB k
  · exact law_bad k n (by omega) (by omega) (by omega) hk w hkn
  by_cases c3 : 65536 < n
  · exact law_long k n (by omega) (by omega) (by omega) hk c3 w hkn
  · exact law_ok k n (by omega) (by omega) (by omega) hk (by omega) w hkn
end Go.Proofs.YtgdpfnmmhpcleaaDoor.Ent
