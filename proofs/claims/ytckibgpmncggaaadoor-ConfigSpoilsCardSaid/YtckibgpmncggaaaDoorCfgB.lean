/-
  Configurations (layer 23): checks, parts, resizing, of the program and of the reference.
-/
import Derived.Test.YtckibgpmncggaaaDoorCfgA
import Derived.Test.YtckibgpmncggaaaDoorProg
import Derived.Test.YtckibgpmncggaaaDoorKit
import Derived.Deep.RegionWith
import Derived.BigRegion
import Derived.BigQuiet
import Derived.Deep.QuietTactic
set_option linter.unusedVariables false
set_option linter.unusedSimpArgs false
namespace Go.Proofs.YtckibgpmncggaaaDoor.Cfg
open Go Go.RowKit Kit
/-- a block of some cells, not frozen -/
def BoxA (W : World) (b : Nat) (t : TypeId) (vs : Array Value) : Prop := W.heap[b]? = some (.cells vs t (0, 0))
theorem BoxA.lt {W : World} {b : Nat} {t : TypeId} {vs : Array Value} (h : BoxA W b t vs) : b < W.heap.size := (Array.getElem?_eq_some_iff.1 h).1
theorem BoxA.cell {W : World} {b : Nat} {t : TypeId} {vs : Array Value} (h : BoxA W b t vs) (j : Nat) : W.cell? ⟨b, j, none⟩ = vs[j]? := by simp [World.cell?, show W.heap[b]? = _ from h]
theorem BoxA.frozen {W : World} {b : Nat} {t : TypeId} {vs : Array Value} (h : BoxA W b t vs) (j : Nat) : W.frozen? ⟨b, j, none⟩ = false := by simp [World.frozen?, show W.heap[b]? = _ from h]
theorem BoxA.other {W : World} {b b' : Nat} {t : TypeId} {vs : Array Value} (h : BoxA W b t vs) (hne : b ≠ b') (o : Nat) (u : Value) : BoxA (W.setCell ⟨b', o, none⟩ u) b t vs :=
  (Below.heap_setCell _ _ _ b hne).trans h
theorem BoxA.set {W : World} {b j : Nat} {t : TypeId} {vs : Array Value} (h : BoxA W b t vs) (hj : j < vs.size) (u : Value) : BoxA (W.setCell ⟨b, j, none⟩ u) b t (vs.set j u hj) := by
  obtain ⟨hlt, hk⟩ := Array.getElem?_eq_some_iff.1 h
  show (W.heap.modify b _)[b]? = _
  rw [Array.getElem?_eq_getElem (by rw [Array.size_modify]; exact hlt), Array.getElem_modify_self, hk]
  simp [Array.setIfInBounds, hj]
theorem BoxA.below {W W' : World} {b : Nat} {t : TypeId} {vs : Array Value} (h : BoxA W b t vs) (hb : Below W.heap.size W W') : BoxA W' b t vs := (hb.block b h.lt).trans h
theorem BoxA.new (W : World) (t : TypeId) (vs : Array Value) : BoxA (W.alloc (.cells vs t)) W.heap.size t vs := (MapKept.heap_alloc W _).1
/-- a configuration -/
abbrev conf (a b c d : Int) (y : Bool) : Value := .agg #[.int .i64 a, .int .i64 b, .int .i64 c, .int .u64 d, .bool y]
abbrev cells (a b c d : Int) (y : Bool) : Array Value := #[.int .i64 a, .int .i64 b, .int .i64 c, .int .u64 d, .bool y]
/-- what Check says -/
def ck (a b c : Int) : Int := if a < 1 ∨ 1048576 < a then 240 else if b < 1 ∨ 1099511627776 < b then 241 else if c < 0 ∨ 99 < c then 242 else 0
theorem ck_ok {a b c : Int} (h : ck a b c = 0) : 1 ≤ a ∧ a ≤ 1048576 ∧ 1 ≤ b ∧ b ≤ 1099511627776 ∧ 0 ≤ c ∧ c ≤ 99 := by
  unfold ck at h
  split at h
  · omega
  · split at h
    · omega
    · split at h <;> omega
theorem ok_ck {a b c : Int} (h : 1 ≤ a ∧ a ≤ 1048576 ∧ 1 ≤ b ∧ b ≤ 1099511627776 ∧ 0 ≤ c ∧ c ≤ 99) : ck a b c = 0 := by
  unfold ck
  rw [if_neg (by omega), if_neg (by omega), if_neg (by omega)]
theorem check_any (a b c d : Int) (y : Bool) (w : World) :
    Calls Tryd.prog 15 #[conf a b c d y] w fun e w' => e = .returned (.int .i64 (ck a b c)) ∧ Below w.heap.size w w' := by
  by_cases h1 : a < 1
  · rw [show ck a b c = 240 from if_pos (.inl h1)]
    go_enter Tryd.func15, Tryd.ntmps15
    go_wp2_with fail
    go_ret
    exact ⟨rfl, by go_grown⟩
  by_cases h2 : 1048576 < a
  · rw [show ck a b c = 240 from if_pos (.inr h2)]
    go_enter Tryd.func15, Tryd.ntmps15
    go_wp2_with fail
    go_ret
    exact ⟨rfl, by go_grown⟩
  have e1 : ck a b c = if b < 1 ∨ 1099511627776 < b then 241 else if c < 0 ∨ 99 < c then 242 else 0 := if_neg (by omega)
  by_cases h3 : b < 1
  · rw [e1, if_pos (.inl h3)]; clear e1
    go_enter Tryd.func15, Tryd.ntmps15
    go_wp2_with fail
    go_ret
    exact ⟨rfl, by go_grown⟩
  by_cases h4 : 1099511627776 < b
  · rw [e1, if_pos (.inr h4)]; clear e1
    go_enter Tryd.func15, Tryd.ntmps15
    go_wp2_with fail
    go_ret
    exact ⟨rfl, by go_grown⟩
  rw [if_neg (by omega)] at e1
  by_cases h5 : c < 0
  · rw [e1, if_pos (.inl h5)]; clear e1
    go_enter Tryd.func15, Tryd.ntmps15
    go_wp2_with fail
    go_ret
    exact ⟨rfl, by go_grown⟩
  by_cases h6 : 99 < c
  · rw [e1, if_pos (.inr h6)]; clear e1
    go_enter Tryd.func15, Tryd.ntmps15
    go_wp2_with fail
    go_ret
    exact ⟨rfl, by go_grown⟩
  rw [e1, if_neg (by omega)]; clear e1
  go_enter Tryd.func15, Tryd.ntmps15
  go_wp2_with fail
  go_ret
  exact ⟨rfl, by go_grown⟩
theorem rcheck_any (a b c d : Int) (y : Bool) (w : World) :
    Calls Tryd.prog 14 #[conf a b c d y] w fun e w' => e = .returned (.int .i64 (ck a b c)) ∧ Below w.heap.size w w' := by
  by_cases h1 : a < 1
  · rw [show ck a b c = 240 from if_pos (.inl h1)]
    go_enter Tryd.func14, Tryd.ntmps14
    go_wp2_with fail
    go_ret
    exact ⟨rfl, by go_grown⟩
  by_cases h2 : 1048576 < a
  · rw [show ck a b c = 240 from if_pos (.inr h2)]
    go_enter Tryd.func14, Tryd.ntmps14
    go_wp2_with fail
    go_ret
    exact ⟨rfl, by go_grown⟩
  have e1 : ck a b c = if b < 1 ∨ 1099511627776 < b then 241 else if c < 0 ∨ 99 < c then 242 else 0 := if_neg (by omega)
  by_cases h3 : b < 1
  · rw [e1, if_pos (.inl h3)]; clear e1
    go_enter Tryd.func14, Tryd.ntmps14
    go_wp2_with fail
    go_ret
    exact ⟨rfl, by go_grown⟩
  by_cases h4 : 1099511627776 < b
  · rw [e1, if_pos (.inr h4)]; clear e1
    go_enter Tryd.func14, Tryd.ntmps14
    go_wp2_with fail
    go_ret
    exact ⟨rfl, by go_grown⟩
  rw [if_neg (by omega)] at e1
  by_cases h5 : c < 0
  · rw [e1, if_pos (.inl h5)]; clear e1
    go_enter Tryd.func14, Tryd.ntmps14
    go_wp2_with fail
    go_ret
    exact ⟨rfl, by go_grown⟩
  by_cases h6 : 99 < c
  · rw [e1, if_pos (.inr h6)]; clear e1
    go_enter Tryd.func14, Tryd.ntmps14
    go_wp2_with fail
    go_ret
    exact ⟨rfl, by go_grown⟩
  rw [e1, if_neg (by omega)]; clear e1
  go_enter Tryd.func14, Tryd.ntmps14
  go_wp2_with fail
  go_ret
  exact ⟨rfl, by go_grown⟩
theorem valid_any (a b c d : Int) (y : Bool) (w : World) :
    Calls Tryd.prog 16 #[conf a b c d y] w fun e w' => e = .returned (.bool (ck a b c == 0)) ∧ Below w.heap.size w w' := by
  have HC := Lib.hid (fun w => check_any a b c d y w)
  go_enter Tryd.func16, Tryd.ntmps16
  go_wp2_with fail
  refine (HC.out _).mono ?_
  rintro e w1 ⟨rfl, b1⟩
  go_wp2_with fail
  go_ret
  exact ⟨ret_bool (by simp), tr (by go_grown) b1⟩
/-- the part -/
def part (b c : Int) : Int := if c = 0 then -1 else b * c / 100
theorem part_eq (b c : Int) (b0 : 0 ≤ b) (c0 : 0 ≤ c) : b / 100 * c + b % 100 * c / 100 = b * c / 100 := by
  have h : b * c = b % 100 * c + 100 * (b / 100 * c) := by
    rw [← Int.mul_assoc, ← Int.add_mul, Int.add_comm, Int.mul_ediv_add_emod]
  rw [h, Int.add_mul_ediv_left _ _ (by decide), Int.add_comm]
theorem mulb {b c : Int} (b0 : 0 ≤ b) (b1 : b ≤ 1099511627776) (c0 : 0 ≤ c) (c1 : c ≤ 99) : 0 ≤ b * c ∧ b * c ≤ 108851651149824 :=
  ⟨Int.mul_nonneg b0 c0, Int.mul_le_mul b1 c1 c0 (by decide)⟩
theorem wrap64 (z : Int) (h0 : -9223372036854775808 ≤ z) (h1 : z ≤ 9223372036854775807) : IntKind.i64.wrap z = z := IntWalk.i64_in z (by omega)
theorem part_ok (a b c d : Int) (y : Bool) (hc : ck a b c = 0) (w : World) :
    Calls Tryd.prog 27 #[conf a b c d y] w fun e w' => e = .returned (.tuple #[.int .i64 (part b c), .int .i64 0]) ∧ Below w.heap.size w w' := by
  have HC := Lib.hid (fun w => check_any a b c d y w)
  obtain ⟨-, -, q1, q2, q3, q4⟩ := ck_ok hc
  rw [hc] at HC
  by_cases h0 : c = 0
  · have HP := Lib.hid (show part b c = -1 from if_pos h0)
    subst h0
    clear q1 q2 q3 q4 hc
    go_enter Tryd.func27, Tryd.ntmps27
    go_wp2_with fail
    refine (HC.out _).mono ?_
    rintro e w1 ⟨rfl, b1⟩
    obtain ⟨k1, -, -⟩ := bcell b1
    have c1 : w1.cell? ⟨w.heap.size, 2, none⟩ = some (.int .i64 0) := by
      rw [k1 _ _ (by simp)]; unfold World.cell?; rw [(MapKept.heap_alloc w _).1]; rfl
    go_wp2_with fail
    go_ret2
    exact ⟨by rw [HP.out]; rfl, tr (by go_grown) b1⟩
  · have HP := Lib.hid (show part b c = b * c / 100 from if_neg h0)
    obtain ⟨m0, m1⟩ := mulb (by omega) q2 q3 q4
    have hz : (c == 0) = false := by rw [beq_eq_false_iff_ne]; exact h0
    generalize hm : b * c = m at *
    have HM := Lib.hid hm
    clear hm
    have hw : IntKind.i64.wrap (b * c) = m := by rw [HM.out]; exact wrap64 m (by omega) (by omega)
    have ht : m.tdiv 100 = m / 100 := Int.tdiv_eq_ediv_of_nonneg m0
    have hw2 : IntKind.i64.wrap (m / 100) = m / 100 := wrap64 _ (by omega) (by omega)
    clear q1 q2 q3 q4 hc
    go_enter Tryd.func27, Tryd.ntmps27
    go_wp2_with fail
    refine (HC.out _).mono ?_
    rintro e w1 ⟨rfl, b1⟩
    obtain ⟨k1, -, s1⟩ := bcell b1
    have c1 : w1.cell? ⟨w.heap.size, 1, none⟩ = some (.int .i64 b) := by
      rw [k1 _ _ (by simp)]; unfold World.cell?; rw [(MapKept.heap_alloc w _).1]; rfl
    have c2 : w1.cell? ⟨w.heap.size, 2, none⟩ = some (.int .i64 c) := by
      rw [k1 _ _ (by simp)]; unfold World.cell?; rw [(MapKept.heap_alloc w _).1]; rfl
    go_wp2_with fail
    go_ret2
    exact ⟨by rw [HP.out]; rfl, tr (by go_grown) b1⟩
theorem part_bad (a b c d : Int) (y : Bool) (hc : ¬ ck a b c = 0) (w : World) :
    Calls Tryd.prog 27 #[conf a b c d y] w fun e w' => e = .returned (.tuple #[.int .i64 0, .int .i64 (ck a b c)]) ∧ Below w.heap.size w w' := by
  have HC := Lib.hid (fun w => check_any a b c d y w)
  generalize ck a b c = r at *
  have hr : (r == 0) = false := by rw [beq_eq_false_iff_ne]; exact hc
  go_enter Tryd.func27, Tryd.ntmps27
  go_wp2_with fail
  refine (HC.out _).mono ?_
  rintro e w1 ⟨rfl, b1⟩
  go_wp2_with fail
  go_ret2
  exact ⟨rfl, tr (by go_grown) b1⟩
theorem rpart_any (a b c d : Int) (y : Bool) (hc : ck a b c = 0) (w : World) :
    Calls Tryd.prog 20 #[conf a b c d y] w fun e w' => e = .returned (.int .i64 (part b c)) ∧ Below w.heap.size w w' := by
  obtain ⟨-, -, q1, q2, q3, q4⟩ := ck_ok hc
  by_cases h0 : c = 0
  · have HP := Lib.hid (show part b c = -1 from if_pos h0)
    subst h0
    clear q1 q2 q3 q4 hc
    go_enter Tryd.func20, Tryd.ntmps20
    go_wp2_with fail
    go_ret
    exact ⟨by rw [HP.out]; rfl, by go_grown⟩
  · have HP := Lib.hid (show part b c = b / 100 * c + b % 100 * c / 100 from (if_neg h0).trans (part_eq b c (by omega) q3).symm)
    have hz : (c == 0) = false := by rw [beq_eq_false_iff_ne]; exact h0
    have t1 : b.tdiv 100 = b / 100 := Int.tdiv_eq_ediv_of_nonneg (by omega)
    have t2 : b.tmod 100 = b % 100 := Int.tmod_eq_emod_of_nonneg (by omega)
    obtain ⟨m0, m1⟩ := mulb (b := b / 100) (c := c) (by omega) (by omega) q3 q4
    obtain ⟨n0, n1⟩ := mulb (b := b % 100) (c := c) (by omega) (by omega) q3 q4
    have v1 : IntKind.i64.wrap (b / 100) = b / 100 := wrap64 _ (by omega) (by omega)
    have v2 : IntKind.i64.wrap (b % 100) = b % 100 := wrap64 _ (by omega) (by omega)
    generalize hm : b / 100 * c = m at *
    generalize hn : b % 100 * c = n at *
    have HM := Lib.hid hm
    have HN := Lib.hid hn
    clear hm hn
    have u1 : IntKind.i64.wrap (b / 100 * c) = m := by rw [HM.out]; exact wrap64 m (by omega) (by omega)
    have u2 : IntKind.i64.wrap (b % 100 * c) = n := by rw [HN.out]; exact wrap64 n (by omega) (by omega)
    have t3 : n.tdiv 100 = n / 100 := Int.tdiv_eq_ediv_of_nonneg n0
    have v3 : IntKind.i64.wrap (n / 100) = n / 100 := wrap64 _ (by omega) (by omega)
    have v4 : IntKind.i64.wrap (m + n / 100) = m + n / 100 := wrap64 _ (by omega) (by omega)
    clear q1 q2 q3 q4 hc
    go_enter Tryd.func20, Tryd.ntmps20
    go_wp2_with fail
    go_ret
    exact ⟨by rw [HP.out]; rfl, by go_grown⟩
end Go.Proofs.YtckibgpmncggaaaDoor.Cfg
