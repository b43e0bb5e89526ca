/-
  Configurations (layer 23): the law's helpers.
-/
import Derived.Test.YtckibgpmncggaaaDoorCfgJ
import Derived.Test.YtckibgpmncggaaaDoorCfgE
set_option linter.unusedVariables false
set_option linter.unusedSimpArgs false
namespace Go.Proofs.YtckibgpmncggaaaDoor.Cfg
open Go Go.RowKit Kit
theorem small_of (n : Nat) (h : (n : Int) ≤ 1099511627776) : small n = n := if_neg (by omega)
theorem n3_lt (s : List UInt8) : n3 s < 18446744073709551616 := by
  unfold n3
  exact st_small w3 w4 (r3 s)
theorem rd_d (s : List UInt8) : (rd s).d < 18446744073709551616 := by
  have h := rd_eq s
  have hn := n3_lt s
  generalize n0 s = a at *
  generalize n1 s = b at *
  generalize n2 s = c at *
  generalize n3 s = d at *
  rw [h]
  exact hn
/-- program and reference read the same -/
theorem pres_some {s : List UInt8} {a b c d : Nat} {y : Bool} (hc : ck a b c = 0) (hd : d < 18446744073709551616) (h : T a b c d y = s) : pres s = .tuple #[conf a b c d y, .int .i64 0] := by
  obtain ⟨q1, q2, q3, q4, q5, q6⟩ := ck_ok hc
  have hr : rd s = ⟨a, b, c, d, y⟩ := by rw [← h]; exact rd_T a b c d y (by omega) (by omega) (by omega) (by omega)
  have hg : good s := by
    unfold good
    rw [hr]
    simp only
    rw [small_of a (by omega), small_of b (by omega), small_of c (by omega)]
    simp only [Int.toNat_natCast]
    exact ⟨hc, h⟩
  unfold pres
  rw [if_pos hg, hr]
  simp only
  rw [small_of a (by omega), small_of b (by omega), small_of c (by omega)]
theorem pres_none {s : List UInt8} (h : ∀ a b c d : Nat, ∀ y : Bool, ck a b c = 0 → d < 18446744073709551616 → T a b c d y ≠ s) : pres s = .tuple #[conf 0 0 0 0 false, .int .i64 6] := by
  have hd : (rd s).d < 18446744073709551616 := rd_d s
  unfold pres good
  generalize rd s = r at *
  rw [if_neg]
  rintro ⟨h1, h2⟩
  obtain ⟨q1, q2, q3, q4, q5, q6⟩ := ck_ok h1
  refine h (small r.a).toNat (small r.b).toNat (small r.c).toNat r.d r.y ?_ hd h2
  rw [Int.toNat_of_nonneg (by omega), Int.toNat_of_nonneg (by omega), Int.toNat_of_nonneg (by omega)]
  exact h1
theorem pres_RP {s : List UInt8} {V : Value} {bb : Bool} (h : RP s V bb) : pres s = .tuple #[V, .int .i64 (if bb then 0 else 6)] := by
  rcases h with ⟨a, b, c, d, y, hc, hd, ht, rfl, rfl⟩ | ⟨rfl, rfl, hn⟩
  · exact pres_some hc hd ht
  · exact pres_none hn
theorem RP.conf {s : List UInt8} {V : Value} {bb : Bool} (h : RP s V bb) : ∃ a b c d : Int, ∃ y, V = conf a b c d y := by
  rcases h with ⟨a, b, c, d, y, hc, hd, ht, rfl, rfl⟩ | ⟨rfl, rfl, hn⟩
  · exact ⟨_, _, _, _, _, rfl⟩
  · exact ⟨_, _, _, _, _, rfl⟩
/-- the variables that reading and writing need -/
structure Vars (w : World) : Prop where
  tab : Tabs w
  wds : Words w
  err : Errs w
  mx : Mx w
theorem Vars.below {w w' : World} (h : Vars w) (hb : Below w.heap.size w w') : Vars w' := ⟨h.tab.below hb, h.wds.below hb, h.err.below hb, h.mx.below hb⟩
theorem parses_true {S : ByteArray} {a b c d : Int} {y : Bool} {r : Int} (h : ∃ s, S = str s ∧ s.length ≤ 1000 ∧ pres s = .tuple #[conf a b c d y, .int .i64 r]) (w : World) (hv : Vars w) :
    Calls Tryd.prog 23 #[.string S, conf a b c d y, .int .i64 r] w fun e w' => e = .returned (.bool true) ∧ Below w.heap.size w w' := by
  obtain ⟨s, rfl, hs, hp⟩ := h
  have HP := Lib.hid (fun w1 (h : Below w.heap.size w w1) => parse_any s hs w1 (hv.below h).tab (hv.below h).wds (hv.below h).err (hv.below h).mx)
  rw [hp] at HP
  clear hp hv
  go_enter Tryd.func23, Tryd.ntmps23
  go_wp2_with fail
  refine (HP.out _ (by go_grown)).mono ?_
  rintro e w1 ⟨rfl, b1⟩
  have q1 := BoxA.below (BoxA.new w 32 (cells a b c d y)) b1
  have bw := Lib.hid (tr (show Below w.heap.size w (w.alloc (.cells (cells a b c d y) 32)) from by go_grown) b1)
  obtain ⟨c0, c1, c2, c3, c4, fz⟩ := q1.five
  have hs' := q1.lt
  clear q1 b1
  go_wp2_with fail
  go_ret
  exact ⟨rfl, by first | exact bw.out | exact bw.out.trans (by go_grown)⟩
theorem writes_ok {a b c d : Int} {y : Bool} {S : ByteArray} (hc : ck a b c = 0) (d0 : 0 ≤ d) (d1 : d < 18446744073709551616) (hS : S = str (T a.toNat b.toNat c.toNat d.toNat y)) (w : World) (hv : Vars w) :
    Calls Tryd.prog 18 #[conf a b c d y, .string S, .int .i64 0] w fun e w' => e = .returned (.bool true) ∧ Below w.heap.size w w' := by
  have HP := Lib.hid (fun w1 (h : Below w.heap.size w w1) => text_ok a b c d y hc d0 d1 w1 (hv.below h).tab (hv.below h).wds)
  rw [← hS] at HP
  have hb : (S.toList == S.toList) = true := beq_self_eq_true _
  clear hS hv hc
  go_enter Tryd.func18, Tryd.ntmps18
  go_wp2_with fail
  refine (HP.out _ (by go_grown)).mono ?_
  rintro e w1 ⟨rfl, b1⟩
  have bw := Lib.hid (tr (show Below w.heap.size w (w.alloc (.cells (cells a b c d y) 32)) from by go_grown) b1)
  clear b1
  go_wp2_with fail
  go_ret
  exact ⟨rfl, bw.out⟩
theorem writes_bad {a b c d : Int} {y : Bool} {r : Int} (hc : ¬ ck a b c = 0) (hr : ck a b c = r) (w : World) :
    Calls Tryd.prog 18 #[conf a b c d y, .string ⟨#[]⟩, .int .i64 r] w fun e w' => e = .returned (.bool true) ∧ Below w.heap.size w w' := by
  have HP := Lib.hid (fun w1 => text_bad a b c d y hc w1)
  rw [hr] at HP
  clear hr hc
  go_enter Tryd.func18, Tryd.ntmps18
  go_wp2_with fail
  refine (HP.out _).mono ?_
  rintro e w1 ⟨rfl, b1⟩
  have bw := Lib.hid (tr (show Below w.heap.size w (w.alloc (.cells (cells a b c d y) 32)) from by go_grown) b1)
  clear b1
  go_wp2_with fail
  go_ret
  exact ⟨rfl, bw.out⟩
theorem parts_true {a b c d : Int} {y : Bool} {n r : Int} (h : if ck a b c = 0 then n = part b c ∧ r = 0 else n = 0 ∧ r = ck a b c) (w : World) :
    Calls Tryd.prog 17 #[conf a b c d y, .int .i64 n, .int .i64 r] w fun e w' => e = .returned (.bool true) ∧ Below w.heap.size w w' := by
  have HP := Lib.hid (show ∀ w1 : World, Calls Tryd.prog 27 #[conf a b c d y] w1 fun e w' => e = .returned (.tuple #[.int .i64 n, .int .i64 r]) ∧ Below w1.heap.size w1 w' from fun w1 => by
    split at h
    · rename_i hc
      obtain ⟨rfl, rfl⟩ := h
      exact part_ok a b c d y hc w1
    · rename_i hc
      obtain ⟨rfl, rfl⟩ := h
      exact part_bad a b c d y hc w1)
  clear h
  go_enter Tryd.func17, Tryd.ntmps17
  go_wp2_with fail
  refine (HP.out _).mono ?_
  rintro e w1 ⟨rfl, b1⟩
  have bw := Lib.hid (tr (show Below w.heap.size w (w.alloc (.cells (cells a b c d y) 32)) from by go_grown) b1)
  clear b1
  go_wp2_with fail
  go_ret
  exact ⟨rfl, bw.out⟩
end Go.Proofs.YtckibgpmncggaaaDoor.Cfg
