/-
  Configurations (layer 23): equality of configurations; the law's helpers; resizing.
-/
import Derived.Test.YtckibgpmncggaaaDoorCfgD
set_option linter.unusedVariables false
set_option linter.unusedSimpArgs false
namespace Go.Proofs.YtckibgpmncggaaaDoor.Cfg
open Go Go.RowKit Kit
def cEq (a b c d : Int) (y : Bool) (a' b' c' d' : Int) (y' : Bool) : Bool := a == a' && (b == b' && (c == c' && (d == d' && y == y')))
theorem conf_eq (a b c d : Int) (y : Bool) (a' b' c' d' : Int) (y' : Bool) (w : World) :
    (Op.equalIn 10000 32 (conf a b c d y) (conf a' b' c' d' y')).run Tryd.prog w = .ok (cEq a b c d y a' b' c' d' y') w := by
  rw [show (10000 : Nat) = 9999 + 1 from rfl, run_equalIn_struct w 9999 32 _ _ (by kernel_rfl) (by kernel_rfl)]
  unfold cEq
  simp [go_sem]
  by_cases h1 : a = a' <;> by_cases h2 : b = b' <;> by_cases h3 : c = c' <;> by_cases h4 : d = d' <;> by_cases h5 : y = y' <;> simp [h1, h2, h3, h4, h5]
theorem cEq_refl (a b c d : Int) (y : Bool) : cEq a b c d y a b c d y = true := by simp [cEq]
theorem resizes_conf (a b c d : Int) (y : Bool) (n m a' b' c' d' : Int) (y' : Bool) (r : Int) (ha : (if rzE a b c n m = 0 then conf n m c d y else conf 0 0 0 0 false) = conf a' b' c' d' y') (hr : rzE a b c n m = r) (w : World) :
    Calls Tryd.prog 25 #[conf a b c d y, .int .i64 n, .int .i64 m, conf a' b' c' d' y', .int .i64 r] w fun e w' => e = .returned (.bool true) ∧ Below w.heap.size w w' := by
  have HR := Lib.hid (fun w => resize_any a b c d y n m w)
  rw [ha, hr] at HR
  clear ha hr
  go_enter Tryd.func25, Tryd.ntmps25
  go_wp2_with fail
  refine (HR.out _).mono ?_
  rintro e w1 ⟨rfl, b1⟩
  obtain ⟨-, q1, bw⟩ := two_box b1
  have bw1 := Lib.hid bw
  obtain ⟨d0, d1, d2, d3, d4, fy⟩ := q1.five
  have hs := q1.lt
  clear q1 b1 bw
  go_wp2_with fail
  go_ret
  exact ⟨rfl, by first | exact bw1.out | exact bw1.out.trans (by go_grown) | go_grown⟩
end Go.Proofs.YtckibgpmncggaaaDoor.Cfg
