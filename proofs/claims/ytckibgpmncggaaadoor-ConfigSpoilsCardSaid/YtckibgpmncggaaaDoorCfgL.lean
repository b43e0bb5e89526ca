/-
  Configurations (layer 23): the examples of the chapter.
-/
import Derived.Test.YtckibgpmncggaaaDoorCfgM
import Derived.Test.YtckibgpmncggaaaDoorCfgE
set_option linter.unusedVariables false
set_option linter.unusedSimpArgs false
namespace Go.Proofs.YtckibgpmncggaaaDoor.Cfg
open Go Go.RowKit Kit
theorem default_any (w : World) : Calls Tryd.prog 38 #[] w fun e w' => e = .returned (conf 1024 1048576 80 0 false) ∧ Below w.heap.size w w' := by
  go_enter Tryd.func38, Tryd.ntmps38
  go_wp2_with fail
  refine bodyPost_ret (v := conf 1024 1048576 80 0 false) (by simp [results, Tryd.results38, go_sem]) rfl ?_
  exact ⟨rfl, by go_grown⟩
theorem rdefault_any (w : World) : Calls Tryd.prog 39 #[] w fun e w' => e = .returned (conf 1024 1048576 80 0 false) ∧ Below w.heap.size w w' := by
  go_enter Tryd.func39, Tryd.ntmps39
  go_wp2_with fail
  refine bodyPost_ret (v := conf 1024 1048576 80 0 false) (by simp [results, Tryd.results39, go_sem]) rfl ?_
  exact ⟨rfl, by go_grown⟩
theorem check_e {a b c d : Int} {y : Bool} {r : Int} (h : ck a b c = r) (w : World) : Calls Tryd.prog 15 #[conf a b c d y] w fun e w' => e = .returned (.int .i64 r) ∧ Below w.heap.size w w' := by
  rw [← h]; exact check_any a b c d y w
theorem z1 : rzE 1024 1048576 80 5 7 = 0 := by decide
theorem z2 : rzE 1024 1048576 80 5 0 = 241 := by decide
theorem z1c : (if rzE 1024 1048576 80 5 7 = 0 then conf 5 7 80 0 false else conf 0 0 0 0 false) = conf 5 7 80 0 false := if_pos z1
theorem z2c : (if rzE 1024 1048576 80 5 0 = 0 then conf 5 0 80 0 false else conf 0 0 0 0 false) = conf 0 0 0 0 false := if_neg (by decide)
theorem q240 : ck 0 0 0 = 240 := by decide
theorem q241 : ck 1 0 100 = 241 := by decide
theorem q242 : ck 1 1 100 = 242 := by decide
set_option maxRecDepth 100000 in
set_option maxHeartbeats 4000000 in
theorem known_any (w : World) (hv : Vars w) :
    Calls Tryd.prog 19 #[] w fun e w' => e = .returned (.bool true) ∧ Below w.heap.size w w' := by
  go_enter Tryd.func19, Tryd.ntmps19
  go_wp2_with fail
  refine (default_any _).mono ?_
  rintro e w1 ⟨rfl, b1⟩
  go_wp2_with fail
  have bw := tr b1 ((Below.refl w1.heap.size w1).alloc (Nat.le_refl _) (.cells (cells 1024 1048576 80 0 false) 32))
  have q := BoxA.new w1 32 (cells 1024 1048576 80 0 false)
  generalize w1.alloc (.cells (cells 1024 1048576 80 0 false) 32) = W at *
  generalize w1.heap.size = p at *
  clear b1
  obtain ⟨c0, c1, c2, c3, c4, cf⟩ := q.five
  have HS := Lib.hid (show ∀ w', Below W.heap.size W w' → (w'.cell? ⟨p, 0, none⟩ = some (.int .i64 1024) ∧ w'.cell? ⟨p, 1, none⟩ = some (.int .i64 1048576) ∧ w'.cell? ⟨p, 2, none⟩ = some (.int .i64 80) ∧ w'.cell? ⟨p, 3, none⟩ = some (.int .u64 0) ∧ w'.cell? ⟨p, 4, none⟩ = some (.bool false) ∧ Below W.heap.size W w') from fun w' h => by
    obtain ⟨c0, c1, c2, c3, c4, -⟩ := (q.below h).five
    exact ⟨c0, c1, c2, c3, c4, h⟩)
  have HB := Lib.hid bw
  have HV := Lib.hid (fun w' (h : Below W.heap.size W w') => hv.below (tr bw h))
  have hp' := q.lt
  clear q cf bw hv
  go_wp2_with fail
  go_region_held3 (fun w' => w'.cell? ⟨p, 0, none⟩ = some (.int .i64 1024) ∧ w'.cell? ⟨p, 1, none⟩ = some (.int .i64 1048576) ∧ w'.cell? ⟨p, 2, none⟩ = some (.int .i64 80) ∧ w'.cell? ⟨p, 3, none⟩ = some (.int .u64 0) ∧ w'.cell? ⟨p, 4, none⟩ = some (.bool false) ∧ Below W.heap.size W w')
    (first
      | (exact HS.out _ (Below.drew (Below.refl _ _)))
      | assumption
      | (exact HS.out _ (tr (by assumption : _ ∧ _ ∧ _ ∧ _ ∧ _ ∧ Below W.heap.size W _).2.2.2.2.2 o1))
      | fail)
    (first
      | (go_at_call 39; refine (rdefault_any _).mono ?_; rintro e w' ⟨rfl, o1⟩)
      | (go_at_call 18; refine (writes_ok (by decide) (by decide) (by decide) (congrArg str ka).symm _ (HV.out _ (by assumption : _ ∧ _ ∧ _ ∧ _ ∧ _ ∧ Below W.heap.size W _).2.2.2.2.2)).mono ?_; rintro e w' ⟨rfl, o1⟩)
      | (go_at_call 17; refine (parts_true (by decide) _).mono ?_; rintro e w' ⟨rfl, o1⟩)
      | fail)
  obtain ⟨k0, k1, k2, k3, k4, bU⟩ := (by assumption : _ ∧ _ ∧ _ ∧ _ ∧ _ ∧ Below W.heap.size W _)
  have BU := Lib.hid bU
  clear bU c0 c1 c2 c3 c4 hp'
  clear k0 k1 k2 k3 k4
  go_wp2_with (first
    | (go_at_call 15; refine (check_e (by first | exact q240 | exact q241 | exact q242) _).mono ?_; rintro e w' ⟨rfl, o1⟩; replace BU := Lib.hid (tr BU.out o1); clear o1)
    | (go_at_call 23; fail)
    | fail)
  have bX := tr BU.out ((Below.refl w'.heap.size w').alloc (Nat.le_refl _) (.cells (cells 1 1 0 18446744073709551615 true) 32))
  have qX := BoxA.new w' 32 (cells 1 1 0 18446744073709551615 true)
  generalize w'.alloc (.cells (cells 1 1 0 18446744073709551615 true) 32) = X at *
  generalize w'.heap.size = q at *
  have HX := Lib.hid (show ∀ w', Below X.heap.size X w' → (w'.cell? ⟨p, 0, none⟩ = some (.int .i64 1024) ∧ w'.cell? ⟨p, 1, none⟩ = some (.int .i64 1048576) ∧ w'.cell? ⟨p, 2, none⟩ = some (.int .i64 80) ∧ w'.cell? ⟨p, 3, none⟩ = some (.int .u64 0) ∧ w'.cell? ⟨p, 4, none⟩ = some (.bool false)) ∧ (w'.cell? ⟨q, 0, none⟩ = some (.int .i64 1) ∧ w'.cell? ⟨q, 1, none⟩ = some (.int .i64 1) ∧ w'.cell? ⟨q, 2, none⟩ = some (.int .i64 0) ∧ w'.cell? ⟨q, 3, none⟩ = some (.int .u64 18446744073709551615) ∧ w'.cell? ⟨q, 4, none⟩ = some (.bool true)) from fun w' h => by
    obtain ⟨c0, c1, c2, c3, c4, -⟩ := HS.out _ (tr bX h)
    obtain ⟨d0, d1, d2, d3, d4, -⟩ := (qX.below h).five
    exact ⟨⟨c0, c1, c2, c3, c4⟩, ⟨d0, d1, d2, d3, d4⟩⟩)
  have HVX := Lib.hid (fun w' (h : Below X.heap.size X w') => HV.out _ (tr bX h))
  have HBX := Lib.hid (tr HB.out bX)
  have hX := Below.refl X.heap.size X
  obtain ⟨⟨k0, k1, k2, k3, k4⟩, ⟨m0, m1, m2, m3, m4⟩⟩ := HX.out _ hX
  clear bX qX BU HV HS HB
  go_wp2_with (first
    | (go_at_call 23; refine (parses_true (by first | exact pb | exact pc1 | exact pd1 | exact pf1) _ (HVX.out _ hX)).mono ?_; rintro e w4 ⟨rfl, o1⟩; replace hX := tr hX o1; clear o1 k0 k1 k2 k3 k4 m0 m1 m2 m3 m4; obtain ⟨⟨k0, k1, k2, k3, k4⟩, ⟨m0, m1, m2, m3, m4⟩⟩ := HX.out _ hX)
    | (go_at_call 17; refine (parts_true (by decide) _).mono ?_; rintro e w4 ⟨rfl, o1⟩; replace hX := tr hX o1; clear o1 k0 k1 k2 k3 k4 m0 m1 m2 m3 m4; obtain ⟨⟨k0, k1, k2, k3, k4⟩, ⟨m0, m1, m2, m3, m4⟩⟩ := HX.out _ hX)
    | (go_at_call 25; refine (resizes_conf _ _ _ _ _ _ _ _ _ _ _ _ _ (by first | exact z1c | exact z2c) (by first | exact z1 | exact z2) _).mono ?_; rintro e w4 ⟨rfl, o1⟩; replace hX := tr hX o1; clear o1 k0 k1 k2 k3 k4 m0 m1 m2 m3 m4; obtain ⟨⟨k0, k1, k2, k3, k4⟩, ⟨m0, m1, m2, m3, m4⟩⟩ := HX.out _ hX)
    | fail)
  go_ret
  exact ⟨rfl, tr HBX.out hX⟩
end Go.Proofs.YtckibgpmncggaaaDoor.Cfg
