/-
  Configurations (layer 23): the variables; the wrap with the world's shape; resizing, checks, parsing.
-/
import Derived.Test.YtckibgpmncggaaaDoorCfgL
import Derived.Test.YtckibgpmncggaaaDoorLaid
import Derived.Handed
import Derived.Shelf.Vars
set_option linter.unusedVariables false
set_option linter.unusedSimpArgs false
namespace Go.Proofs.YtckibgpmncggaaaDoor.Ev
open Go
/-- the wrap for a row with listed variables, the world's shape kept -/
theorem returnsInHanded_and_shaped {H : Type} {enc : TypeId × Value → H} {a : Assume} {C : Checked} {os : Os} {f : FuncId} {fn : Func} {s : ChangeSpec} {conds : List PathCond} {apart fresh handsOn again : Bool} {X : World → Array Value → Prop}
    (hX : ∀ (w w' : World) (args : Array Value), w.heap = w'.heap → X w args → X w' args)
    (own : ownKnob C.prog.godebug = none) (started : os.Started) (noInit : C.prog.inits.idxOf? f = none) (hfn : C.prog.funcs[f]? = some fn)
    (witness : ∃ (w : World) (tape : Tape) (i : Input), w.os = os ∧ (w.forCall tape i).Shaped C.prog ∧ i.vars = [] ∧ Input.okWide C.prog (w.forCall tape i) .any w.heap.size f i ∧
      ((s.pre enc C.prog fn conds apart (w.forCall tape i).memory i.args ∧ X (w.forCall tape i).memory i.args) ∧ sizedMet enc C.prog fn (OpenSpec.ofChange s) apart (w.forCall tape i).memory i.args) ∧ a.holds C.prog (lone (Frame.enter C.prog f i.args .normal) [] (w.forCall tape i)))
    (contract : ∀ (W : World) (base : Nat) (args : Array Value) (ds gs : List (DataW H)) (before : List MemPlace),
      (∀ (j : Nat) t v, fn.params[j]? = some t → args[j]? = some v → Value.okWide C.prog W .any base t v) →
      DataW.Whole enc C.prog fn.params.toList s.vars apart W args.toList ds gs before →
      conds.all (PathCond.test C.prog ⟨fn.params.toList, ds, s.plain.varTypes C.prog, gs⟩) = true →
      (DataW.weightsEach C.prog (fn.params.toList ++ s.plain.varTypes C.prog) (ds ++ gs)).all (· ≤ reachBytes) = true → X W args →
      W.ShapedOpen C.prog →
      a.holds C.prog (lone (Frame.enter C.prog f args .normal) [] W) →
      Calls C.prog f args W fun e W' => ∃ v, e = .returned v ∧ s.post enc C.prog fn apart fresh handsOn again W args v W') :
    ReturnsInHanded a C os f .any (fun w args => (s.pre enc C.prog fn conds apart w args ∧ X w args) ∧ sizedMet enc C.prog fn (OpenSpec.ofChange s) apart w args) (s.post enc C.prog fn apart fresh handsOn again) := by
  refine returnsInHanded_of_calls own started noInit witness ?_
  intro w tape i _ hsh _ hok hpre hholds
  obtain ⟨_, _, _, fn', hfn', _, _, _, _, hval⟩ := hok
  have e : fn' = fn := Option.some.inj (hfn'.symm.trans hfn)
  subst e
  obtain ⟨⟨⟨ds, gs, before, hw, hc⟩, hx⟩, hz⟩ := hpre
  have hw' := DataW.Whole.of_heap (w' := w.forCall tape i) (by rfl) hw
  refine (contract (w.forCall tape i) w.heap.size i.args ds gs before hval hw' hc (hz.weights hw) (hX _ _ _ (by rfl) hx) hsh hholds).mono fun e W' ⟨v, he, hp⟩ => ?_
  subst he
  exact ChangeSpec.post_blind hp
end Go.Proofs.YtckibgpmncggaaaDoor.Ev
namespace Go.Proofs.YtckibgpmncggaaaDoor.Cfg
open Go Go.RowKit Kit
theorem gr_ev {P : Program} {W : World} {laid : List (String × DataW Unit)} (h : laidMet P laid W) (i : Nat) {n : String} {d : DataW Unit} {g t : Nat} {ms : Array (String × TypeId)} (hm : laid[i]? = some (n, d))
    (hg : P.globalNamed n = some g) (ht : (P.globals[g]?).map (·.type) = some t) (hu : P.underlying t = some (.interface ms)) : ∃ ev : Value, W.cell? ⟨g, 0, none⟩ = some ev ∧ (ev = .nilIface ∨ ∃ te pe, ev = .iface te pe) := by
  obtain ⟨ps, hl, -⟩ := h
  obtain ⟨g', t', cs, fuel, p, e1, e2, e3, e4⟩ := Ev.laidVars_get hl hm
  rw [hg] at e1; cases e1
  rw [ht] at e2; cases e2
  obtain ⟨t'', fr, hh⟩ := Ev.var_heap hg e3
  have hx : ∃ x, cs.toList = [x] ∧ (x = .nilIface ∨ ∃ te pe, x = .iface te pe) := by
    cases fuel with
    | zero => simp [DataW.trod] at e4
    | succ fuel =>
      simp only [DataW.trod, hu] at e4
      match hc : cs.toList, e4 with
      | [], e4 => simp at e4
      | [x], e4 => cases x <;> first | exact ⟨_, rfl, .inl rfl⟩ | exact ⟨_, rfl, .inr ⟨_, _, rfl⟩⟩ | (simp at e4)
      | x :: y :: l, e4 => simp at e4
  obtain ⟨x, hx1, hx2⟩ := hx
  refine ⟨x, ?_, hx2⟩
  have hc : cs[0]? = some x := by rw [← Array.getElem?_toList, hx1]; rfl
  simp [World.cell?, hh, hc]
theorem words_of {W : World} {laid : List (String × DataW Unit)} (h : laidMet Tryd.prog laid W) (i : Nat) (hm : laid[i]? = some ("cubbyhole/config.words", .agg ([w0, w1, w2, w3, w4].map fun z => .lit (.string z)))) : Words W := by
  obtain ⟨cs, t, fr, hh, hv⟩ := Ev.gr_strB (σ := fun _ => undef) h i "cubbyhole/config.words" 0 [w0, w1, w2, w3, w4] hm (by kernel_rfl)
  have key : ∀ j z, [w0, w1, w2, w3, w4][j]? = some z → W.cell? ⟨0, j, none⟩ = some (.string (str z)) := by
    intro j z hz
    obtain ⟨v, hv1, hv2⟩ := hv j (.string ⟨⟨z⟩⟩) (by simp only [List.getElem?_map, hz]; rfl)
    cases hv2
    simp only [World.cell?, hh]
    exact hv1
  exact ⟨key 0 _ rfl, key 1 _ rfl, key 2 _ rfl, key 3 _ rfl, key 4 _ rfl⟩
theorem mx_of {W : World} (h : W.ShapedOpen Tryd.prog) : Mx W :=
  cell_of_shapedOpen_int (g := 4) (t := 3) (zero := #[.int .i64 0]) (k := .i64) h (of_decide_eq_true (by kernel_rfl)) (by kernel_rfl) (by rfl) (by kernel_rfl) (by kernel_rfl) (by kernel_rfl)
theorem vars_of {W : World} {laid : List (String × DataW Unit)} (h : laidMet Tryd.prog laid W) (hs : W.ShapedOpen Tryd.prog) (hm1 : laid[2]? = some ("internal/strconv.uint64pow10", Lib.tabData .u64 Lib.pow10Tab)) {d d' : DataW Unit} (hm2 : laid[3]? = some ("strconv.ErrRange", d)) (hm3 : laid[4]? = some ("strconv.ErrSyntax", d'))
    (hm4 : laid[5]? = some ("cubbyhole/config.words", .agg ([w0, w1, w2, w3, w4].map fun z => .lit (.string z)))) : Vars W :=
  ⟨tabs_of h 2 hm1, words_of h 5 hm4, ⟨gr_ev h 4 hm3 (g := 2) (by kernel_rfl) (t := 76) (by kernel_rfl) Tryd.underlying76, gr_ev h 3 hm2 (g := 3) (by kernel_rfl) (t := 76) (by kernel_rfl) Tryd.underlying76⟩, mx_of hs⟩
set_option maxHeartbeats 1000000 in
theorem resizes_law (a b c d : Int) (y : Bool) (n m : Int) (w : World) (hv : Vars w) :
    Calls Tryd.prog 7 #[conf a b c d y, .int .i64 n, .int .i64 m] w fun e w' => e = .returned (.bool true) ∧ Below w.heap.size w w' := by
  have HR := Lib.hid (fun w => rresize_any a b c d y n m w)
  have HK := Lib.hid (fun w1 (h : Below w.heap.size w w1) => known_any w1 (hv.below h))
  obtain ⟨a', b', c', d', y', hq⟩ : ∃ a' b' c' d' y', (if rzE a b c n m = 0 then conf n m c d y else conf 0 0 0 0 false) = conf a' b' c' d' y' := by
    split
    · exact ⟨_, _, _, _, _, rfl⟩
    · exact ⟨_, _, _, _, _, rfl⟩
  have HQ := Lib.hid (fun w => resizes_conf a b c d y n m a' b' c' d' y' _ hq rfl w)
  rw [hq] at HR
  generalize rzE a b c n m = r at *
  clear hq hv
  go_enter Tryd.func7, Tryd.ntmps7
  go_wp2_with fail
  refine (HR.out _).mono ?_
  rintro e w1 ⟨rfl, b1⟩
  have q0 := BoxA.below (BoxA.new w 32 (cells a b c d y)) b1
  obtain ⟨c0, c1, c2, c3, c4, cf⟩ := q0.five
  have bw := tr (show Below w.heap.size w (w.alloc (.cells (cells a b c d y) 32)) from by go_grown) b1
  have BW := Lib.hid bw
  have hsz := q0.lt
  clear q0 b1 bw cf
  go_wp2_with fail
  refine (HQ.out _).mono ?_
  rintro e w2 ⟨rfl, b2⟩
  have BW2 := Lib.hid (tr (BW.out.trans (by go_grown)) b2)
  clear b2
  go_wp2_with fail
  refine (HK.out _ BW2.out).mono ?_
  rintro e w3 ⟨rfl, b3⟩
  go_wp2_with fail
  go_ret
  exact ⟨rfl, tr BW2.out b3⟩
end Go.Proofs.YtckibgpmncggaaaDoor.Cfg
