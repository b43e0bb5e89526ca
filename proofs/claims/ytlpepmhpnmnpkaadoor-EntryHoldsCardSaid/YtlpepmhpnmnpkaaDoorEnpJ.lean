/-
  Entries (layer 4): the law on any text.
-/
import Derived.Test.YtlpepmhpnmnpkaaDoorEnpI
import Derived.Test.YtlpepmhpnmnpkaaDoorLaid
import Derived.Handed
import Derived.Shelf.Vars
set_option linter.unusedVariables false
set_option linter.unusedSimpArgs false
namespace Go.Proofs.YtlpepmhpnmnpkaaDoor.Ev
open Go
/-- the wrap for a row with listed variables, the world's shape kept -/
theorem returnsInHanded_and_shaped {H : Type} {enc : TypeId × Value → H} {a : Assume} {C : Checked} {os : Os} {f : FuncId} {fn : Func} {s : ChangeSpec} {conds : List PathCond} {apart fresh handsOn again : Bool} {X : World → Array Value → Prop}
    (hX : ∀ (w w' : World) (args : Array Value), w.heap = w'.heap → X w args → X w' args)
    (own : ownKnob C.prog.godebug = none) (started : os.Started) (noInit : C.prog.inits.idxOf? f = none) (hfn : C.prog.funcs[f]? = some fn)
    (witness : ∃ (w : World) (tape : Tape) (i : Input), w.os = os ∧ (w.forCall tape i).Shaped C.prog ∧ i.vars = [] ∧ Input.okWide C.prog (w.forCall tape i) .any w.heap.size f i ∧
      ((s.pre enc C.prog fn conds apart (w.forCall tape i).memory i.args ∧ X (w.forCall tape i).memory i.args) ∧ sizedMet enc C.prog fn (OpenSpec.ofChange s) apart (w.forCall tape i).memory i.args) ∧ a.holds C.prog (lone (Frame.enter C.prog f i.args .normal) [] (w.forCall tape i)))
    (contract : ∀ (W : World) (base : Nat) (args : Array Value) (ds gs : List (DataW H)) (before : List MemPlace),
      (∀ (j : Nat) t v, fn.params[j]? = some t → args[j]? = some v → Value.okWide C.prog W .any base t v) →
      DataW.Whole enc C.prog fn.params.toList s.vars apart W args.toList ds gs before →
      conds.all (PathCond.test C.prog ⟨fn.params.toList, ds, s.plain.varTypes C.prog, gs⟩) = true →
      (DataW.weightsEach C.prog (fn.params.toList ++ s.plain.varTypes C.prog) (ds ++ gs)).all (· ≤ reachBytes) = true → X W args →
      W.ShapedOpen C.prog →
      a.holds C.prog (lone (Frame.enter C.prog f args .normal) [] W) →
      Calls C.prog f args W fun e W' => ∃ v, e = .returned v ∧ s.post enc C.prog fn apart fresh handsOn again W args v W') :
    ReturnsInHanded a C os f .any (fun w args => (s.pre enc C.prog fn conds apart w args ∧ X w args) ∧ sizedMet enc C.prog fn (OpenSpec.ofChange s) apart w args) (s.post enc C.prog fn apart fresh handsOn again) := by
  refine returnsInHanded_of_calls own started noInit witness ?_
  intro w tape i _ hsh _ hok hpre hholds
  obtain ⟨_, _, _, fn', hfn', _, _, _, _, hval⟩ := hok
  have e : fn' = fn := Option.some.inj (hfn'.symm.trans hfn)
  subst e
  obtain ⟨⟨⟨ds, gs, before, hw, hc⟩, hx⟩, hz⟩ := hpre
  have hw' := DataW.Whole.of_heap (w' := w.forCall tape i) (by rfl) hw
  refine (contract (w.forCall tape i) w.heap.size i.args ds gs before hval hw' hc (hz.weights hw) (hX _ _ _ (by rfl) hx) hsh hholds).mono fun e W' ⟨v, he, hp⟩ => ?_
  subst he
  exact ChangeSpec.post_blind hp
end Go.Proofs.YtlpepmhpnmnpkaaDoor.Ev
namespace Go.Proofs.YtlpepmhpnmnpkaaDoor.Ent
open Go Go.RowKit Kit
set_option maxRecDepth 100000 in
set_option maxHeartbeats 1000000 in
theorem wrong_any (s : List UInt8) (hl : s.length ≤ 1000) (W : World) (hg : Gv W) (hn : eparse s = none) :
    Calls Tryd.prog 28 #[.string (str s)] W fun e w' => e = .returned (.bool true) ∧ Below W.heap.size W w' := by
  have HE := Lib.hid (eparse_any s (by omega) W hg)
  rw [hn] at HE
  have HQ := Lib.hid (fun w => requal_any ⟨#[]⟩ ⟨#[]⟩ none none 0 0 0 0 [] [] 0 0 0 0 w (BytesOf.nothing w) (BytesOf.nothing w))
  rw [eqB_refl] at HQ
  clear hg hn
  go_enter Tryd.func28, Tryd.ntmps28
  go_wp2_with fail
  refine HE.out.mono ?_
  rintro e w1 ⟨h1, b1⟩
  obtain rfl : e = .returned (.tuple #[ent0, .int .i64 6]) := h1
  go_wp2_with fail
  refine (HQ.out _).mono ?_
  rintro e w2 ⟨rfl, b2⟩
  have B2 := Lib.hid ((tr b1 (by go_grown)).trans (b2.mono (by have := b1.size; simp; omega)))
  go_wp2_with fail
  go_ret
  exact ⟨rfl, B2.out⟩
def Kn4 (W : World) : Prop := ∀ w1, Below W.heap.size W w1 → Calls Tryd.prog 15 #[] w1 fun e w' => e = .returned (.bool true) ∧ Below w1.heap.size w1 w'
set_option maxRecDepth 100000 in
set_option maxHeartbeats 1000000 in
theorem lparses_any (s : List UInt8) (hs : s.length ≤ maxLen) (W : World) (hg : Gv W) (hk : Kn4 W) :
    Calls Tryd.prog 7 #[.string (str s)] W fun e w' => e = .returned (.bool true) ∧ Below W.heap.size W w' := by
  have HK := Lib.hid hk
  have HG := Lib.hid hg
  have hsz := str_size s
  clear hk hg
  by_cases h7 : 700 < s.length
  · have h7' : (700 : Int) < (s.length : Int) := by omega
    generalize s.length = n at *
    go_enter Tryd.func7, Tryd.ntmps7
    go_wp2_with fail
    refine (HK.out _ (Below.refl _ _)).mono ?_
    rintro e w1 ⟨rfl, b1⟩
    go_wp2_with fail
    go_ret
    exact ⟨rfl, b1⟩
  · have h7' : ¬ (700 : Int) < (s.length : Int) := by omega
    have HR := Lib.hid (rparse4_any s (by omega) W)
    have HE := Lib.hid (fun w (hb : Below W.heap.size W w) => eparse_any s (by omega) w (HG.out.below hb))
    have HW := Lib.hid (fun w (hb : Below W.heap.size W w) (h : eparse s = none) => wrong_any s (by omega) w (HG.out.below hb) h)
    rw [← parse_same s] at HR
    generalize s.length = n at *
    cases hx : eparse s with
    | none =>
      rw [hx] at HR
      have HWW := Lib.hid (fun w hb => HW.out w hb hx)
      clear HW HE hx
      go_enter Tryd.func7, Tryd.ntmps7
      go_wp2_with fail
      refine HR.out.mono ?_
      rintro e w1 ⟨h1, b1⟩
      obtain rfl : e = .returned (.tuple #[ent0, .bool false]) := h1
      have B1 := Lib.hid b1
      clear b1
      go_wp2_with fail
      refine (HWW.out _ (tr B1.out (by go_grown))).mono ?_
      rintro e w2 ⟨rfl, b2⟩
      have B2 := Lib.hid (tr (tr B1.out (by go_grown)) b2)
      clear b2
      go_wp2_with fail
      refine (HK.out _ B2.out).mono ?_
      rintro e w3 ⟨rfl, b3⟩
      go_wp2_with fail
      go_ret
      exact ⟨rfl, tr B2.out b3⟩
    | some x =>
      rw [hx] at HR HE
      clear HW hx
      go_enter Tryd.func7, Tryd.ntmps7
      go_wp2_with fail
      refine HR.out.mono ?_
      rintro e w1 ⟨⟨p1, c1, rfl, by1, fr1⟩, b1⟩
      have b1' : Below w1.heap.size w1 (w1.alloc (.cells #[.string x.k, .slice p1 x.zs.length c1, .int .u64 x.d, .int .u64 x.b] 33)) := by go_grown
      have B1 := Lib.hid (tr b1 b1')
      have E1 := Lib.hid (BoxE.new w1 x.k p1 x.zs.length c1 x.d x.b)
      have Y1 := Lib.hid (by1.below b1')
      clear by1 b1 b1'
      go_wp2_with fail
      refine (HE.out _ B1.out).mono ?_
      rintro e w2 ⟨⟨p2, c2, rfl, by2, fr2⟩, b2⟩
      have b2' : Below w2.heap.size w2 (w2.alloc (.cells #[.string x.k, .slice p2 x.zs.length c2, .int .u64 x.d, .int .u64 x.b] 33)) := by go_grown
      have B2 := Lib.hid (tr B1.out b2)
      have E2 := Lib.hid (E1.out.below b2)
      have Y2 := Lib.hid by2
      have Y1' := Lib.hid (Y1.out.below b2)
      have HQ := Lib.hid (fun w (hb : Below w2.heap.size w2 w) => requal_any x.k x.k p2 p1 x.zs.length c2 x.zs.length c1 x.zs x.zs x.d x.d x.b x.b w (Y2.out.below hb) (Y1'.out.below hb))
      rw [eqB_refl] at HQ
      have hs2 := b2.size
      simp only [World.size_alloc] at hs2
      have hs2' : w1.heap.size < w2.heap.size := by omega
      obtain ⟨y0, y1, y2, y3, yf⟩ := BoxE.all E2.out
      clear b2 by2 Y1
      generalize x.zs.length = zl at *
      obtain ⟨xk, xz, xd, xb⟩ := x
      simp only at *
      go_wp2_with fail
      refine (HQ.out _ (by go_grown)).mono ?_
      rintro e w3 ⟨rfl, b3⟩
      have B3 := Lib.hid (tr (tr B2.out (by go_grown)) b3)
      clear b3 y0 y1 y2 y3 yf
      go_wp2_with fail
      refine (HK.out _ B3.out).mono ?_
      rintro e w4 ⟨rfl, b4⟩
      go_wp2_with fail
      go_ret
      exact ⟨rfl, tr B3.out b4⟩
theorem gr_ev {P : Program} {W : World} {laid : List (String × DataW Unit)} (h : laidMet P laid W) (i : Nat) {n : String} {d : DataW Unit} {g t : Nat} {ms : Array (String × TypeId)} (hm : laid[i]? = some (n, d))
    (hg : P.globalNamed n = some g) (ht : (P.globals[g]?).map (·.type) = some t) (hu : P.underlying t = some (.interface ms)) : ∃ ev : Value, W.cell? ⟨g, 0, none⟩ = some ev ∧ (ev = .nilIface ∨ ∃ te pe, ev = .iface te pe) := by
  obtain ⟨ps, hl, -⟩ := h
  obtain ⟨g', t', cs, fuel, p, e1, e2, e3, e4⟩ := Ev.laidVars_get hl hm
  rw [hg] at e1; cases e1
  rw [ht] at e2; cases e2
  obtain ⟨t'', fr, hh⟩ := Ev.var_heap hg e3
  have hx : ∃ x, cs.toList = [x] ∧ (x = .nilIface ∨ ∃ te pe, x = .iface te pe) := by
    cases fuel with
    | zero => simp [DataW.trod] at e4
    | succ fuel =>
      simp only [DataW.trod, hu] at e4
      match hc : cs.toList, e4 with
      | [], e4 => simp at e4
      | [x], e4 => cases x <;> first | exact ⟨_, rfl, .inl rfl⟩ | exact ⟨_, rfl, .inr ⟨_, _, rfl⟩⟩ | (simp at e4)
      | x :: y :: l, e4 => simp at e4
  obtain ⟨x, hx1, hx2⟩ := hx
  refine ⟨x, ?_, hx2⟩
  have hc : cs[0]? = some x := by rw [← Array.getElem?_toList, hx1]; rfl
  simp [World.cell?, hh, hc]
theorem errs_of {W : World} {laid : List (String × DataW Unit)} (h : laidMet Tryd.prog laid W) (i j : Nat) {d d' : DataW Unit} (hm : laid[i]? = some ("strconv.ErrRange", d)) (hm' : laid[j]? = some ("strconv.ErrSyntax", d')) : Num.Errs W :=
  ⟨gr_ev h j hm' (g := 3) (by kernel_rfl) (t := 80) (by kernel_rfl) Tryd.underlying80, gr_ev h i hm (g := 4) (by kernel_rfl) (t := 80) (by kernel_rfl) Tryd.underlying80⟩
theorem mx_of {W : World} (h : W.ShapedOpen Tryd.prog) : Mx W :=
  cell_of_shapedOpen_int (g := 2) (t := 3) (zero := #[.int .i64 0]) (k := .i64) h (of_decide_eq_true (by kernel_rfl)) (by kernel_rfl) (by rfl) (by kernel_rfl) (by kernel_rfl) (by kernel_rfl)
theorem gv_of {W : World} {laid : List (String × DataW Unit)} (h : laidMet Tryd.prog laid W) (hs : W.ShapedOpen Tryd.prog) (h1 : laid[2]? = some ("internal/strconv.uint64pow10", Lib.tabData .u64 Lib.pow10Tab)) {d d' : DataW Unit} (h2 : laid[3]? = some ("strconv.ErrRange", d)) (h3 : laid[4]? = some ("strconv.ErrSyntax", d')) (h4 : laid[5]? = some ("cubbyhole/entry.values", Lib.tabData .u8 valsL)) : Gv W :=
  ⟨vals_of h 5 h4, mx_of hs, Num.tabs_of h 2 h1, errs_of h 3 4 h2 h3⟩
end Go.Proofs.YtlpepmhpnmnpkaaDoor.Ent
