/-
  TickTexts (layer 3).
-/
import Derived.Test.YtcbekibofgcoaaaDoorNumW
import Derived.Test.YtcbekibofgcoaaaDoorLaid
set_option linter.unusedVariables false
set_option linter.unusedSimpArgs false
namespace Go.Proofs.YtcbekibofgcoaaaDoor.Num
open Go.RowKit Kit Go.Sort
theorem gr_ev {P : Program} {W : World} {laid : List (String × DataW Unit)} (h : laidMet P laid W) (i : Nat) {n : String} {d : DataW Unit} {g t : Nat} {ms : Array (String × TypeId)} (hm : laid[i]? = some (n, d))
    (hg : P.globalNamed n = some g) (ht : (P.globals[g]?).map (·.type) = some t) (hu : P.underlying t = some (.interface ms)) : ∃ ev : Value, W.cell? ⟨g, 0, none⟩ = some ev ∧ (ev = .nilIface ∨ ∃ te pe, ev = .iface te pe) := by
  obtain ⟨ps, hl, -⟩ := h
  obtain ⟨g', t', cs, fuel, p, e1, e2, e3, e4⟩ := Ev.laidVars_get hl hm
  rw [hg] at e1; cases e1
  rw [ht] at e2; cases e2
  obtain ⟨t'', fr, hh⟩ := Ev.var_heap hg e3
  have hx : ∃ x, cs.toList = [x] ∧ (x = .nilIface ∨ ∃ te pe, x = .iface te pe) := by
    cases fuel with
    | zero => simp [DataW.trod] at e4
    | succ fuel =>
      simp only [DataW.trod, hu] at e4
      match hc : cs.toList, e4 with
      | [], e4 => simp at e4
      | [x], e4 => cases x <;> first | exact ⟨_, rfl, .inl rfl⟩ | exact ⟨_, rfl, .inr ⟨_, _, rfl⟩⟩ | (simp at e4)
      | x :: y :: l, e4 => simp at e4
  obtain ⟨x, hx1, hx2⟩ := hx
  refine ⟨x, ?_, hx2⟩
  have hc : cs[0]? = some x := by rw [← Array.getElem?_toList, hx1]; rfl
  simp [World.cell?, hh, hc]
theorem tab_at {P : Program} {W : World} {laid : List (String × DataW Unit)} (h : laidMet P laid W) (i : Nat) {name : String} {k : IntKind} {zs : List Int} {g : Nat} {t e : TypeId} {n : Nat} (hm : laid[i]? = some (name, Lib.tabData k zs))
    (hg : P.globalNamed name = some g) (hty : (P.globals[g]?).map (·.type) = some t) (ht : P.underlying t = some (.array n e)) (he : P.underlying e = some (.int k)) (hce : P.cellsOf e = 1) (hct : P.cellsOf t = n) : Lib.TabIs P W name k zs := by
  obtain ⟨ps, hl, -⟩ := h
  obtain ⟨g', t', cs, fuel, p, e1, e2, hvar, hd⟩ := Ev.laidVars_get hl hm
  obtain rfl := Option.some.inj (hg.symm.trans e1)
  obtain rfl := Option.some.inj (hty.symm.trans e2)
  unfold Lib.TabIs
  rw [hvar, ← Lib.cells_of_tab ht he hce hct hd]
theorem tabs_of {W : World} {laid : List (String × DataW Unit)} (h : laidMet Tryd.prog laid W) (i : Nat) (hm : laid[i]? = some ("internal/strconv.uint64pow10", Lib.tabData .u64 Lib.pow10Tab)) : Tabs W :=
  tab_at h i hm (g := 0) (by kernel_rfl) (t := 117) (by kernel_rfl) (e := 22) (n := 20) (by kernel_rfl) (by kernel_rfl) (by kernel_rfl) (by kernel_rfl)
theorem errs_of {W : World} {laid : List (String × DataW Unit)} (h : laidMet Tryd.prog laid W) (i j : Nat) {d d' : DataW Unit} (hm : laid[i]? = some ("strconv.ErrRange", d)) (hm' : laid[j]? = some ("strconv.ErrSyntax", d')) : Errs W :=
  ⟨gr_ev h j hm' (g := 1) (by kernel_rfl) (t := 86) (by kernel_rfl) Tryd.underlying86, gr_ev h i hm (g := 2) (by kernel_rfl) (t := 86) (by kernel_rfl) Tryd.underlying86⟩
/-- parses -/
theorem parses_any (s : ByteArray) (hs : s.size ≤ 1048576) (t e : Int) (w : World) (htab : Tabs w) (he : Errs w) :
    Calls Tryd.prog 11 #[.string s, .int .u64 t, .int .i64 e] w fun r w' => r = .returned (.bool (decide ((pres s).1 = t ∧ (pres s).2 = e))) ∧ Below w.heap.size w w' := by
  have HP := Lib.hid (parse_any s hs w htab he)
  generalize (pres s).1 = x at *
  generalize (pres s).2 = f at *
  clear htab he
  by_cases h1 : x = t
  · by_cases h2 : f = e
    · rw [show decide (x = t ∧ f = e) = true from by simp [h1, h2]]
      subst h1 h2
      go_enter Tryd.func11, Tryd.ntmps11
      go_wp2_with (first | (go_at_call 30; refine HP.out.mono ?_; rintro e w2 ⟨rfl, hb⟩))
      go_ret
      exact ⟨rfl, hb⟩
    · rw [show decide (x = t ∧ f = e) = false from by simp [h2]]
      subst h1
      have h3 : (f == e) = false := by rw [beq_eq_false_iff_ne]; exact h2
      go_enter Tryd.func11, Tryd.ntmps11
      go_wp2_with (first | (go_at_call 30; refine HP.out.mono ?_; rintro e w2 ⟨rfl, hb⟩))
      go_ret
      exact ⟨rfl, hb⟩
  · rw [show decide (x = t ∧ f = e) = false from by simp [h1]]
    have h3 : (x == t) = false := by rw [beq_eq_false_iff_ne]; exact h1
    go_enter Tryd.func11, Tryd.ntmps11
    go_wp2_with (first | (go_at_call 30; refine HP.out.mono ?_; rintro e w2 ⟨rfl, hb⟩))
    go_ret
    exact ⟨rfl, hb⟩
theorem texts_any (t : Int) (s : ByteArray) (t0 : 0 ≤ t) (t1 : t ≤ 18446744073709551615) (w : World) (htab : Tabs w) (he : Errs w)
    (HKN : ∀ w1, Below w.heap.size w w1 → Calls Tryd.prog 7 #[] w1 fun e w' => e = .returned (.bool true) ∧ Below w1.heap.size w1 w') :
    Calls Tryd.prog 3 #[.int .u64 t, .string s] w fun e w' => e = .returned (.bool true) ∧ Below w.heap.size w w' := by
  have HK := Lib.hid HKN
  clear HKN
  by_cases h40 : 40 < s.size
  · have i40 : (40 : Int) < (s.size : Int) := by omega
    clear htab he
    go_enter Tryd.func3, Tryd.ntmps3
    go_wp2_with (first | (go_at_call 7; refine (HK.out _ (Below.refl _ _)).mono ?_; rintro e w2 ⟨rfl, hb⟩))
    go_ret
    exact ⟨rfl, hb⟩
  · have i40 : (s.size : Int) ≤ 40 := by omega
    have hs : s.size ≤ 1048576 := by omega
    have HR := Lib.hid (rparse_any s hs w)
    have HT := Lib.hid (text_any t t0 t1 w htab)
    have HRT := Lib.hid (fun w1 => rtext_any t t0 t1 w1)
    have HP := Lib.hid (fun (x e : Int) (w1 : World) (h1 : Below w.heap.size w w1) => parses_any s hs x e w1 (htab.below h1) (he.below h1))
    have hpr := pres_rpres s
    generalize rpres s = rr at *
    obtain ⟨x, y⟩ := rr
    simp only at hpr
    rw [hpr] at HP
    simp only at HR
    clear hpr htab he h40
    generalize txt t = q at *
    cases y
    · replace HP := Lib.hid (fun w1 h1 => by have := HP.out x 6 w1 h1; rw [show decide (x = x ∧ ((if false = true then 0 else 6 : Int)) = 6) = true from by simp] at this; exact this)
      go_enter Tryd.func3, Tryd.ntmps3
      go_wp2_with (first
        | (go_at_call 8; refine HR.out.mono ?_; rintro e w2 ⟨rfl, rfl⟩)
        | (go_at_call 9; refine HT.out.mono ?_; rintro e w2 ⟨rfl, hb2⟩)
        | (go_at_call 10; refine (HRT.out _).mono ?_; rintro e w3 ⟨rfl, rfl⟩)
        | (go_at_call 11; refine (HP.out _ hb2).mono ?_; rintro e w4 ⟨rfl, hb4⟩; have hb5 := hb2.trans (hb4.mono hb2.size))
        | (go_at_call 7; refine (HK.out _ hb5).mono ?_; rintro e w6 ⟨rfl, hb6⟩; have hb7 := hb5.trans (hb6.mono hb5.size)))
      go_ret
      exact ⟨rfl, hb7⟩
    · replace HP := Lib.hid (fun w1 h1 => by have := HP.out x 0 w1 h1; rw [show decide (x = x ∧ ((if true = true then 0 else 6 : Int)) = 0) = true from by simp] at this; exact this)
      go_enter Tryd.func3, Tryd.ntmps3
      go_wp2_with (first
        | (go_at_call 8; refine HR.out.mono ?_; rintro e w2 ⟨rfl, rfl⟩)
        | (go_at_call 9; refine HT.out.mono ?_; rintro e w2 ⟨rfl, hb2⟩)
        | (go_at_call 10; refine (HRT.out _).mono ?_; rintro e w3 ⟨rfl, rfl⟩)
        | (go_at_call 11; refine (HP.out _ hb2).mono ?_; rintro e w4 ⟨rfl, hb4⟩; have hb5 := hb2.trans (hb4.mono hb2.size))
        | (go_at_call 7; refine (HK.out _ hb5).mono ?_; rintro e w6 ⟨rfl, hb6⟩; have hb7 := hb5.trans (hb6.mono hb5.size)))
      go_ret
      exact ⟨rfl, hb7⟩
end Go.Proofs.YtcbekibofgcoaaaDoor.Num
