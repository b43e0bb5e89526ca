/-
  Second chance (layer 31): the reference's Drop.
-/
import Derived.Test.YteppcjolgpdenaaSeqM
set_option linter.unusedVariables false
set_option linter.unusedSimpArgs false
namespace Go.Proofs.Yteppcjolgpdenaa.Seq
open Go Go.RowKit Kit Go.Maps
/-- a reference's value -/
abbrev rv (q n cap : Nat) (h : Int) : Value := .agg #[.slice (some ⟨q, 0, none⟩) n cap, .int .i64 h]
abbrev BoxR (w : World) (g : Nat) (x y : Value) : Prop := w.heap[g]? = some (.cells #[x, y] 30 (0, 0))
theorem BoxR.all {w : World} {g : Nat} {x y : Value} (h : BoxR w g x y) : w.cell? ⟨g, 0, none⟩ = some x ∧ w.cell? ⟨g, 1, none⟩ = some y ∧ ∀ j, w.frozen? ⟨g, j, none⟩ = false := by
  refine ⟨?_, ?_, fun j => ?_⟩ <;> simp [World.cell?, World.frozen?, show w.heap[g]? = _ from h]
theorem BoxR.set2 {w : World} {g : Nat} {x y : Value} (h : BoxR w g x y) (x' y' : Value) : BoxR ((w.setCell ⟨g, 0, none⟩ x').setCell ⟨g, 1, none⟩ y') g x' y' := by
  have h1 := heap_set (j := 1) (heap_set (j := 0) h x') y'
  simpa using h1
theorem two_boxes (W : World) (x y x' y' : Value) : BoxR ((W.alloc (.cells #[x, y] 30)).alloc (.cells #[x', y'] 30)) W.heap.size x y ∧ BoxR ((W.alloc (.cells #[x, y] 30)).alloc (.cells #[x', y'] 30)) (W.heap.size + 1) x' y' := by
  refine ⟨?_, ?_⟩
  · exact ((Below.refl _ _).alloc (Nat.le_refl _) _ |>.block W.heap.size (by simp)).trans (MapKept.heap_alloc W _).1
  · have := (MapKept.heap_alloc (W.alloc (.cells #[x, y] 30)) (.cells #[x', y'] 30)).1
    rw [World.size_alloc] at this
    exact this
theorem load_rv {w : World} {b q n cap : Nat} {h : Int} (hc : BoxR w b (.slice (some ⟨q, 0, none⟩) n cap) (.int .i64 h)) : (loadVar 30 ⟨b, 0, none⟩).run Try.prog w = .ok (rv q n cap h) w := by
  obtain ⟨c0, c1, -⟩ := BoxR.all hc
  simp [go_sem, c0, c1]
theorem results_rv {fn : Func} {t u : Tmp} (h : fn.results = #[.cell t 30, .tmp u]) (tmps : Array Value) {w : World} {b q n cap : Nat} {hd : Int} {r : Value} (hq : tmps.getD t undef = .pointer (some ⟨b, 0, none⟩)) (hu : tmps.getD u undef = r) (hc : BoxR w b (.slice (some ⟨q, 0, none⟩) n cap) (.int .i64 hd)) :
    (results fn tmps).run Try.prog w = .ok (.tuple #[rv q n cap hd, r]) w := by
  have hl := load_rv hc
  generalize rv q n cap hd = V at *
  unfold results
  rw [h]
  rw [Array.getD_eq_getD_getElem?] at hq hu
  simp [hq, hu, hl, asAddr]
theorem ret_rv {fn : Func} {t u : Tmp} (h : fn.results = #[.cell t 30, .tmp u]) {a : Act} {w : World} {R : Ending → World → Prop} {b q n cap : Nat} {hd : Int} {r : Value} (hq : a.tmps.getD t undef = .pointer (some ⟨b, 0, none⟩)) (hu : a.tmps.getD u undef = r) (hc : BoxR w b (.slice (some ⟨q, 0, none⟩) n cap) (.int .i64 hd)) (hd' : a.defers = [])
    (hR : R (.returned (.tuple #[rv q n cap hd, r])) w) : bodyPost Try.prog fn R .ret a w :=
  bodyPost_ret (results_rv h _ hq hu hc) hd' hR
set_option maxRecDepth 100000 in
set_option maxHeartbeats 400000 in
theorem rdrop_any {W : World} {q cap : Nat} {l : List Pl} (H : Rw W q l) (h1 : 1 ≤ l.length) (h2 : l.length ≤ 1024) (hd : Int) (k : Int) :
    Calls Try.prog 19 #[rv q l.length cap hd, .int .u32 k] W fun e w' => ∃ g cap', e = .returned (.tuple #[rv g l.length cap' hd, .bool (find l k).isSome]) ∧ Rw w' g (dropL l k) ∧ (g = q ∨ W.heap.size ≤ g) ∧ Below W.heap.size W w' := by
  have HR := Lib.hid H
  have HAT := Lib.hid (fun w' (hb : Below W.heap.size W w') => rat_any (cap := cap) (H.of (hb.block q H.lt)) h2 hd k)
  have HCP := Lib.hid (fun w' (hb : Below W.heap.size W w') => rcopy_any (cap := cap) (H.of (hb.block q H.lt)) h1 h2 hd)
  cases hf : find l k with
  | none =>
    have hat : atL l k = -1 := by unfold atL; rw [hf]
    have hdl : dropL l k = l := by unfold dropL; rw [hf]
    rw [hat] at HAT
    rw [hdl]
    clear H
    generalize l.length = n at *
    go_enter Try.func19, Try.ntmps19
    go_wp2_with fail
    refine (HAT.out _ (by go_grown)).mono ?_
    rintro e w1 ⟨rfl, b1⟩
    obtain ⟨x1, x2⟩ := two_boxes W (.slice (some ⟨q, 0, none⟩) n cap) (.int .i64 hd) (.slice none 0 0) (.int .i64 0)
    have X1 : BoxR w1 W.heap.size _ _ := (b1.block _ (by simp <;> omega)).trans x1
    have X2 : BoxR w1 (W.heap.size + 1) _ _ := (b1.block _ (by simp <;> omega)).trans x2
    have B1 := Lib.hid ((by go_grown : Below W.heap.size W _).trans (b1.mono (by simp <;> omega)))
    obtain ⟨c0, c1, -⟩ := X1.all
    obtain ⟨d0, d1, df⟩ := X2.all
    have HX2 := Lib.hid X2
    clear b1 x1 x2 X1 X2
    go_wp2_with fail
    exact ret_rv rfl rfl rfl (BoxR.set2 HX2.out _ _) rfl ⟨_, _, rfl, (HR.out.of (((B1.out.setCell (p := ⟨W.heap.size + 1, 0, none⟩) (by simp) _).setCell (p := ⟨W.heap.size + 1, 1, none⟩) (by simp) _).block q HR.out.lt)), .inl rfl, (B1.out.setCell (p := ⟨W.heap.size + 1, 0, none⟩) (by simp) _).setCell (p := ⟨W.heap.size + 1, 1, none⟩) (by simp) _⟩
  | some i =>
    have hat : atL l k = (i : Int) := by unfold atL; rw [hf]
    have hdl : dropL l k = l.set i ⟨0, false, false⟩ := by unfold dropL; rw [hf]
    have hi : i < l.length := (find_at hf).lt
    rw [hat] at HAT
    rw [hdl]
    have hlt : (i : Int) < (l.length : Int) := by omega
    have hlo : (0 : Int) ≤ (i : Int) := by omega
    have HPUT := Lib.hid (fun (w : World) (g : Nat) (h : Rw w g l) => (⟨h.put hi ⟨0, false, false⟩, h.at_ (List.getElem?_eq_getElem hi)⟩ : _ ∧ _))
    generalize l[i] = p0 at HPUT
    clear H hf hat hdl
    generalize hn : l.length = n at *
    clear hn
    go_enter Try.func19, Try.ntmps19
    go_wp2_with fail
    refine (HAT.out _ (by go_grown)).mono ?_
    rintro e w1 ⟨rfl, b1⟩
    obtain ⟨x1, x2⟩ := two_boxes W (.slice (some ⟨q, 0, none⟩) n cap) (.int .i64 hd) (.slice none 0 0) (.int .i64 0)
    have X1 : BoxR w1 W.heap.size _ _ := (b1.block _ (by simp <;> omega)).trans x1
    have X2 : BoxR w1 (W.heap.size + 1) _ _ := (b1.block _ (by simp <;> omega)).trans x2
    have B1 := Lib.hid ((by go_grown : Below W.heap.size W _).trans (b1.mono (by simp <;> omega)))
    have S1 : W.heap.size + 2 ≤ w1.heap.size := by have := b1.size; simpa using this
    obtain ⟨c0, c1, -⟩ := X1.all
    have HX1 := Lib.hid X1
    have HX2 := Lib.hid X2
    clear b1 x1 x2 X1 X2
    go_wp2_with fail
    refine (HCP.out _ B1.out).mono ?_
    rintro e w2 ⟨g, cap', rfl, hRw, hg, b2⟩
    have X1 : BoxR w2 W.heap.size _ _ := (b2.block _ (by omega)).trans HX1.out
    have X2 : BoxR w2 (W.heap.size + 1) _ _ := (b2.block _ (by omega)).trans HX2.out
    have B2 := Lib.hid (tr B1.out b2)
    obtain ⟨hput, e0, e1, e2, ef⟩ := HPUT.out _ _ hRw
    obtain ⟨c0', c1', cf'⟩ := X1.all
    obtain ⟨d0, d1, df⟩ := X2.all
    have hgc : ¬ g = W.heap.size := by omega
    have hgd : ¬ g = W.heap.size + 1 := by omega
    have HX1' := Lib.hid X1
    have HX2' := Lib.hid X2
    have HRW := Lib.hid hRw
    clear c0 c1 hput X1 X2 b2
    have hgc' : ¬ W.heap.size = g := by omega
    have hgd' : ¬ W.heap.size + 1 = g := by omega
    have HGW := Lib.hid (show W.heap.size + 2 ≤ g from by omega)
    clear hg hRw h1 h2 S1
    rename_i A1 HA1 A2 HA2
    have HH := Lib.hid HA1
    clear HA1
    go_wp2_with fail
    have B3 := Lib.hid ((B2.out.setCell (p := ⟨W.heap.size, 0, none⟩) (by simp) (.slice (some ⟨g, 0, none⟩) n cap')).setCell (p := ⟨W.heap.size, 1, none⟩) (by simp) (.int .i64 hd))
    have X1' := BoxR.set2 HX1'.out (.slice (some ⟨g, 0, none⟩) n cap') (.int .i64 hd)
    have X2' : BoxR ((w2.setCell ⟨W.heap.size, 0, none⟩ (.slice (some ⟨g, 0, none⟩) n cap')).setCell ⟨W.heap.size, 1, none⟩ (.int .i64 hd)) (W.heap.size + 1) _ _ := ((Below.heap_setCell _ _ _ (W.heap.size + 1) (by show W.heap.size + 1 ≠ W.heap.size; omega)).trans (Below.heap_setCell _ _ _ (W.heap.size + 1) (by show W.heap.size + 1 ≠ W.heap.size; omega))).trans HX2'.out
    have R3 : Rw ((w2.setCell ⟨W.heap.size, 0, none⟩ (.slice (some ⟨g, 0, none⟩) n cap')).setCell ⟨W.heap.size, 1, none⟩ (.int .i64 hd)) g l := HRW.out.of ((Below.heap_setCell _ _ _ g (by show g ≠ W.heap.size; omega)).trans (Below.heap_setCell _ _ _ g (by show g ≠ W.heap.size; omega)))
    clear e0 e1 e2 ef c0' c1' cf' d0 d1 df HX1' HX2' HRW
    generalize (w2.setCell ⟨W.heap.size, 0, none⟩ (.slice (some ⟨g, 0, none⟩) n cap')).setCell ⟨W.heap.size, 1, none⟩ (.int .i64 hd) = w3 at *
    obtain ⟨hput, e0, e1, e2, ef⟩ := HPUT.out _ _ R3
    have HPT := Lib.hid hput
    have HX1 := Lib.hid X1'
    have HX2 := Lib.hid X2'
    obtain ⟨c0, c1, cf⟩ := X1'.all
    obtain ⟨d0, d1, df⟩ := X2'.all
    clear hput R3 X1' X2'
    refine HH.out _ _ ?_
    clear HH
    go_wp2_with fail
    have hgw := HGW.out
    have e3 : ∀ b, b ≠ g → (((w3.setCell ⟨g, i * 3, none⟩ (.int .u32 0)).setCell ⟨g, i * 3 + 1, none⟩ (.bool false)).setCell ⟨g, i * 3 + 2, none⟩ (.bool false)).heap[b]? = w3.heap[b]? := fun b hb =>
      (Below.heap_setCell _ _ _ b hb).trans ((Below.heap_setCell _ _ _ b hb).trans (Below.heap_setCell _ _ _ b hb))
    refine ret_rv rfl rfl rfl (BoxR.set2 ((e3 _ (by omega)).trans HX2.out) _ _) rfl ⟨g, cap', rfl, HPT.out.of ?_, .inr (by omega), ?_⟩
    · exact (Below.heap_setCell _ _ _ g (by show g ≠ W.heap.size + 1; omega)).trans (Below.heap_setCell _ _ _ g (by show g ≠ W.heap.size + 1; omega))
    · exact ((((B3.out.setCell (p := ⟨g, i * 3, none⟩) (by show W.heap.size ≤ g; omega) _).setCell (p := ⟨g, i * 3 + 1, none⟩) (by show W.heap.size ≤ g; omega) _).setCell (p := ⟨g, i * 3 + 2, none⟩) (by show W.heap.size ≤ g; omega) _).setCell (p := ⟨W.heap.size + 1, 0, none⟩) (by simp) _).setCell (p := ⟨W.heap.size + 1, 1, none⟩) (by simp) _
end Go.Proofs.Yteppcjolgpdenaa.Seq
