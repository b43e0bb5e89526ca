/-
  Walks over package bloom (layer 34): Has, Add, Places.
-/
import Derived.Test.YtohldfhelppehaaBloU
import Derived.RangeFuncBox
import Derived.RangeFuncNested
set_option linter.unusedVariables false
set_option linter.unusedSimpArgs false
namespace Go.Proofs.Ytohldfhelppehaa.Blo
open Go.RowKit Kit Hash
theorem own_below {B : Nat} {e : TypeId} {k : Nat} {v : Value} {n : Nat} {xs : List Value} {w w' : World} (h : w.ownsRow B e k v n xs) (hb : Below w.heap.size w w') : w'.ownsRow B e k v n xs := by
  obtain ⟨h1, h2⟩ := h
  refine ⟨h1, ?_⟩
  rcases h2 with h2 | ⟨g, cap, cur, hv, hg, hh, r⟩
  · exact .inl h2
  · exact .inr ⟨g, cap, cur, hv, hg, by rw [hb.block g (Array.getElem?_eq_some_iff.1 hh).1]; exact hh, r⟩
theorem info_int : (Try.prog.info? 3).map (fun i => (i.zero, i.size, i.bytes)) = some (some (.int .i64 0), 1, 8) := by kernel_rfl
set_option maxRecDepth 100000 in
theorem list1_any {W : World} (B ca n : Nat) (v : Value) (xs : List Int) (z : Int) (hn : n ≤ 100) (hB : B ≤ ca) (hBW : B ≤ W.heap.size)
    (hv : Boxed W ca 36 v) (hrow : W.ownsRow B 3 1 v n (xs.map (Value.int .i64))) :
    Calls Try.prog 67 #[.int .i64 z, .pointer (some ⟨ca, 0, none⟩)] W fun e w' => (∃ v, e = .returned v) ∧ ∃ v', Boxed w' ca 36 v' ∧ w'.ownsRow B 3 1 v' (n + 1) ((xs ++ [z]).map (Value.int .i64)) ∧ Below B W w' := by
  obtain ⟨i0, hi, hzz⟩ := Option.map_eq_some_iff.1 info_int
  simp only [Prod.mk.injEq] at hzz
  obtain ⟨hz0, hz1, hz2⟩ := hzz
  have hcc := hv.cell
  go_enter Try.func67, Try.ntmps67
  go_wp2_with (at_builtin; refine wpList_append_own _ rfl _ _ 36 rfl B 3 i0 (.int .i64 0) 1 8 Try.underlying36 hi hz0 hz1 hz2 rfl (by decide) _ _ _ rfl (hrow.alloc _) ⟨W.heap.size, 0, none⟩ 1 1 [.int .i64 z] rfl rfl (cell_one_new _ _ _) (by simp [Value.oneCell']) (by unfold maxLen; omega) (by omega) (by simp; omega) ?_; intro v' w1 hown' hgrow _; obtain ⟨g', cap', rfl⟩ := ownsRow_succ hown'; obtain ⟨hv1, hv2, hr2, hk2, hb2⟩ := hv.appended (by decide) hrow hBW hB hown' hgrow; have hc1 := hv1.cell; have hf1 := hv1.frozen)
  go_end0
  exact ⟨⟨_, rfl⟩, _, hv2, by simpa using hr2, hb2⟩
set_option maxRecDepth 100000 in
theorem hasR {W : World} {p q n : Nat} {hs sd : Int} {s : Nat → Bool} (h : Fl W p q n hs sd s) (ok : Ok n hs sd) (k : ByteArray) (hk : k.size ≤ maxLen) :
    Calls Try.prog 19 #[.pointer (some ⟨p, 0, none⟩), .string k] W fun e w' => e = .returned (.bool ((pls (sumN sd k) (64 * n) hs.toNat).all s)) ∧ Below W.heap.size W w' := by
  have HF := Lib.hid h
  have HOK := Lib.hid ok
  have HZ := Lib.hid (fun w (hb : Below W.heap.size W w) => isZero_no (h.below hb).b ok)
  clear h ok
  go_enter Try.func19, Try.ntmps19
  go_wp2_with fail
  refine (HZ.out _ (by go_grown)).mono ?_
  rintro e w1 ⟨rfl, rfl⟩
  go_wp2_with fail
  have hpW := HF.out.b.lt
  have hqW := HF.out.r.lt
  refine (each_has HOK.out k hk (W.heap.size + 1) W.heap.size (fun i w' => Fl w' p q n hs sd s ∧ Boxed w' (W.heap.size + 1) 4 (.bool ((pls (sumN sd k) (64 * n) i).all s)) ∧ Boxed w' W.heap.size 29 (.pointer (some ⟨p, 0, none⟩)) ∧ Below W.heap.size W w') (fun i w' h => h.1.b) ?_ _ ?_).mono ?_
  · rintro i w1 ⟨h1, h2, h3, h4⟩ hi
    refine (has1_any h1 HOK.out _ (pl_lt (by have := HOK.out.n1; omega)) _ _ _ h2.cell h2.frozen h3.cell).mono ?_
    rintro e w2 ⟨hv, rfl⟩
    have hbut : But (W.heap.size + 1) w1 (w1.setCell ⟨W.heap.size + 1, 0, none⟩ (.bool ((pls (sumN sd k) (64 * n) i).all s && s (pl (sumN sd k) (64 * n) i)))) := (But.refl _ _).setCell _
    refine ⟨hv, h1.but hbut (by omega) (by omega), ?_, h3.other (by omega) _, h4.setCell (p := ⟨W.heap.size + 1, 0, none⟩) (by simp) _⟩
    have := h2.set (.bool ((pls (sumN sd k) (64 * n) i).all s && s (pl (sumN sd k) (64 * n) i)))
    rw [pls_succ]
    simpa using this
  · intro w' hb
    have hb2 : Below W.heap.size W ((W.alloc (.cells #[.pointer (some ⟨p, 0, none⟩)] 29)).alloc (.cells #[.bool true] 4)) := by go_grown
    have hb3 : Below W.heap.size W w' := tr hb2 hb
    refine ⟨HF.out.below hb3, ?_, ?_, hb3⟩
    · have := Boxed.new (W.alloc (.cells #[.pointer (some ⟨p, 0, none⟩)] 29)) 4 (.bool true)
      rw [World.size_alloc] at this
      exact (hb.block _ this.lt).trans this
    · have := (Boxed.new W 29 (.pointer (some ⟨p, 0, none⟩))).alloc (.cells #[.bool true] 4)
      exact (hb.block _ this.lt).trans this
  · rintro e w3 ⟨⟨v, rfl⟩, h1, h2, h3, h4⟩
    have c2 := h2.cell
    go_wp2_with fail
    go_ret
    exact ⟨rfl, h4⟩
theorem _root_.Go.Proofs.Ytohldfhelppehaa.Kit.But.high {b j o : Nat} {w w' : World} (h : But b w w') (hj : w.heap.size ≤ j) (v : Value) : But b w (w'.setCell ⟨j, o, none⟩ v) := by
  have hb := (Below.refl j w').setCell (p := ⟨j, o, none⟩) (Nat.le_refl _) v
  exact ⟨hb.os.trans h.os, hb.tape.trans h.tape, hb.output.trans h.output, Nat.le_trans h.size hb.size, fun k hk hn => (Below.heap_setCell w' ⟨j, o, none⟩ v k (by show k ≠ j; omega)).trans (h.block k hk hn)⟩
theorem Fl.add {W1 : World} {p q n ca : Nat} {hs sd : Int} {S : Nat → Bool} (h : Fl W1 p q n hs sd S) {x : Nat} {v : Value} (h1 : p ≠ ca) (h2 : q ≠ ca) :
    Fl (((W1.setCell ⟨ca, 0, none⟩ v).setCell ⟨q, x / 64, none⟩ (.int .u64 (wd (ins S x) (x / 64)))).drew) p q n hs sd (ins S x) := by
  refine ⟨h.b.of_block ?_, ?_, h.ne⟩
  · exact (Below.heap_setCell (W1.setCell ⟨ca, 0, none⟩ v) ⟨q, x / 64, none⟩ _ p h.ne).trans (Below.heap_setCell W1 ⟨ca, 0, none⟩ _ p h1)
  · have := ((h.r.other (a := ⟨ca, 0, none⟩) h2 v).set (x / 64) (.int .u64 (wd (ins S x) (x / 64))))
    refine Row.of_block (W := (W1.setCell ⟨ca, 0, none⟩ v).setCell ⟨q, x / 64, none⟩ (.int .u64 (wd (ins S x) (x / 64)))) (this.congr fun i hi => ?_) rfl
    by_cases hx : i = x / 64
    · subst hx; simp
    · simp only [hx, if_false]; rw [wd_ins_other S x i hx]
theorem boxed_two {W : World} {B q o : Nat} {t : TypeId} {u v x : Value} (h : Boxed W B t u) (hne : B ≠ q) : Boxed ((W.setCell ⟨B, 0, none⟩ v).setCell ⟨q, o, none⟩ x).drew B t v :=
  (Below.heap_setCell (W.setCell ⟨B, 0, none⟩ v) ⟨q, o, none⟩ x B hne).trans (h.set v)
theorem boxed_far {W : World} {B a q o : Nat} {t : TypeId} {u v x : Value} (h : Boxed W B t u) (h1 : B ≠ a) (hne : B ≠ q) : Boxed ((W.setCell ⟨a, 0, none⟩ v).setCell ⟨q, o, none⟩ x).drew B t u :=
  (Below.heap_setCell (W.setCell ⟨a, 0, none⟩ v) ⟨q, o, none⟩ x B hne).trans ((Below.heap_setCell W ⟨a, 0, none⟩ v B h1).trans h)
theorem but_two {W W1 : World} {a q o : Nat} {v x : Value} (h : But q W W1) (h1 : W.heap.size ≤ a) : But q W ((W1.setCell ⟨a, 0, none⟩ v).setCell ⟨q, o, none⟩ x).drew :=
  ((h.high h1 v).setCell x).tr (Below.drew (Below.refl _ _))
theorem added_step (s : Nat → Bool) (l : List Nat) (x : Nat) : (!(l.all s) || !(insL s l x)) = !((l ++ [x]).all s) := by
  rw [List.all_append, insL_mem]
  cases h : l.all s
  · simp
  · by_cases hx : x ∈ l
    · have := List.all_eq_true.1 h x hx
      simp [hx, this]
    · simp [hx]
set_option maxRecDepth 100000 in
theorem addR {W : World} {p q n : Nat} {hs sd : Int} {s : Nat → Bool} (h : Fl W p q n hs sd s) (ok : Ok n hs sd) (k : ByteArray) (hk : k.size ≤ maxLen) :
    Calls Try.prog 22 #[.pointer (some ⟨p, 0, none⟩), .string k] W fun e w' => e = .returned (.tuple #[.bool (!(pls (sumN sd k) (64 * n) hs.toNat).all s), .int .i64 0]) ∧ Fl w' p q n hs sd (insL s (pls (sumN sd k) (64 * n) hs.toNat)) ∧ But q W w' := by
  have HF := Lib.hid h
  have HOK := Lib.hid ok
  have HZ := Lib.hid (fun w (hb : Below W.heap.size W w) => isZero_no (h.below hb).b ok)
  clear h ok
  go_enter Try.func22, Try.ntmps22
  go_wp2_with fail
  refine (HZ.out _ (by go_grown)).mono ?_
  rintro e w1 ⟨rfl, rfl⟩
  go_wp2_with fail
  have hpW := HF.out.b.lt
  have hqW := HF.out.r.lt
  have hne := HF.out.ne
  refine (each_add HOK.out k hk (W.heap.size + 1) W.heap.size (fun i w' => Fl w' p q n hs sd (insL s (pls (sumN sd k) (64 * n) i)) ∧ Boxed w' (W.heap.size + 1) 4 (.bool (!(pls (sumN sd k) (64 * n) i).all s)) ∧ Boxed w' W.heap.size 29 (.pointer (some ⟨p, 0, none⟩)) ∧ But q W w') (fun i w' h => h.1.b) ?_ _ ?_).mono ?_
  · rintro i W1 ⟨h1, h2, h3, h4⟩ hi
    have hlt : pl (sumN sd k) (64 * n) i < 64 * n := pl_lt (by have := HOK.out.n1; omega)
    refine (add1_any h1 HOK.out _ hlt _ _ _ (by omega) (by omega) h2.cell h2.frozen h3.cell (by omega)).mono ?_
    rintro e w2 ⟨hv, rfl⟩
    have e1 : insL s (pls (sumN sd k) (64 * n) (i + 1)) = ins (insL s (pls (sumN sd k) (64 * n) i)) (pl (sumN sd k) (64 * n) i) := by rw [pls_succ, insL_snoc]
    have e2 : (!(pls (sumN sd k) (64 * n) (i + 1)).all s) = (!(pls (sumN sd k) (64 * n) i).all s || !(insL s (pls (sumN sd k) (64 * n) i) (pl (sumN sd k) (64 * n) i))) := by rw [pls_succ, added_step]
    rw [e1, e2]
    generalize pl (sumN sd k) (64 * n) i = x at *
    generalize insL s (pls (sumN sd k) (64 * n) i) = S at *
    generalize (!(pls (sumN sd k) (64 * n) i).all s) = bb at *
    exact ⟨hv, h1.add (by omega) (by omega), boxed_two h2 (by omega), boxed_far h3 (by omega) (by omega), but_two h4 (by omega)⟩
  · intro w' hb
    have hb2 : Below W.heap.size W ((W.alloc (.cells #[.pointer (some ⟨p, 0, none⟩)] 29)).alloc (.cells #[.bool false] 4)) := by go_grown
    have hb3 : Below W.heap.size W w' := tr hb2 hb
    refine ⟨HF.out.below hb3, ?_, ?_, But.of hb3⟩
    · have := Boxed.new (W.alloc (.cells #[.pointer (some ⟨p, 0, none⟩)] 29)) 4 (.bool false)
      rw [World.size_alloc] at this
      exact (hb.block _ this.lt).trans this
    · have := (Boxed.new W 29 (.pointer (some ⟨p, 0, none⟩))).alloc (.cells #[.bool false] 4)
      exact (hb.block _ this.lt).trans this
  · rintro e w3 ⟨⟨v, rfl⟩, h1, h2, h3, h4⟩
    have c2 := h2.cell
    go_wp2_with fail
    go_ret2
    exact ⟨rfl, h1, h4⟩
set_option maxRecDepth 100000 in
theorem placesR {W : World} {p q n : Nat} {hs sd : Int} {s : Nat → Bool} (h : Fl W p q n hs sd s) (ok : Ok n hs sd) (k : ByteArray) (hk : k.size ≤ maxLen) :
    Calls Try.prog 51 #[.pointer (some ⟨p, 0, none⟩), .string k] W fun e w' => ∃ v, e = .returned (.tuple #[v, .int .i64 0]) ∧ w'.ownsRow W.heap.size 3 1 v hs.toNat ((pls (sumN sd k) (64 * n) hs.toNat).map fun x => .int .i64 (x : Nat)) ∧ Below W.heap.size W w' := by
  have HF := Lib.hid h
  have HOK := Lib.hid ok
  have HZ := Lib.hid (fun w (hb : Below W.heap.size W w) => isZero_no (h.below hb).b ok)
  have h1 := ok.h1
  have h2 := ok.h2
  have c0 := h.b.c0
  obtain ⟨i0, hi, hzz⟩ := Option.map_eq_some_iff.1 info_int
  simp only [Prod.mk.injEq] at hzz
  obtain ⟨hz0, hz1, hz2⟩ := hzz
  have hmk := fun w => run_make (P := Try.prog) w 36 3 i0 (.int .i64 0) (by kernel_rfl) hi hz0 .i64 .i64 0 hs (by omega) (by omega) (by rw [hz2]; omega) (by omega)
  clear h ok
  go_enter Try.func51, Try.ntmps51
  go_wp2_with fail
  refine (HZ.out _ (by go_grown)).mono ?_
  rintro e w1 ⟨rfl, rfl⟩
  go_wp2_with fail
  have hpW := HF.out.b.lt
  have hqW := HF.out.r.lt
  refine (each_list HOK.out k hk (W.heap.size + 1) (fun i w' => Fl w' p q n hs sd s ∧ (∃ v, Boxed w' (W.heap.size + 1) 36 v ∧ w'.ownsRow W.heap.size 3 1 v i (((pls (sumN sd k) (64 * n) i).map fun x => ((x : Nat) : Int)).map (Value.int .i64))) ∧ Below W.heap.size W w') (fun i w' h => h.1.b) ?_ _ ?_).mono ?_
  · rintro i w1 ⟨h1, ⟨v, h2, h3⟩, h4⟩ hi
    refine (list1_any W.heap.size (W.heap.size + 1) i v _ _ (by omega) (by omega) h4.size h2 h3).mono ?_
    rintro e w2 ⟨hv, v', h5, h6, h7⟩
    refine ⟨hv, HF.out.below (h4.trans h7), ⟨v', h5, ?_⟩, h4.trans h7⟩
    rw [pls_succ, List.map_append]
    exact h6
  · intro w' hb
    have hb2 : Below W.heap.size W ((W.alloc (.cells (madeCells #[.int .i64 0] hs.toNat) 3)).alloc (.cells #[.slice (some ⟨W.heap.size, 0, none⟩) 0 hs.toNat] 36)) := by go_grown
    have hb3 : Below W.heap.size W w' := tr hb2 hb
    refine ⟨HF.out.below hb3, ⟨.slice (some ⟨W.heap.size, 0, none⟩) 0 hs.toNat, ?_, ?_⟩, hb3⟩
    · have := Boxed.new (W.alloc (.cells (madeCells #[.int .i64 0] hs.toNat) 3)) 36 (.slice (some ⟨W.heap.size, 0, none⟩) 0 hs.toNat)
      rw [World.size_alloc] at this
      exact (hb.block _ this.lt).trans this
    · have h0 := World.ownsRow_made (base := W.heap.size) (e := 3) (size := 1) W (madeCells #[.int .i64 0] hs.toNat) hs.toNat (Nat.le_refl _) (by unfold maxLen; omega) (by simp [madeCells])
      exact own_below (h0.alloc _) hb
  · rintro e w3 ⟨⟨v, rfl⟩, h1, ⟨v2, h2, h3⟩, h4⟩
    have c2 := h2.cell
    go_wp2_with fail
    go_ret2
    exact ⟨v2, rfl, by simpa [Function.comp_def] using h3, h4⟩
end Go.Proofs.Ytohldfhelppehaa.Blo
