/-
  Walks over the reference of layer 31, and the law of new caches.
-/
import Derived.Test.YthghnnliahnnnaaSecW
import Derived.Test.YthghnnliahnnnaaEvX
import Derived.Test.YthghnnliahnnnaaK31known
import Derived.Deep.RegionHeld3
set_option linter.unusedVariables false
set_option linter.unusedSimpArgs false
namespace Go.Proofs.Ythghnnliahnnnaa.Sec
open Go.RowKit Kit
set_option maxRecDepth 100000 in
theorem New.has {W : World} {p n : Nat} (h : New W p n) (hn : 1 ≤ n) (hm : n ≤ 1024) (k : Int) :
    Calls Try.prog 90 #[.pointer (some ⟨p, 0, none⟩), .int .u32 k] W fun e w' => e = .returned (.bool false) ∧ W = w' := by
  have HZ := Lib.hid (h.zero hn hm)
  obtain ⟨q, m, h1, h2, -⟩ := h
  have k0 : W.cell? ⟨p, 2, none⟩ = some (.map (some m)) := by simp [World.cell?, h1]
  have hlk : (Instr.lookup 140 (.map (some m)) (.int .u32 k) true).run Try.prog W = .ok (.tuple #[.int .i64 0, .bool false]) W := by
    letI : Ev.Tab := ⟨[], []⟩
    have hu : Try.prog.underlying 140 = some (.map 50 3) := by kernel_rfl
    have hd : Try.prog.underlying 50 = some (.int .u32) := by kernel_rfl
    rw [Ev.lookup_run (P := Try.prog) (w := W) (t := 140) (k := .int .u32 k) (fs := #[]) true hu hd rfl (.inr ⟨m, 0, rfl, h2⟩) (a := none) rfl]
    have hz : (zeroValue 3).run Try.prog W = .ok (.int .i64 0) W := by kernel_rfl
    simp [hz]
  clear h1
  go_enter Try.func90, Try.ntmps90
  go_wp2_with fail
  refine HZ.out.mono ?_
  rintro e w1 ⟨rfl, rfl⟩
  go_wp2_with fail
  go_ret
  exact ⟨rfl, rfl⟩
theorem rplace_info : (Try.prog.info? 180).map (fun i => (i.zero, i.size, i.bytes)) = some (some (.agg #[.int .u32 0, .bool false, .bool false]), 3, 8) := by kernel_rfl
set_option maxRecDepth 100000 in
theorem rnew_any (n : Int) (w : World) (h0 : 1 ≤ n) (h1 : n ≤ 1024) :
    Calls Try.prog 28 #[.int .i64 n] w fun e w' => ∃ q, e = .returned (.tuple #[.agg #[.slice (some ⟨q, 0, none⟩) n.toNat n.toNat, .int .i64 0], .int .i64 0]) ∧ Row w' q n.toNat ∧ Below w.heap.size w w' := by
  have hmk := fun w => make_any (P := Try.prog) w 68 180 _ 3 8 (by kernel_rfl) rplace_info n (by omega) (by omega) (by omega)
  go_enter Try.func28, Try.ntmps28
  go_wp2_with fail
  refine bodyPost_ret (v := .tuple #[.agg #[.slice (some ⟨w.heap.size + 1, 0, none⟩) n.toNat n.toNat, .int .i64 0], .int .i64 0]) (by simp [results, Try.results28, go_sem]) rfl ⟨_, rfl, ?_, by go_grown⟩
  have := Row.new (w.alloc (Obj.cells #[Value.slice (some ⟨w.heap.size + 1, 0, none⟩) n.toNat n.toNat, Value.int IntKind.i64 0] 70)) n.toNat 180
  simpa [World.size_alloc] using this
set_option maxRecDepth 100000 in
theorem rring {W : World} {q n : Nat} (h : Row W q n) (hm : n ≤ 1024) :
    Calls Try.prog 84 #[.agg #[.slice (some ⟨q, 0, none⟩) n n, .int .i64 0]] W fun e w' => e = .returned (.tuple #[.slice none 0 0, .slice none 0 0]) ∧ Below W.heap.size W w' := by
  have H3 := Lib.hid h
  clear h
  go_enter Try.func84, Try.ntmps84
  go_wp2_with fail
  go_loopw [4, 5, 6] (fun k u i wr => ∃ j : Nat, j ≤ n ∧ k = .slice none 0 0 ∧ u = .slice none 0 0 ∧ i = .int .i64 j ∧ Below (W.heap.size + 1) (W.alloc (Obj.cells #[Value.slice (some ⟨q, 0, none⟩) n n, Value.int IntKind.i64 0] 70)) wr) (fun _ _ i _ => n - (intOf i).toNat)
  case atStart => exact ⟨0, by omega, rfl, rfl, rfl, by simpa [World.size_alloc] using Below.refl _ _⟩
  case round =>
    obtain ⟨j, hj, rfl, rfl, rfl, bW⟩ := hrel
    have hc0 : wr.cell? ⟨W.heap.size, 0, none⟩ = some (.slice (some ⟨q, 0, none⟩) n n) := by
      rw [bW.cell (p := ⟨W.heap.size, 0, none⟩) (by simp)]
      unfold World.cell?; rw [(MapKept.heap_alloc W _).1]; rfl
    have bW0 : Below W.heap.size W wr := (by go_grown : Below W.heap.size W (W.alloc (Obj.cells #[Value.slice (some ⟨q, 0, none⟩) n n, Value.int IntKind.i64 0] 70))).trans (bW.mono (by omega))
    have HB := Lib.hid bW
    have HB0 := Lib.hid bW0
    clear bW bW0
    by_cases hlt : j < n
    · have hr := H3.out.below HB0.out
      obtain ⟨r0, r1, r2⟩ := hr.2 j hlt
      have hq : q < wr.heap.size := hr.1
      clear hr
      go_wp2_with fail
      go_roundw
      case rel => exact ⟨j + 1, by omega, rfl, rfl, by go_num, HB.out⟩
      case measure => simp [intOf]; omega
    · obtain rfl : j = n := by omega
      go_wp2_with fail
      go_ret2
      exact ⟨rfl, HB0.out⟩
set_option maxRecDepth 100000 in
theorem rat {W : World} {q n : Nat} (h : Row W q n) (hm : n ≤ 1024) (k : Int) :
    Calls Try.prog 91 #[.agg #[.slice (some ⟨q, 0, none⟩) n n, .int .i64 0], .int .u32 k] W fun e w' => e = .returned (.int .i64 (-1)) ∧ Below W.heap.size W w' := by
  have H3 := Lib.hid h
  clear h
  go_enter Try.func91, Try.ntmps91
  go_wp2_with fail
  go_loopw [5] (fun i wr => ∃ j : Nat, j ≤ n ∧ i = .int .i64 j ∧ Below (W.heap.size + 1) (W.alloc (Obj.cells #[Value.slice (some ⟨q, 0, none⟩) n n, Value.int IntKind.i64 0] 70)) wr) (fun i _ => n - (intOf i).toNat)
  case atStart => exact ⟨0, by omega, rfl, by simpa [World.size_alloc] using Below.refl _ _⟩
  case round =>
    obtain ⟨j, hj, rfl, bW⟩ := hrel
    have hc0 : wr.cell? ⟨W.heap.size, 0, none⟩ = some (.slice (some ⟨q, 0, none⟩) n n) := by
      rw [bW.cell (p := ⟨W.heap.size, 0, none⟩) (by simp)]
      unfold World.cell?; rw [(MapKept.heap_alloc W _).1]; rfl
    have bW0 : Below W.heap.size W wr := (by go_grown : Below W.heap.size W (W.alloc (Obj.cells #[Value.slice (some ⟨q, 0, none⟩) n n, Value.int IntKind.i64 0] 70))).trans (bW.mono (by omega))
    have HB := Lib.hid bW
    have HB0 := Lib.hid bW0
    clear bW bW0
    by_cases hlt : j < n
    · have hr := H3.out.below HB0.out
      obtain ⟨r0, r1, r2⟩ := hr.2 j hlt
      have hq : q < wr.heap.size := hr.1
      clear hr
      go_wp2_with fail
      go_roundw
      case rel => exact ⟨j + 1, by omega, by go_num, HB.out⟩
      case measure => simp [intOf]; omega
    · obtain rfl : j = n := by omega
      go_wp2_with fail
      go_ret
      exact ⟨rfl, HB0.out⟩
theorem same_nil (w : World) : Calls Try.prog 85 #[.slice none 0 0, .slice none 0 0] w fun e w' => e = .returned (.bool true) ∧ Below w.heap.size w w' :=
  Ev.eval_case (T := []) (G := []) (L := 1000) (n := 60) (args := [.slice none 0 0, .slice none 0 0]) (by kernel_rfl) (by kernel_rfl) (fun _ => undef) w Ev.gnil (.cons (.nils _ _) (.cons (.nils _ _) .nil)) Ev.hnil
theorem marks_nil (w : World) : Calls Try.prog 86 #[.slice none 0 0, .slice none 0 0] w fun e w' => e = .returned (.bool true) ∧ Below w.heap.size w w' :=
  Ev.eval_case (T := []) (G := []) (L := 1000) (n := 60) (args := [.slice none 0 0, .slice none 0 0]) (by kernel_rfl) (by kernel_rfl) (fun _ => undef) w Ev.gnil (.cons (.nils _ _) (.cons (.nils _ _) .nil)) Ev.hnil
theorem ekeep {W a b : World} {q : Nat} {x0 x1 : Value} (k : Below a.heap.size a b) (h : a.cell? ⟨q, 0, none⟩ = some x0 ∧ a.cell? ⟨q, 1, none⟩ = some x1 ∧ q < a.heap.size ∧ Below W.heap.size W a) :
    b.cell? ⟨q, 0, none⟩ = some x0 ∧ b.cell? ⟨q, 1, none⟩ = some x1 ∧ q < b.heap.size ∧ Below W.heap.size W b := by
  obtain ⟨c, _, s⟩ := bcell k
  obtain ⟨h1, h2, h3, h4⟩ := h
  exact ⟨by rw [c _ _ h3]; exact h1, by rw [c _ _ h3]; exact h2, by omega, tr h4 k⟩
theorem Below.of_eq {B : Nat} {a b : World} (h : a = b) : Below B a b := by subst h; exact Below.refl _ _
/-- a contract at every later world -/
def At (W : World) (f : FuncId) (args : Array Value) (v : Value) : Prop := ∀ w, Below W.heap.size W w → Calls Try.prog f args w fun e w' => e = .returned v ∧ Below w.heap.size w w'
set_option maxHeartbeats 4000000 in
set_option maxRecDepth 100000 in
theorem equal_new {W : World} {p q n : Nat} (h : New W p n) (hr : Row W q n) (hn : 1 ≤ n) (hm : n ≤ 1024) :
    Calls Try.prog 29 #[.pointer (some ⟨p, 0, none⟩), .agg #[.slice (some ⟨q, 0, none⟩) n n, .int .i64 0], .int .u32 0] W fun e w' => e = .returned (.bool true) ∧ Below W.heap.size W w' := by
  have H := Lib.hid h
  have HR := Lib.hid hr
  clear h hr
  have a1 := Lib.hid (show At W 87 #[.pointer (some ⟨p, 0, none⟩)] (.int .i64 0) from fun w hw => ((H.out.below hw).hand hn hm).mono fun e w' h => ⟨h.1, Below.of_eq h.2⟩)
  have a2 := Lib.hid (show At W 88 #[.pointer (some ⟨p, 0, none⟩)] (.int .i64 0) from fun w hw => ((H.out.below hw).lenR hn hm).mono fun e w' h => ⟨h.1, Below.of_eq h.2⟩)
  have a3 := Lib.hid (show At W 89 #[.pointer (some ⟨p, 0, none⟩)] (.int .i64 n) from fun w hw => ((H.out.below hw).sizeR hn hm).mono fun e w' h => ⟨h.1, Below.of_eq h.2⟩)
  have a4 := Lib.hid (show At W 90 #[.pointer (some ⟨p, 0, none⟩), .int .u32 0] (.bool false) from fun w hw => ((H.out.below hw).has hn hm 0).mono fun e w' h => ⟨h.1, Below.of_eq h.2⟩)
  have a5 := Lib.hid (show At W 91 #[.agg #[.slice (some ⟨q, 0, none⟩) n n, .int .i64 0], .int .u32 0] (.int .i64 (-1)) from fun w hw => rat (HR.out.below hw) hm 0)
  go_enter Try.func29, Try.ntmps29
  go_wp2_with fail
  refine (H.out.below (by go_grown)).ringR hn hm |>.mono ?_
  rintro e w1 ⟨rfl, b1⟩
  have B1 := Lib.hid ((by go_grown : Below W.heap.size W _).trans (b1.mono (by simp)))
  obtain ⟨k1, f1, g1⟩ := bcell b1
  go_wp2_with fail
  refine (rring (HR.out.below B1.out) hm).mono ?_
  rintro e w2 ⟨rfl, b2⟩
  have B2 := Lib.hid (tr B1.out b2)
  have c0 : w2.cell? ⟨W.heap.size, 0, none⟩ = some (.slice (some ⟨q, 0, none⟩) n n) := by
    rw [(bcell b2).1 _ _ (by simp at g1; omega), k1 _ _ (by simp)]
    unfold World.cell?; rw [(MapKept.heap_alloc W _).1]; rfl
  have c1 : w2.cell? ⟨W.heap.size, 1, none⟩ = some (.int .i64 0) := by
    rw [(bcell b2).1 _ _ (by simp at g1; omega), k1 _ _ (by simp)]
    unfold World.cell?; rw [(MapKept.heap_alloc W _).1]; rfl
  have s2 : W.heap.size < w2.heap.size := by have := b2.size; simp at g1; omega
  clear b1 b2 k1 f1 g1
  go_wp2_with fail
  go_region_held3 (fun w' => w'.cell? ⟨W.heap.size, 0, none⟩ = some (.slice (some ⟨q, 0, none⟩) n n) ∧ w'.cell? ⟨W.heap.size, 1, none⟩ = some (.int .i64 0) ∧ W.heap.size < w'.heap.size ∧ Below W.heap.size W w')
    (first
      | (exact ekeep o1 (by assumption))
      | (exact ekeep (Below.drew (Below.refl _ _)) ⟨c0, c1, s2, B2.out⟩)
      | (exact ekeep o1 ⟨by assumption, by assumption, by assumption, by first | assumption | exact B2.out | exact Below.drew B2.out⟩)
      | (trace_state; fail))
    (first
      | (go_at_call 85; refine (same_nil _).mono ?_; rintro e w' ⟨rfl, o1⟩)
      | (go_at_call 86; refine (marks_nil _).mono ?_; rintro e w' ⟨rfl, o1⟩)
      | (go_at_call 87; refine (a1.out _ (by first | assumption | exact (by assumption : _ ∧ _ ∧ _ ∧ Below _ _ _).2.2.2)).mono ?_; rintro e w' ⟨rfl, o1⟩)
      | (go_at_call 88; refine (a2.out _ (by first | assumption | exact (by assumption : _ ∧ _ ∧ _ ∧ Below _ _ _).2.2.2)).mono ?_; rintro e w' ⟨rfl, o1⟩)
      | (go_at_call 89; refine (a3.out _ (by first | assumption | exact (by assumption : _ ∧ _ ∧ _ ∧ Below _ _ _).2.2.2)).mono ?_; rintro e w' ⟨rfl, o1⟩)
      | (go_at_call 90; refine (a4.out _ (by first | assumption | exact (by assumption : _ ∧ _ ∧ _ ∧ Below _ _ _).2.2.2)).mono ?_; rintro e w' ⟨rfl, o1⟩)
      | (go_at_call 91; refine (a5.out _ (by first | assumption | exact (by assumption : _ ∧ _ ∧ _ ∧ Below _ _ _).2.2.2)).mono ?_; rintro e w' ⟨rfl, o1⟩))
  go_wp2
  go_ret
  exact ⟨rfl, (by assumption : _ ∧ _ ∧ _ ∧ Below W.heap.size W _).2.2.2⟩
theorem known_any (w : World) : Calls Try.prog 30 #[] w fun e w' => e = .returned (.bool true) ∧ Below w.heap.size w w' :=
  Ev.eval_case YthghnnliahnnnaaK31known.known (by kernel_rfl) (fun _ => undef) w Ev.gnil .nil Ev.hnil
set_option maxHeartbeats 4000000 in
set_option maxRecDepth 100000 in
theorem law_ok (n : Int) (w : World) (h0 : 1 ≤ n) (h1 : n ≤ 1024) :
    Calls Try.prog 7 #[.int .i64 n] w fun e w' => e = .returned (.bool true) ∧ Below w.heap.size w w' := by
  have m0 : 1 ≤ n.toNat := by omega
  have m1 : n.toNat ≤ 1024 := by omega
  go_enter Try.func7, Try.ntmps7
  go_wp2_with fail
  refine (new_any n _ h0 h1).mono ?_
  rintro e w1 ⟨p, rfl, H1, b1⟩
  have HN := Lib.hid H1
  clear H1
  go_wp2_with fail
  refine (rnew_any n _ h0 h1).mono ?_
  rintro e w2 ⟨q, rfl, H2, b2⟩
  have HR := Lib.hid H2
  clear H2
  go_wp2_with fail
  refine (equal_new (HN.out.below (tr b2 (by go_grown))) (HR.out.below (by go_grown)) m0 m1).mono ?_
  rintro e w3 ⟨rfl, b3⟩
  have b4 := tr (tr (tr b1 b2) (by go_grown)) b3
  have B4 := Lib.hid b4
  clear b1 b2 b3 b4
  go_wp2_with fail
  refine (known_any _).mono ?_
  rintro e w5 ⟨rfl, b5⟩
  go_wp2_with fail
  go_ret
  exact ⟨rfl, tr B4.out b5⟩
end Go.Proofs.Ythghnnliahnnnaa.Sec
