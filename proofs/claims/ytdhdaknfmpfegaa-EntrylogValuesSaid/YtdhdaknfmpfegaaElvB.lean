/-
  Package entrylog (layer 9): New, Len, at, Set.
-/
import Derived.Test.YtdhdaknfmpfegaaElvA
set_option linter.unusedVariables false
set_option linter.unusedSimpArgs false
namespace Go.Proofs.Ytdhdaknfmpfegaa.Elg
open Go Go.RowKit Kit Ent
abbrev lp (o : Nat) : Value := .pointer (some ⟨o, 0, none⟩)
set_option maxRecDepth 100000 in
theorem lnew_any (w : World) : Calls Try.prog 9 #[] w fun e w' => ∃ o, e = .returned (lp o) ∧ Lw w w' o 0 0 (fun _ => False) := by
  have hb : Below w.heap.size w (w.alloc (.cells #[.bool true, .int .i64 0, .slice none 0 0] 67)) := by go_grown
  have H := Lib.hid (show Lw w (w.alloc (.cells #[.bool true, .int .i64 0, .slice none 0 0] 67)) w.heap.size 0 0 (fun _ => False) from
    ⟨⟨none, 0, [], (MapKept.heap_alloc w _).1, World.ownsRow_nil _ _ _ _, fun i hi => by omega, fun y hy => by cases hy⟩, hb, Nat.le_refl _, fun h => h, fun _ h => h.elim⟩)
  clear hb
  go_enter Try.func9, Try.ntmps9
  go_wp2_with fail
  exact bodyPost_ret (v := lp w.heap.size) (by simp [results, Try.results9, go_sem]) rfl ⟨w.heap.size, rfl, H.out⟩
section
variable {w0 v v' : World} {o live n : Nat} {X : Nat → Prop}
set_option maxRecDepth 100000 in
theorem lzero_any (h : Lw w0 v o live n X) : Calls Try.prog 35 #[lp o] v fun e w' => e = .returned (.bool false) ∧ v = w' := by
  obtain ⟨p, c, c0, -⟩ := h.box
  clear h
  go_enter Try.func35, Try.ntmps35
  go_wp2_with fail
  exact bodyPost_ret (v := .bool false) (by simp [results, Try.results35, go_sem]) rfl ⟨rfl, rfl⟩
set_option maxRecDepth 100000 in
theorem llen_any (h : Lw w0 v o live n X) : Calls Try.prog 20 #[lp o] v fun e w' => e = .returned (.int .i64 (n : Int)) ∧ v = w' := by
  have HZ := Lib.hid (lzero_any h)
  obtain ⟨p, c, -, -, c2, -⟩ := h.box
  clear h
  go_enter Try.func20, Try.ntmps20
  go_wp2_with fail
  refine HZ.out.mono ?_
  rintro e w1 ⟨rfl, rfl⟩
  go_wp2_with fail
  exact bodyPost_ret (v := .int .i64 (n : Int)) (by simp [results, Try.results20, go_sem]) rfl ⟨rfl, rfl⟩
set_option maxRecDepth 100000 in
theorem tomb_no (k : ByteArray) (p : Option Addr) (l c : Nat) (d b : Int) (hb : b ≠ 0) (w : World) : Calls Try.prog 38 #[ent k p l c d b] w fun e w' => e = .returned (.bool false) ∧ Below w.heap.size w w' := by
  have h0 : (b == 0) = false := by rw [beq_eq_false_iff_ne]; exact hb
  clear hb
  go_enter Try.func38, Try.ntmps38
  go_wp2_with fail
  exact bodyPost_ret (v := .bool false) (by simp [results, Try.results38, go_sem]) rfl ⟨rfl, by go_grown⟩
set_option maxRecDepth 100000 in
theorem at_none (h : Lw w0 v o live n X) (slot : Nat) (hs : slot < 4294967296) (hn : n ≤ slot) : Calls Try.prog 40 #[lp o, .int .u32 (slot : Int)] v fun e w' => e = .returned (.tuple #[.pointer none, .int .i64 9]) ∧ v = w' := by
  have HZ := Lib.hid (lzero_any h)
  obtain ⟨p, c, -, -, c2, -⟩ := h.box
  have w1 : IntKind.i64.wrap (slot : Int) = (slot : Int) := IntWalk.i64_in _ (by omega)
  have h1 : (n : Int) ≤ (slot : Int) := by omega
  clear h hs
  go_enter Try.func40, Try.ntmps40
  go_wp2_with fail
  refine HZ.out.mono ?_
  rintro e w1 ⟨rfl, rfl⟩
  go_wp2_with fail
  exact bodyPost_ret (v := .tuple #[.pointer none, .int .i64 9]) (by simp [results, Try.results40, go_sem]) rfl ⟨rfl, rfl⟩
set_option maxRecDepth 100000 in
set_option maxHeartbeats 2000000 in
theorem at_some (h : Lw w0 v o live n X) (slot : Nat) (hs : slot < 4294967296) (hn : slot < n) (hn2 : n ≤ 1000000) : Calls Try.prog 40 #[lp o, .int .u32 (slot : Int)] v fun e w' => ∃ g c, e = .returned (.tuple #[.pointer (some ⟨g, slot * 4, none⟩), .int .i64 0]) ∧ v.cell? ⟨o, 2, none⟩ = some (.slice (some ⟨g, 0, none⟩) n c) ∧ Below v.heap.size v w' := by
  have HZ := Lib.hid (lzero_any h)
  obtain ⟨g, c, c2, hc, k, p, l, c', d, b, e0, e1, e2, e3, e4, ef⟩ := h.at_ hn
  have HC2 := Lib.hid c2
  have HT := Lib.hid (tomb_no k p l c' d b e4)
  have w1 : IntKind.i64.wrap (slot : Int) = (slot : Int) := IntWalk.i64_in _ (by omega)
  have h1 : ¬ (n : Int) ≤ (slot : Int) := by omega
  have h4 : ¬ n ≤ slot := by omega
  have hd : decide (n ≤ slot) = false := decide_eq_false h4
  have h2 : (slot : Int) < (n : Int) := by omega
  have h3 : (0 : Int) ≤ (slot : Int) := by omega
  have holt := h.olt
  clear h hs e4
  go_enter Try.func40, Try.ntmps40
  go_wp2_with fail
  refine HZ.out.mono ?_
  rintro e w1 ⟨rfl, rfl⟩
  go_wp2_with fail
  refine (HT.out _).mono ?_
  rintro e w2 ⟨rfl, b2⟩
  have B2 := Lib.hid b2
  have c3 : w2.cell? ⟨o, 2, none⟩ = some (.slice (some ⟨g, 0, none⟩) n c) := (b2.cell (p := ⟨o, 2, none⟩) holt).trans c2
  clear b2 e0 e1 e2 e3
  go_wp2_with fail
  exact bodyPost_ret (v := .tuple #[.pointer (some ⟨g, slot * 4, none⟩), .int .i64 0]) (by simp [results, Try.results40, go_sem]) rfl ⟨g, c, rfl, HC2.out, B2.out⟩
end
end Go.Proofs.Ytdhdaknfmpfegaa.Elg
