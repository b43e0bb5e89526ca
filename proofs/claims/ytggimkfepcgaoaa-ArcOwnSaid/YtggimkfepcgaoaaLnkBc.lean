/-
  Links (layer 14): clear, New.
-/
import Derived.Test.YtggimkfepcgaoaaLnkJ
import Derived.Deep.RegionWith
import Derived.Test.YtggimkfepcgaoaaLnkM
set_option linter.unusedVariables false
set_option linter.unusedSimpArgs false
section
namespace Go.Proofs.Ytggimkfepcgaoaa.Lnk
open Go Go.RowKit Kit
/-- a row of numbers -/
def Lz (w : World) (r H : Nat) (L : Nat → Int) : Prop := ∃ cur, w.heap[r]? = some (.cells cur 3 (0, 0)) ∧ ∀ h, h < H → cur[h]? = some (.int .i64 (L h))
theorem Lz.lt {w : World} {r H : Nat} {L : Nat → Int} (h : Lz w r H L) : r < w.heap.size := by
  obtain ⟨cur, h1, -⟩ := h
  exact (Array.getElem?_eq_some_iff.1 h1).1
theorem Lz.of {w w' : World} {r H : Nat} {L : Nat → Int} (h : Lz w r H L) (hb : w'.heap[r]? = w.heap[r]?) : Lz w' r H L := by
  obtain ⟨cur, h1, h2⟩ := h
  exact ⟨cur, hb.trans h1, h2⟩
theorem Lz.at_ {w : World} {r H : Nat} {L : Nat → Int} (hL : Lz w r H L) {h : Nat} (hh : h < H) : w.cell? ⟨r, h, none⟩ = some (.int .i64 (L h)) ∧ w.frozen? ⟨r, h, none⟩ = false := by
  obtain ⟨cur, h1, h2⟩ := hL
  have e1 := h2 h hh
  exact ⟨by simp [World.cell?, h1, e1], by simp [World.frozen?, h1]⟩
theorem Lz.set {w : World} {r H : Nat} {L : Nat → Int} (hL : Lz w r H L) (h : Nat) (z : Int) : Lz (w.setCell ⟨r, h, none⟩ (.int .i64 z)) r H (fun k => if k = h then z else L k) := by
  obtain ⟨cur, h1, h2⟩ := hL
  refine ⟨_, heap_set h1 _, fun k hk => get_set (h2 k hk) ?_⟩
  by_cases hkh : k = h <;> simp [hkh]
/-- the object, its rings not looked at -/
structure Ro (w : World) (c q r cq cr N H : Nat) (F : Fd) (L : Nat → Int) : Prop where
  obj : w.heap[c]? = some (.cells #[.int .i64 (N : Int), .slice (some ⟨q, 0, none⟩) (N + H) cq, .slice (some ⟨r, 0, none⟩) H cr] 127 (0, 0))
  fw : Fw w q (N + H) F
  lw : Lz w r H L
  cq : c ≠ q
  cr : c ≠ r
  qr : q ≠ r
  n1 : 1 ≤ N
  n2 : N ≤ 4194304
  h2 : H ≤ 4096
theorem Ro.lt {w : World} {c q r cq cr N H : Nat} {F : Fd} {L : Nat → Int} (h : Ro w c q r cq cr N H F L) : c < w.heap.size ∧ q < w.heap.size ∧ r < w.heap.size := ⟨(Array.getElem?_eq_some_iff.1 h.obj).1, h.fw.lt, h.lw.lt⟩
theorem Ro.below {w w' : World} {c q r cq cr N H : Nat} {F : Fd} {L : Nat → Int} (h : Ro w c q r cq cr N H F L) (hb : Below w.heap.size w w') : Ro w' c q r cq cr N H F L :=
  ⟨(hb.block c h.lt.1).trans h.obj, h.fw.of (hb.block q h.lt.2.1), h.lw.of (hb.block r h.lt.2.2), h.cq, h.cr, h.qr, h.n1, h.n2, h.h2⟩
theorem Lo.raw {w : World} {c q r cq cr N : Nat} {F : Fd} {Ls : List (List Nat)} (H : Lo w c q r cq cr N F Ls) : Ro w c q r cq cr N Ls.length F (fun h => ((Ls[h]?.getD []).length : Int)) := by
  refine ⟨H.obj, H.fw, ?_, H.cq, H.cr, H.qr, H.n1, H.n2, H.h2⟩
  obtain ⟨cur, h1, h2⟩ := H.lw
  refine ⟨cur, h1, fun h hh => ?_⟩
  have := h2 h _ (List.getElem?_eq_getElem hh)
  rw [this]
  simp only [List.getElem?_eq_getElem hh, Option.getD_some]
theorem Ro.lo {w : World} {c q r cq cr N : Nat} {F : Fd} {Ls : List (List Nat)} {L : Nat → Int} (h : Ro w c q r cq cr N Ls.length F L) (hR : Ring F N Ls) (hL : ∀ (k : Nat) (l : List Nat), Ls[k]? = some l → L k = (l.length : Int)) (h1 : 1 ≤ Ls.length) : Lo w c q r cq cr N F Ls := by
  refine ⟨h.obj, h.fw, ?_, hR, h.cq, h.cr, h.qr, h.n1, h.n2, h1, h.h2⟩
  obtain ⟨cur, h3, h4⟩ := h.lw
  refine ⟨cur, h3, fun k l hl => ?_⟩
  rw [h4 k (List.getElem?_eq_some_iff.1 hl).1, hL k l hl]
theorem Ro.setH {w : World} {c q r cq cr N H : Nat} {F : Fd} {L : Nat → Int} (R : Ro w c q r cq cr N H F L) (i : Nat) (a : Int) : Ro (w.setCell ⟨q, i * 3 + 2, none⟩ (.int .i32 a)) c q r cq cr N H (F.upH i a) L :=
  ⟨(Below.heap_setCell _ _ _ c R.cq).trans R.obj, R.fw.setH i a, R.lw.of (Below.heap_setCell _ _ _ r R.qr.symm), R.cq, R.cr, R.qr, R.n1, R.n2, R.h2⟩
def clearF (F : Fd) (i : Nat) (h : Int) : Fd := ((F.upP i i).upN i i).upH i h
section
variable {w : World} {c q r cq cr N H : Nat} {F : Fd} {L : Nat → Int}
theorem rootR_any (R : Ro w c q r cq cr N H F L) {h : Nat} (hh : h < H) :
    Calls Try.prog 134 #[.pointer (some ⟨c, 0, none⟩), .int .i64 (h : Int)] w fun e w' => e = .returned (.int .u32 ((N + h : Nat) : Int)) ∧ w = w' := by
  obtain ⟨k0, k1, k2⟩ := obj_cells R.obj
  have n1 := R.n1
  have n2 := R.n2
  have h2 := R.h2
  have w1 := IntWalk.i64_in ((N : Int) + (h : Int)) (by omega)
  clear R
  go_enter Try.func134, Try.ntmps134
  go_wp2_with fail
  go_ret
  exact ⟨ret_int (by omega), rfl⟩
set_option maxRecDepth 100000 in
theorem clear_any (R : Ro w c q r cq cr N H F L) {h : Nat} (hh : h < H) :
    Calls Try.prog 72 #[.pointer (some ⟨c, 0, none⟩), .int .i64 (h : Int)] w fun e w' => e = .returned (.tuple #[]) ∧ Ro w' c q r cq cr N H (clearF F (N + h) h) (fun k => if k = h then 0 else L k) ∧ Kp (Ob c q r) w w' := by
  obtain ⟨k0, k1, k2⟩ := obj_cells R.obj
  have H1 := Lib.hid (rootR_any R hh)
  have hcq := R.cq
  have hqc := R.cq.symm
  have hcr := R.cr
  have hrc := R.cr.symm
  have hqr := R.qr
  have hrq := R.qr.symm
  have n2 := R.n2
  have h2 := R.h2
  obtain ⟨e0, e1, e2⟩ := R.fw.at_ (i := N + h) (by omega)
  obtain ⟨g0, g1⟩ := R.lw.at_ hh
  have f0 := R.fw.frozen
  have HR := Lib.hid R
  have i1 : ((N + h : Nat) : Int) < (N : Int) + (H : Int) := by omega
  have i2 : ((N + h : Nat) : Int) < ((N + H : Nat) : Int) := by omega
  have i3 : (0 : Int) ≤ ((N + h : Nat) : Int) := by omega
  have j1 : (h : Int) < (H : Int) := by omega
  have j3 : (0 : Int) ≤ (h : Int) := by omega
  have wh : IntKind.i32.wrap (h : Int) = (h : Int) := by
    have := IntWalk.i32_in (h : Int) (by omega)
    exact this
  clear R
  obtain ⟨M, hM⟩ : ∃ M, N + h = M := ⟨_, rfl⟩
  rw [hM] at i1 i2 i3 e0 e1 e2 H1 ⊢
  clear hM
  go_enter Try.func72, Try.ntmps72
  go_wp2_with fail
  refine H1.out.mono ?_
  rintro e w1 ⟨rfl, rfl⟩
  go_wp2_with fail
  refine bodyPost_end (v := .tuple #[]) (results_none rfl _ _ _) rfl ⟨rfl, ?_, ?_⟩
  · have hF := ((HR.out.fw.setP M M).setN M M).setH M (h : Int)
    have hr : ∀ (x : World) (j : Nat) (u : Value), (x.setCell ⟨q, j, none⟩ u).heap[r]? = x.heap[r]? := fun x j u => Below.heap_setCell _ _ _ r hrq
    have hc : ∀ (x : World) (j : Nat) (u : Value), (x.setCell ⟨q, j, none⟩ u).heap[c]? = x.heap[c]? := fun x j u => Below.heap_setCell _ _ _ c hcq
    exact ⟨(Below.heap_setCell _ _ _ c hcr).trans (((hc _ _ _).trans ((hc _ _ _).trans (hc _ _ _))).trans HR.out.obj), hF.of (Below.heap_setCell _ _ _ q hqr), (((HR.out.lw.of (hr _ (M * 3) (.int .u32 (M : Int)))).of (hr _ (M * 3 + 1) (.int .u32 (M : Int)))).of (hr _ (M * 3 + 2) (.int .i32 (h : Int)))).set h 0, hcq, hcr, hqr, HR.out.n1, n2, h2⟩
  · have hq : Ob c q r q := .inr (.inl rfl)
    have hr : Ob c q r r := .inr (.inr rfl)
    exact ((((Kp.refl _ w).setCell (.inl hq) _).setCell (.inl hq) _).setCell (.inl hq) _).setCell (.inl hr) _
end
theorem node_info : (Try.prog.info? 129).map (fun i => (i.zero, i.size, i.bytes)) = some (some (.agg #[.int .u32 0, .int .u32 0, .int .i32 0]), 3, 12) := by kernel_rfl
theorem int_info : (Try.prog.info? 3).map (fun i => (i.zero, i.size, i.bytes)) = some (some (.int .i64 0), 1, 8) := by kernel_rfl
/-- 'make([]T, n)', n open, T of any size -/
theorem make_any {P : Program} (w : World) (t e : TypeId) (z : Value) (s bytes : Nat) (ht : P.underlying t = some (.slice e)) (hinfo : (P.info? e).map (fun i => (i.zero, i.size, i.bytes)) = some (some z, s, bytes))
    (n : Nat) (h1 : n ≤ 10000000) (hb : bytes ≤ 1000) :
    (Instr.makeSlice t (.int .i64 (n : Int)) (.int .i64 (n : Int))).run P w = .ok (.slice (some ⟨w.heap.size, 0, none⟩) n n) (w.alloc (.cells (madeCells z.cells (n * s)) e)) := by
  obtain ⟨i, hi, hzz⟩ := Option.map_eq_some_iff.1 hinfo
  simp only [Prod.mk.injEq] at hzz
  obtain ⟨hz, hs, hb'⟩ := hzz
  have hbb : (i.bytes : Int) * (n : Int) ≤ 281474976710656 := by
    rw [hb']
    have h2 : (bytes : Int) ≤ 1000 := by omega
    have := Int.mul_le_mul h2 (show (n : Int) ≤ 10000000 by omega) (by omega) (by omega)
    omega
  have hr := run_make (P := P) w t e i z ht hi hz .i64 .i64 (n : Int) (n : Int) (by omega) (Int.le_refl _) hbb (by omega)
  rw [hs] at hr
  simpa using hr
def blankF : Fd := ⟨fun _ => 0, fun _ => 0, fun _ => 0⟩
theorem made_fw (w w' : World) (M q : Nat) (h : w'.heap[q]? = some (.cells (madeCells #[.int .u32 0, .int .u32 0, .int .i32 0] (M * 3)) 129 (0, 0))) : Fw w' q M blankF := by
  refine ⟨_, h, fun i hi => ?_⟩
  have key : ∀ j, j < M * 3 → (madeCells #[.int .u32 0, .int .u32 0, .int .i32 0] (M * 3))[j]? = some ((#[.int .u32 0, .int .u32 0, .int .i32 0] : Array Value)[j % 3]!) := by
    intro j hj
    simp [madeCells, hj]
  refine ⟨(key _ (by omega)).trans ?_, (key _ (by omega)).trans ?_, (key _ (by omega)).trans ?_⟩
  · rw [show i * 3 % 3 = 0 by omega]; rfl
  · rw [show (i * 3 + 1) % 3 = 1 by omega]; rfl
  · rw [show (i * 3 + 2) % 3 = 2 by omega]; rfl
theorem made_lz (w' : World) (H r : Nat) (h : w'.heap[r]? = some (.cells (madeCells #[.int .i64 0] (H * 1)) 3 (0, 0))) : Lz w' r H (fun _ => 0) := by
  refine ⟨_, h, fun i hi => ?_⟩
  have hi' : i < H * 1 := by omega
  have key : (madeCells #[.int .i64 0] (H * 1))[i]? = some ((#[.int .i64 0] : Array Value)[i % 1]!) := by simp [madeCells, hi]
  rw [key, Nat.mod_one]
  rfl
end Go.Proofs.Ytggimkfepcgaoaa.Lnk
end
section
namespace Go.Proofs.Ytggimkfepcgaoaa.Lnk
open Go Go.RowKit Kit
theorem box_below2 (W : World) (o : Obj) : Below W.heap.size W (W.alloc o) := by go_grown
theorem made_lz2 (w' : World) (H r : Nat) (h : w'.heap[r]? = some (.cells (madeCells #[.int .i64 0] H) 3 (0, 0))) : Lz w' r H (fun _ => 0) := made_lz w' H r (by rw [Nat.mul_one]; exact h)
theorem raw1 (w : World) (N H : Nat) (n1 : 1 ≤ N) (n2 : N ≤ 4194304) (h2 : H ≤ 4096) : Ro (((w.alloc (.cells (madeCells #[.int .u32 0, .int .u32 0, .int .i32 0] ((N + H) * 3)) 129)).alloc (.cells (madeCells #[.int .i64 0] H) 3)).alloc (.cells #[.int .i64 (N : Int), .slice (some ⟨w.heap.size, 0, none⟩) (N + H) (N + H), .slice (some ⟨(w.heap.size + 1), 0, none⟩) H H] 127)).drew (w.heap.size + 1 + 1) w.heap.size (w.heap.size + 1) (N + H) H N H blankF (fun _ => 0) ∧ Below w.heap.size w (((w.alloc (.cells (madeCells #[.int .u32 0, .int .u32 0, .int .i32 0] ((N + H) * 3)) 129)).alloc (.cells (madeCells #[.int .i64 0] H) 3)).alloc (.cells #[.int .i64 (N : Int), .slice (some ⟨w.heap.size, 0, none⟩) (N + H) (N + H), .slice (some ⟨(w.heap.size + 1), 0, none⟩) H H] 127)).drew := by
  have e1 := (MapKept.heap_alloc w (.cells (madeCells #[.int .u32 0, .int .u32 0, .int .i32 0] ((N + H) * 3)) 129)).1
  have e2 := (MapKept.heap_alloc (w.alloc (.cells (madeCells #[.int .u32 0, .int .u32 0, .int .i32 0] ((N + H) * 3)) 129)) (.cells (madeCells #[.int .i64 0] H) 3)).1
  have e3 := (MapKept.heap_alloc ((w.alloc (.cells (madeCells #[.int .u32 0, .int .u32 0, .int .i32 0] ((N + H) * 3)) 129)).alloc (.cells (madeCells #[.int .i64 0] H) 3)) (.cells #[.int .i64 (N : Int), .slice (some ⟨w.heap.size, 0, none⟩) (N + H) (N + H), .slice (some ⟨(w.heap.size + 1), 0, none⟩) H H] 127)).1
  simp only [World.size_alloc] at e2 e3
  have b2 := box_below2 (w.alloc (.cells (madeCells #[.int .u32 0, .int .u32 0, .int .i32 0] ((N + H) * 3)) 129)) (.cells (madeCells #[.int .i64 0] H) 3)
  have b3 := box_below2 ((w.alloc (.cells (madeCells #[.int .u32 0, .int .u32 0, .int .i32 0] ((N + H) * 3)) 129)).alloc (.cells (madeCells #[.int .i64 0] H) 3)) (.cells #[.int .i64 (N : Int), .slice (some ⟨w.heap.size, 0, none⟩) (N + H) (N + H), .slice (some ⟨(w.heap.size + 1), 0, none⟩) H H] 127)
  have k1 := (b3.block _ (by simp only [World.size_alloc]; omega)).trans ((b2.block _ (by simp only [World.size_alloc]; omega)).trans e1)
  have k2 := (b3.block _ (by simp only [World.size_alloc]; omega)).trans e2
  refine ⟨⟨e3, ?_, ?_, by omega, by omega, by omega, n1, n2, h2⟩, by go_grown⟩
  · exact made_fw w _ _ _ k1
  · exact made_lz2 _ _ _ k2
theorem raw2 (w : World) (N H : Nat) (n1 : 1 ≤ N) (n2 : N ≤ 4194304) (h2 : H ≤ 4096) : Ro (((w.alloc (.cells (madeCells #[.int .i64 0] H) 3)).alloc (.cells (madeCells #[.int .u32 0, .int .u32 0, .int .i32 0] ((N + H) * 3)) 129)).alloc (.cells #[.int .i64 (N : Int), .slice (some ⟨(w.heap.size + 1), 0, none⟩) (N + H) (N + H), .slice (some ⟨w.heap.size, 0, none⟩) H H] 127)).drew (w.heap.size + 1 + 1) (w.heap.size + 1) w.heap.size (N + H) H N H blankF (fun _ => 0) ∧ Below w.heap.size w (((w.alloc (.cells (madeCells #[.int .i64 0] H) 3)).alloc (.cells (madeCells #[.int .u32 0, .int .u32 0, .int .i32 0] ((N + H) * 3)) 129)).alloc (.cells #[.int .i64 (N : Int), .slice (some ⟨(w.heap.size + 1), 0, none⟩) (N + H) (N + H), .slice (some ⟨w.heap.size, 0, none⟩) H H] 127)).drew := by
  have e1 := (MapKept.heap_alloc w (.cells (madeCells #[.int .i64 0] H) 3)).1
  have e2 := (MapKept.heap_alloc (w.alloc (.cells (madeCells #[.int .i64 0] H) 3)) (.cells (madeCells #[.int .u32 0, .int .u32 0, .int .i32 0] ((N + H) * 3)) 129)).1
  have e3 := (MapKept.heap_alloc ((w.alloc (.cells (madeCells #[.int .i64 0] H) 3)).alloc (.cells (madeCells #[.int .u32 0, .int .u32 0, .int .i32 0] ((N + H) * 3)) 129)) (.cells #[.int .i64 (N : Int), .slice (some ⟨(w.heap.size + 1), 0, none⟩) (N + H) (N + H), .slice (some ⟨w.heap.size, 0, none⟩) H H] 127)).1
  simp only [World.size_alloc] at e2 e3
  have b2 := box_below2 (w.alloc (.cells (madeCells #[.int .i64 0] H) 3)) (.cells (madeCells #[.int .u32 0, .int .u32 0, .int .i32 0] ((N + H) * 3)) 129)
  have b3 := box_below2 ((w.alloc (.cells (madeCells #[.int .i64 0] H) 3)).alloc (.cells (madeCells #[.int .u32 0, .int .u32 0, .int .i32 0] ((N + H) * 3)) 129)) (.cells #[.int .i64 (N : Int), .slice (some ⟨(w.heap.size + 1), 0, none⟩) (N + H) (N + H), .slice (some ⟨w.heap.size, 0, none⟩) H H] 127)
  have k1 := (b3.block _ (by simp only [World.size_alloc]; omega)).trans ((b2.block _ (by simp only [World.size_alloc]; omega)).trans e1)
  have k2 := (b3.block _ (by simp only [World.size_alloc]; omega)).trans e2
  refine ⟨⟨e3, ?_, ?_, by omega, by omega, by omega, n1, n2, h2⟩, by go_grown⟩
  · exact made_fw w _ _ _ k2
  · exact made_lz2 _ _ _ k1
set_option maxRecDepth 100000 in
theorem New_bad {n h : Int} (w : World) (hh : ¬ (1 ≤ n ∧ n ≤ 4194304 ∧ 1 ≤ h ∧ h ≤ 4096)) :
    Calls Try.prog 16 #[.int .i64 n, .int .i64 h] w fun e w' => e = .returned (.tuple #[.pointer none, .int .i64 2]) ∧ Below w.heap.size w w' := by
  have hc : n < 1 ∨ (¬ n < 1 ∧ 4194304 < n) ∨ (¬ n < 1 ∧ ¬ 4194304 < n ∧ h < 1) ∨ (¬ n < 1 ∧ ¬ 4194304 < n ∧ ¬ h < 1 ∧ 4096 < h) := by omega
  clear hh
  rcases hc with h1 | ⟨h1, h2⟩ | ⟨h1, h2, h3⟩ | ⟨h1, h2, h3, h4⟩
  all_goals (
    go_enter Try.func16, Try.ntmps16
    go_wp2_with fail
    go_ret2
    exact ⟨rfl, Below.refl _ _⟩)
set_option maxRecDepth 100000 in
theorem New_ok (N H : Nat) (w : World) (n1 : 1 ≤ N) (n2 : N ≤ 4194304) (h1 : 1 ≤ H) (h2 : H ≤ 4096) :
    Calls Try.prog 16 #[.int .i64 (N : Int), .int .i64 (H : Int)] w fun e w' => (∃ c q r F, e = .returned (.tuple #[.pointer (some ⟨c, 0, none⟩), .int .i64 0]) ∧ Lo w' c q r (N + H) H N F (List.replicate H []) ∧ w.heap.size ≤ c ∧ w.heap.size ≤ q ∧ w.heap.size ≤ r) ∧ Below w.heap.size w w' := by
  have a1 : ¬ (N : Int) < 1 := by omega
  have a2 : ¬ (4194304 : Int) < (N : Int) := by omega
  have a3 : ¬ (H : Int) < 1 := by omega
  have a4 : ¬ (4096 : Int) < (H : Int) := by omega
  have ws := IntWalk.i64_in ((N : Int) + (H : Int)) (by omega)
  have hm1 := fun w => make_any (P := Try.prog) w 124 129 _ 3 12 (by kernel_rfl) node_info (N + H) (by omega) (by omega)
  have hm2 := fun w => make_any (P := Try.prog) w 125 3 _ 1 8 (by kernel_rfl) int_info H (by omega) (by omega)
  rw [show ((N + H : Nat) : Int) = (N : Int) + (H : Int) from by omega] at hm1
  go_enter Try.func16, Try.ntmps16
  go_wp2_with fail
  go_region_with fail
  · have hR : ∃ V, V = (((w.alloc (.cells (madeCells #[.int .u32 0, .int .u32 0, .int .i32 0] ((N + H) * 3)) 129)).alloc (.cells (madeCells #[.int .i64 0] H) 3)).alloc (.cells #[.int .i64 (N : Int), .slice (some ⟨w.heap.size, 0, none⟩) (N + H) (N + H), .slice (some ⟨(w.heap.size + 1), 0, none⟩) H H] 127)).drew := ⟨_, rfl⟩
    obtain ⟨V, hV⟩ := hR
    rw [← hV]
    obtain ⟨r0, b0⟩ := raw1 w N H n1 n2 h2
    rw [← hV] at r0 b0
    have R0 := Lib.hid r0
    have B0 := Lib.hid b0
    clear r0 b0 hV
    have d1 : w.heap.size ≤ w.heap.size + 1 + 1 := by omega
    have d2 : w.heap.size ≤ w.heap.size + 1 := by omega
    have d3 : w.heap.size ≤ w.heap.size := by omega
    as_aux_lemma =>
      go_wp2_with fail
      go_loopw [33] (fun v wr => ∃ (i : Nat) (F : Fd), i ≤ N ∧ v = .int .i64 i ∧ (∀ x, x < i → F.hd x = -1) ∧ Ro wr (w.heap.size + 1 + 1) w.heap.size (w.heap.size + 1) (N + H) H N H F (fun _ => 0) ∧ Below w.heap.size w wr) (fun v _ => N - (intOf v).toNat)
      case atStart => exact ⟨0, blankF, by omega, rfl, fun x hx => by omega, R0.out, B0.out⟩
      case round =>
        obtain ⟨i, F, hi, rfl, hF, hR, bW⟩ := hrel
        have BW := Lib.hid bW
        have RO := Lib.hid hR
        have HF := Lib.hid hF
        obtain ⟨k0, k1, k2⟩ := obj_cells hR.obj
        clear bW hR hF
        have i0 : (0 : Int) ≤ (i : Int) := by omega
        by_cases hin : i = N
        · subst hin
          go_wp2_with fail
          go_loopw [45] (fun v wr => ∃ (j : Nat) (F : Fd), j ≤ H ∧ v = .int .i64 j ∧ (∀ x, x < i → F.hd x = -1) ∧ (∀ h, h < j → F.nx (i + h) = i + h ∧ F.pv (i + h) = i + h ∧ F.hd (i + h) = (h : Int)) ∧ Ro wr (w.heap.size + 1 + 1) w.heap.size (w.heap.size + 1) (i + H) H i H F (fun _ => 0) ∧ Below w.heap.size w wr) (fun v _ => H - (intOf v).toNat)
          case atStart => exact ⟨0, F, by omega, rfl, HF.out, fun h hh => by omega, RO.out, BW.out⟩
          case round =>
            obtain ⟨j, G, hj, rfl, hG, hG2, hR, bW⟩ := hrel
            have BW2 := Lib.hid bW
            have RO2 := Lib.hid hR
            have HG := Lib.hid hG
            have HG2 := Lib.hid hG2
            obtain ⟨k0, k1, k2⟩ := obj_cells hR.obj
            clear bW hR hG hG2
            have j0 : (0 : Int) ≤ (j : Int) := by omega
            by_cases hjn : j = H
            · subst hjn
              have HLO := Lib.hid (show Lo wr (w.heap.size + 1 + 1) w.heap.size (w.heap.size + 1) (i + j) j i G (List.replicate j []) from by
                have hl : (List.replicate j ([] : List Nat)).length = j := List.length_replicate
                have hr := Ring.blank (H := j) (fun h hh => HG2.out h hh) HG.out
                have ro := RO2.out
                refine Ro.lo (L := fun _ => 0) (by rw [hl]; exact ro) hr (fun k l hk => ?_) (by rw [hl]; exact h1)
                rw [List.getElem?_replicate] at hk
                split at hk
                · cases hk; rfl
                · cases hk)
              go_wp2_with fail
              go_ret2
              exact ⟨⟨_, _, _, G, rfl, HLO.out, by omega, by omega, by omega⟩, BW2.out⟩
            · have hlt : j < H := by omega
              have hlt' : (j : Int) < (H : Int) := by omega
              go_wp2_with fail
              refine (clear_any RO2.out hlt).mono ?_
              rintro e w5 ⟨rfl, r5, k5⟩
              have R5 := Lib.hid r5
              have B5 := Lib.hid (BW2.out.trans (k5.below (n := w.heap.size) (fun k hk ho => by rcases ho with rfl | rfl | rfl <;> omega) BW2.out.size))
              clear r5 k5
              go_wp2_with fail
              go_roundw
              case rel =>
                refine ⟨j + 1, clearF G (i + j) j, by omega, by go_num, fun x hx => ?_, fun h hh => ?_, ?_, B5.out⟩
                · show (if x = i + j then (j : Int) else G.hd x) = -1
                  rw [if_neg (by omega)]
                  exact HG.out x hx
                · show (if i + h = i + j then i + j else G.nx (i + h)) = i + h ∧ (if i + h = i + j then i + j else G.pv (i + h)) = i + h ∧ (if i + h = i + j then (j : Int) else G.hd (i + h)) = (h : Int)
                  by_cases hhj : h = j
                  · subst hhj; simp
                  · rw [if_neg (by omega), if_neg (by omega), if_neg (by omega)]
                    exact HG2.out h (by omega)
                · have := R5.out
                  have e : (fun k => if k = j then (0 : Int) else 0) = fun _ => 0 := by funext k; simp
                  rwa [e] at this
              case measure => simp [intOf]; omega
        · have hlt : i < N := by omega
          have hlt' : (i : Int) < (N : Int) := by omega
          have i1 : (i : Int) < (N : Int) + (H : Int) := by omega
          have i2 : (i : Int) < ((N + H : Nat) : Int) := by omega
          obtain ⟨_, _, e2⟩ := RO.out.fw.at_ (i := i) (by omega)
          have f0 := RO.out.fw.frozen
          go_wp2_with fail
          go_roundw
          case rel =>
            refine ⟨i + 1, F.upH i (-1), by omega, by go_num, fun x hx => ?_, RO.out.setH i (-1), BW.out.setCell (p := ⟨w.heap.size, i * 3 + 2, none⟩) (by show w.heap.size ≤ _; omega) _⟩
            show (if x = i then -1 else F.hd x) = -1
            by_cases hxi : x = i
            · rw [if_pos hxi]
            · rw [if_neg hxi]; exact HF.out x (by omega)
          case measure => simp [intOf]; omega
  · have hR : ∃ V, V = (((w.alloc (.cells (madeCells #[.int .i64 0] H) 3)).alloc (.cells (madeCells #[.int .u32 0, .int .u32 0, .int .i32 0] ((N + H) * 3)) 129)).alloc (.cells #[.int .i64 (N : Int), .slice (some ⟨(w.heap.size + 1), 0, none⟩) (N + H) (N + H), .slice (some ⟨w.heap.size, 0, none⟩) H H] 127)).drew := ⟨_, rfl⟩
    obtain ⟨V, hV⟩ := hR
    rw [← hV]
    obtain ⟨r0, b0⟩ := raw2 w N H n1 n2 h2
    rw [← hV] at r0 b0
    have R0 := Lib.hid r0
    have B0 := Lib.hid b0
    clear r0 b0 hV
    have d1 : w.heap.size ≤ w.heap.size + 1 + 1 := by omega
    have d2 : w.heap.size ≤ w.heap.size + 1 := by omega
    have d3 : w.heap.size ≤ w.heap.size := by omega
    as_aux_lemma =>
      go_wp2_with fail
      go_loopw [33] (fun v wr => ∃ (i : Nat) (F : Fd), i ≤ N ∧ v = .int .i64 i ∧ (∀ x, x < i → F.hd x = -1) ∧ Ro wr (w.heap.size + 1 + 1) (w.heap.size + 1) w.heap.size (N + H) H N H F (fun _ => 0) ∧ Below w.heap.size w wr) (fun v _ => N - (intOf v).toNat)
      case atStart => exact ⟨0, blankF, by omega, rfl, fun x hx => by omega, R0.out, B0.out⟩
      case round =>
        obtain ⟨i, F, hi, rfl, hF, hR, bW⟩ := hrel
        have BW := Lib.hid bW
        have RO := Lib.hid hR
        have HF := Lib.hid hF
        obtain ⟨k0, k1, k2⟩ := obj_cells hR.obj
        clear bW hR hF
        have i0 : (0 : Int) ≤ (i : Int) := by omega
        by_cases hin : i = N
        · subst hin
          go_wp2_with fail
          go_loopw [45] (fun v wr => ∃ (j : Nat) (F : Fd), j ≤ H ∧ v = .int .i64 j ∧ (∀ x, x < i → F.hd x = -1) ∧ (∀ h, h < j → F.nx (i + h) = i + h ∧ F.pv (i + h) = i + h ∧ F.hd (i + h) = (h : Int)) ∧ Ro wr (w.heap.size + 1 + 1) (w.heap.size + 1) w.heap.size (i + H) H i H F (fun _ => 0) ∧ Below w.heap.size w wr) (fun v _ => H - (intOf v).toNat)
          case atStart => exact ⟨0, F, by omega, rfl, HF.out, fun h hh => by omega, RO.out, BW.out⟩
          case round =>
            obtain ⟨j, G, hj, rfl, hG, hG2, hR, bW⟩ := hrel
            have BW2 := Lib.hid bW
            have RO2 := Lib.hid hR
            have HG := Lib.hid hG
            have HG2 := Lib.hid hG2
            obtain ⟨k0, k1, k2⟩ := obj_cells hR.obj
            clear bW hR hG hG2
            have j0 : (0 : Int) ≤ (j : Int) := by omega
            by_cases hjn : j = H
            · subst hjn
              have HLO := Lib.hid (show Lo wr (w.heap.size + 1 + 1) (w.heap.size + 1) w.heap.size (i + j) j i G (List.replicate j []) from by
                have hl : (List.replicate j ([] : List Nat)).length = j := List.length_replicate
                have hr := Ring.blank (H := j) (fun h hh => HG2.out h hh) HG.out
                have ro := RO2.out
                refine Ro.lo (L := fun _ => 0) (by rw [hl]; exact ro) hr (fun k l hk => ?_) (by rw [hl]; exact h1)
                rw [List.getElem?_replicate] at hk
                split at hk
                · cases hk; rfl
                · cases hk)
              go_wp2_with fail
              go_ret2
              exact ⟨⟨_, _, _, G, rfl, HLO.out, by omega, by omega, by omega⟩, BW2.out⟩
            · have hlt : j < H := by omega
              have hlt' : (j : Int) < (H : Int) := by omega
              go_wp2_with fail
              refine (clear_any RO2.out hlt).mono ?_
              rintro e w5 ⟨rfl, r5, k5⟩
              have R5 := Lib.hid r5
              have B5 := Lib.hid (BW2.out.trans (k5.below (n := w.heap.size) (fun k hk ho => by rcases ho with rfl | rfl | rfl <;> omega) BW2.out.size))
              clear r5 k5
              go_wp2_with fail
              go_roundw
              case rel =>
                refine ⟨j + 1, clearF G (i + j) j, by omega, by go_num, fun x hx => ?_, fun h hh => ?_, ?_, B5.out⟩
                · show (if x = i + j then (j : Int) else G.hd x) = -1
                  rw [if_neg (by omega)]
                  exact HG.out x hx
                · show (if i + h = i + j then i + j else G.nx (i + h)) = i + h ∧ (if i + h = i + j then i + j else G.pv (i + h)) = i + h ∧ (if i + h = i + j then (j : Int) else G.hd (i + h)) = (h : Int)
                  by_cases hhj : h = j
                  · subst hhj; simp
                  · rw [if_neg (by omega), if_neg (by omega), if_neg (by omega)]
                    exact HG2.out h (by omega)
                · have := R5.out
                  have e : (fun k => if k = j then (0 : Int) else 0) = fun _ => 0 := by funext k; simp
                  rwa [e] at this
              case measure => simp [intOf]; omega
        · have hlt : i < N := by omega
          have hlt' : (i : Int) < (N : Int) := by omega
          have i1 : (i : Int) < (N : Int) + (H : Int) := by omega
          have i2 : (i : Int) < ((N + H : Nat) : Int) := by omega
          obtain ⟨_, _, e2⟩ := RO.out.fw.at_ (i := i) (by omega)
          have f0 := RO.out.fw.frozen
          go_wp2_with fail
          go_roundw
          case rel =>
            refine ⟨i + 1, F.upH i (-1), by omega, by go_num, fun x hx => ?_, RO.out.setH i (-1), BW.out.setCell (p := ⟨(w.heap.size + 1), i * 3 + 2, none⟩) (by show w.heap.size ≤ _; omega) _⟩
            show (if x = i then -1 else F.hd x) = -1
            by_cases hxi : x = i
            · rw [if_pos hxi]
            · rw [if_neg hxi]; exact HF.out x (by omega)
          case measure => simp [intOf]; omega
end Go.Proofs.Ytggimkfepcgaoaa.Lnk
end
section
namespace Go.Proofs.Ytggimkfepcgaoaa.Lnk
open Go Go.RowKit Kit
/-- a node added to the back of a list, if it may be -/
def addB (N : Nat) (X : List (List Nat)) (h a : Nat) : Option (List (List Nat)) :=
  if a < N ∧ (∀ l ∈ X, a ∉ l) then some (X.set h ((X[h]?.getD []) ++ [a])) else none
def rnL (N : Nat) (t : Nat → Nat) (h : Nat) : List Nat → List (List Nat) → Option (List (List Nat))
  | [], X => some X
  | n :: l, X => (addB N X h (t n)).bind (rnL N t h l)
def rnA (N : Nat) (t : Nat → Nat) : Nat → List (List Nat) → List (List Nat) → Option (List (List Nat))
  | _, [], X => some X
  | h, l :: Ls, X => (rnL N t h l X).bind (rnA N t (h + 1) Ls)
theorem free_all {X : List (List Nat)} {a : Nat} : (∀ l ∈ X, a ∉ l) ↔ Free X a :=
  ⟨fun h k l hl => h l (List.mem_of_getElem? hl), fun h l hl => by obtain ⟨k, hk⟩ := List.mem_iff_getElem?.1 hl; exact h k l hk⟩
/-- Back, by what it gives -/
theorem back_by {w : World} {c q r cq cr N : Nat} {F : Fd} {X : List (List Nat)} (H : Lo w c q r cq cr N F X) {h a : Nat} (hh : h < X.length) (ha : a < 4294967296) :
    Calls Try.prog 21 #[.pointer (some ⟨c, 0, none⟩), .int .i64 (h : Int), .int .u32 (a : Int)] w fun e w' => (match addB N X h a with
      | some X' => e = .returned (.int .i64 0) ∧ ∃ F', Lo w' c q r cq cr N F' X' ∧ X'.length = X.length
      | none => ∃ code, e = .returned (.int .i64 code) ∧ code ≠ 0) ∧ Kp (Ob c q r) w w' := by
  unfold addB
  by_cases hN : a < N
  · by_cases hf : Free X a
    · rw [if_pos ⟨hN, free_all.2 hf⟩]
      obtain ⟨l, hl⟩ : ∃ l, X[h]? = some l := ⟨X[h], List.getElem?_eq_getElem _⟩
      refine (Back_ok H hl hN hf).mono ?_
      rintro e w' ⟨h1, h2, h3⟩
      refine ⟨⟨h1, linkF F a (N + h), ?_, ?_⟩, h3⟩
      · rw [hl]; exact h2
      · simp
    · rw [if_neg (fun h => hf (free_all.1 h.2))]
      refine (Back_busy H hh hN (fun h => hf ((H.ring.free_iff hN).1 h))).mono ?_
      rintro e w' ⟨h1, h2⟩
      exact ⟨⟨_, h1, by decide⟩, Kp.of h2⟩
  · rw [if_neg (fun h => hN h.1)]
    refine (Back_badN H hh (n := (a : Int)) (by omega) (by omega)).mono ?_
    rintro e w' ⟨h1, h2⟩
    exact ⟨⟨_, h1, by decide⟩, Kp.of h2⟩
theorem Ru.kp {w w' : World} {p : Option Addr} {l : List Int} {bad : Nat → Prop} (h : Ru w p l) (hk : Kp bad w w') (hb : ∀ y, p = some y → ¬ bad y.block) : Ru w' p l := fun i x hx => by
  obtain ⟨y, h0, h1, h2⟩ := h i x hx
  refine ⟨y, h0, Nat.lt_of_lt_of_le h1 hk.size, ?_⟩
  have : w'.cell? (y.add i) = w.cell? (y.add i) := by unfold World.cell?; rw [hk.block _ (by rw [add_block]; exact h1) (by rw [add_block]; exact hb y h0)]
  rw [this]; exact h2
theorem kl_parts {e : Ending} {w : World} {B : Nat} {l : List Int} (h : Kl e w B l) : ∃ p k, e = .returned (.slice p l.length k) ∧ Ru w p l ∧ ∀ y, p = some y → B ≤ y.block := by
  obtain ⟨v, rfl, hk⟩ := h
  obtain ⟨p, k, rfl, hr⟩ := ks_ru hk
  refine ⟨p, k, rfl, hr, ?_⟩
  obtain ⟨h0, ⟨hv, hn⟩ | ⟨g, cap, cur, hv, hb', hg, hr⟩⟩ := hk
  · injection hv with a b c
    intro y hy; rw [a] at hy; cases hy
  · injection hv with a b c
    intro y hy; rw [a] at hy; cases hy; exact hb'
/-- what Renumber gives -/
def RnR (e : Ending) (w w' : World) (c M : Nat) : Option (List (List Nat)) → Prop
  | some Z => e = .returned (.int .i64 0) ∧ (∃ q' r' cq' cr' F', Lo w' c q' r' cq' cr' M F' Z ∧ w.heap.size ≤ q' ∧ w.heap.size ≤ r') ∧ Kp (fun k => k = c) w w'
  | none => e = .returned (.int .i64 2) ∧ Below w.heap.size w w'
section
variable {w : World} {c q r cq cr N : Nat} {F : Fd} {Ls : List (List Nat)}
set_option maxRecDepth 100000 in
theorem Renumber_bad (H : Lo w c q r cq cr N F Ls) {pt : Option Addr} {m ct : Nat} {nodes : Int} (hm : m ≤ 1000000000) (hb : ¬ (1 ≤ nodes ∧ nodes ≤ 4194304) ∨ (m ≠ N)) :
    Calls Try.prog 70 #[.pointer (some ⟨c, 0, none⟩), .slice pt m ct, .int .i64 nodes] w fun e w' => e = .returned (.int .i64 2) ∧ Below w.heap.size w w' := by
  have HZ := Lib.hid (isZero_any H)
  obtain ⟨k0, k1, k2⟩ := H.cells
  have HC := Lib.hid (fun (v : World) (hb : Below w.heap.size w v) => (H.below hb).cells)
  have h1 := H.h1
  have h2 := H.h2
  clear H
  go_enter Try.func70, Try.ntmps70
  go_wp2_with fail
  refine HZ.out.mono ?_
  rintro e w1 ⟨rfl, rfl⟩
  go_wp2_with fail
  by_cases hnb : 1 ≤ nodes ∧ nodes ≤ 4194304
  · have hmN : m ≠ N := by omega
    obtain ⟨M, rfl⟩ : ∃ M : Nat, nodes = (M : Int) := ⟨nodes.toNat, by omega⟩
    refine (New_ok M Ls.length w (by omega) (by omega) h1 h2).mono ?_
    rintro e w2 ⟨⟨c', q', r', F', rfl, lo, -, -, -⟩, b2⟩
    obtain ⟨x0, x1, x2⟩ := HC.out _ b2
    have B2 := Lib.hid b2
    have hne : ((m : Int) != (N : Int)) = true := by rw [bne_iff_ne]; omega
    clear b2 lo
    go_wp2_with fail
    go_ret
    exact ⟨rfl, B2.out⟩
  · refine (New_bad w (by omega)).mono ?_
    rintro e w2 ⟨rfl, b2⟩
    have B2 := Lib.hid b2
    obtain ⟨x0, x1, x2⟩ := HC.out _ b2
    clear b2
    go_wp2_with fail
    go_ret
    exact ⟨rfl, B2.out⟩
set_option maxRecDepth 100000 in
set_option maxHeartbeats 2000000 in
theorem Renumber_by (H : Lo w c q r cq cr N F Ls) {pt : Option Addr} {ct M : Nat} {T : List Nat} (hT : T.length = N) (hr : Ru w pt (ints T)) (hw : ∀ x ∈ T, x < 4294967296) (m1 : 1 ≤ M) (m2 : M ≤ 4194304) :
    Calls Try.prog 70 #[.pointer (some ⟨c, 0, none⟩), .slice pt N ct, .int .i64 (M : Int)] w fun e w' => RnR e w w' c M (rnA M (fun n => T[n]?.getD 0) 0 Ls (List.replicate Ls.length [])) := by
  have HZ := Lib.hid (isZero_any H)
  obtain ⟨k0, k1, k2⟩ := H.cells
  have HC := Lib.hid (fun (v : World) (hb : Below w.heap.size w v) => (H.below hb).cells)
  have HLO := Lib.hid (fun (v : World) (hb : Below w.heap.size w v) => H.below hb)
  have h1 := H.h1
  have h2 := H.h2
  have n1 := H.n1
  have n2 := H.n2
  obtain ⟨tot, htot⟩ : ∃ tot, rnA M (fun n => T[n]?.getD 0) 0 Ls (List.replicate Ls.length []) = tot := ⟨_, rfl⟩
  rw [htot]
  have HTOT := Lib.hid htot
  have HT := Lib.hid hT
  have HR := Lib.hid hr
  have HW := Lib.hid hw
  have HME := Lib.hid (fun (k : Nat) (l : List Nat) (hl : Ls[k]? = some l) (x : Nat) (hx : x ∈ l) => (H.ring.mem k l x hl hx).1)
  have hcs := H.lt.1
  have ENDN := Lib.hid (fun (v : World) (hb : Below w.heap.size w v) (h : tot = none) => (show RnR (.returned (.int .i64 2)) w v c M tot from by rw [h]; exact ⟨rfl, hb⟩))
  obtain ⟨Hn, hHn⟩ : ∃ Hn, Ls.length = Hn := ⟨_, rfl⟩
  have HHN := Lib.hid hHn
  have HNEW := Lib.hid (New_ok M Hn w (by omega) (by omega) (by omega) (by omega))
  rw [hHn] at k1 k2 h1 h2
  have HC2 := Lib.hid (fun (v : World) (hb : Below w.heap.size w v) => (show v.cell? ⟨c, 0, none⟩ = some (.int .i64 (N : Int)) ∧ v.cell? ⟨c, 1, none⟩ = some (.slice (some ⟨q, 0, none⟩) (N + Hn) cq) ∧ v.cell? ⟨c, 2, none⟩ = some (.slice (some ⟨r, 0, none⟩) Hn cr) from by have h := HC.out v hb; rw [hHn] at h; exact h))
  clear H htot hT hr hw HC hHn
  go_enter Try.func70, Try.ntmps70
  go_wp2_with fail
  refine HZ.out.mono ?_
  rintro e w1 ⟨rfl, rfl⟩
  go_wp2_with fail
  refine HNEW.out.mono ?_
  rintro e w2 ⟨⟨c', q', r', F', rfl, lo, hc', hq', hr'⟩, b2⟩
  obtain ⟨x0, x1, x2⟩ := HC2.out _ b2
  have B2 := Lib.hid b2
  have LO := Lib.hid lo
  clear b2 lo k0 k1 k2
  go_wp2_with fail
  obtain ⟨tf, htf⟩ : ∃ tf : Nat → Nat, (fun n : Nat => T[n]?.getD 0) = tf := ⟨_, rfl⟩
  rw [htf] at HTOT
  have HTF := Lib.hid htf
  clear htf x0 x1 x2
  go_loopw [40] (fun v wr => ∃ (k : Nat) (F : Fd) (X : List (List Nat)), k ≤ Hn ∧ v = .int .i64 (k : Int) ∧ Lo wr c' q' r' (M + Hn) Hn M F X ∧ X.length = Hn ∧ rnA M tf k (Ls.drop k) X = tot ∧ Below w.heap.size w wr) (fun v _ => Hn - (intOf v).toNat)
  case atStart => exact ⟨0, F', _, by omega, rfl, LO.out, by simp, (by have := HTOT.out; rw [HHN.out] at this; exact this), B2.out⟩
  case round =>
    obtain ⟨k, F1, X, hk, rfl, lo, hX, htot, bw⟩ := hrel
    have L1 := Lib.hid lo
    have TOT := Lib.hid htot
    have BW := Lib.hid bw
    have HX := Lib.hid hX
    obtain ⟨x0, x1, x2⟩ := HC2.out _ bw
    by_cases hkH : k = Hn
    · have hfin : tot = some X := by rw [← htot, List.drop_of_length_le (by rw [HHN.out]; omega)]; rfl
      obtain ⟨y0, y1, y2⟩ := lo.cells
      rw [hX] at y1 y2
      have hco := (HLO.out _ bw).obj
      have f0 : wr.frozen? ⟨c, 0, none⟩ = false := by simp [World.frozen?, hco]
      have f1 : wr.frozen? ⟨c, 1, none⟩ = false := by simp [World.frozen?, hco]
      have f2 : wr.frozen? ⟨c, 2, none⟩ = false := by simp [World.frozen?, hco]
      have g1 := heap_set (j := 0) hco (.int .i64 (M : Int))
      have g2 := heap_set (j := 1) g1 (.slice (some ⟨q', 0, none⟩) (M + Hn) (M + Hn))
      have g3 := heap_set (j := 2) g2 (.slice (some ⟨r', 0, none⟩) Hn Hn)
      have G3 := Lib.hid g3
      have hoth : ∀ b, b ≠ c → (((wr.setCell ⟨c, 0, none⟩ (.int .i64 (M : Int))).setCell ⟨c, 1, none⟩ (.slice (some ⟨q', 0, none⟩) (M + Hn) (M + Hn))).setCell ⟨c, 2, none⟩ (.slice (some ⟨r', 0, none⟩) Hn Hn)).heap[b]? = wr.heap[b]? := fun b hb =>
        ((Below.heap_setCell _ ⟨c, 2, none⟩ _ b hb).trans (Below.heap_setCell _ ⟨c, 1, none⟩ _ b hb)).trans (Below.heap_setCell _ ⟨c, 0, none⟩ _ b hb)
      have HOTH := Lib.hid hoth
      have hl1 := lo.lt
      have hkp : Kp (fun k => k = c) w (((wr.setCell ⟨c, 0, none⟩ (.int .i64 (M : Int))).setCell ⟨c, 1, none⟩ (.slice (some ⟨q', 0, none⟩) (M + Hn) (M + Hn))).setCell ⟨c, 2, none⟩ (.slice (some ⟨r', 0, none⟩) Hn Hn)) :=
        by
        have k1 : Kp (fun k => k = c) w wr := Kp.of bw
        exact ((k1.setCell (b := c) (.inl rfl) _).setCell (b := c) (.inl rfl) _).setCell (b := c) (.inl rfl) _
      have HKP := Lib.hid hkp
      clear lo htot bw hX LO hco g1 g2 g3 hoth hkp
      subst hkH
      have HFIN := Lib.hid hfin
      clear hfin
      go_wp2_with fail
      go_ret
      rw [HFIN.out]
      refine ⟨rfl, ⟨q', r', M + k, k, F1, ⟨?_, ?_, ?_, L1.out.ring, by omega, by omega, L1.out.qr, m1, m2, by rw [HX.out]; exact h1, by rw [HX.out]; exact h2⟩, hq', hr'⟩, HKP.out⟩
      · have := G3.out
        rw [HX.out]
        simpa using this
      · rw [HX.out]
        have hf := L1.out.fw
        rw [HX.out] at hf
        exact hf.of (HOTH.out q' (by omega))
      · exact L1.out.lw.of (HOTH.out r' (by omega))
    · have hlt : k < Hn := by omega
      have i1 : (k : Int) < (Hn : Int) := by omega
      have i0 : (0 : Int) ≤ (k : Int) := by omega
      obtain ⟨l, hl⟩ : ∃ l, Ls[k]? = some l := ⟨Ls[k]'(by rw [HHN.out]; omega), List.getElem?_eq_getElem _⟩
      have hdk : Ls.drop k = l :: Ls.drop (k + 1) := by
        obtain ⟨hi, he⟩ := List.getElem?_eq_some_iff.1 hl
        rw [List.drop_eq_getElem_cons hi, he]
      rw [hdk] at htot
      have HLI := Lib.hid (list_any (HLO.out _ bw) hl)
      have HXN := Lib.hid (HME.out k l hl)
      have hll := (HLO.out _ bw).len_le hl
      have TOT2 := Lib.hid (show (rnL M tf k (l.drop 0) X).bind (rnA M tf (k + 1) (Ls.drop (k + 1))) = tot from htot)
      clear lo htot bw hX hdk TOT hl
      go_wp2_with fail
      refine HLI.out.mono ?_
      rintro e u ⟨kl, bu⟩
      obtain ⟨p, ck, rfl, rup, hpb⟩ := kl_parts kl
      have RUP := Lib.hid rup
      have HPB := Lib.hid hpb
      have BU := Lib.hid (tr BW.out bu)
      have LU := Lib.hid (L1.out.below bu)
      have hsu := bu.size
      obtain ⟨m, hm⟩ : ∃ m, (ints l).length = m := ⟨_, rfl⟩
      rw [hm]
      have HM := Lib.hid (show l.length = m from by rw [← ints_len]; exact hm)
      have hmm : m ≤ 4194304 := by rw [← hm, ints_len]; exact hll
      clear kl rup hpb bu hm hll x0 x1 x2
      go_wp2_with fail
      go_loopw [47] (fun v wr' => ∃ (i : Nat) (F : Fd) (X : List (List Nat)), i ≤ m ∧ v = .int .i64 (i : Int) ∧ Lo wr' c' q' r' (M + Hn) Hn M F X ∧ X.length = Hn ∧ (rnL M tf k (l.drop i) X).bind (rnA M tf (k + 1) (Ls.drop (k + 1))) = tot ∧ Below w.heap.size w wr' ∧ Ru wr' p (ints l)) (fun v _ => m - (intOf v).toNat)
      case atStart => exact ⟨0, F1, X, by omega, rfl, LU.out, HX.out, TOT2.out, BU.out, RUP.out⟩
      case round =>
        obtain ⟨i, F2, Y, hi, rfl, lo, hY, htot, bw, ru⟩ := hrel
        have L2 := Lib.hid lo
        have B3 := Lib.hid bw
        have RU := Lib.hid ru
        have HY := Lib.hid hY
        by_cases him : i = m
        · subst him
          rw [List.drop_of_length_le (by rw [HM.out]; omega)] at htot
          have T3 := Lib.hid (show rnA M tf (k + 1) (Ls.drop (k + 1)) Y = tot from htot)
          clear lo bw ru hY htot
          go_wp2_with fail
          go_roundw
          case rel => exact ⟨k + 1, F2, Y, by omega, by go_num, L2.out, HY.out, T3.out, B3.out⟩
          case measure => simp [intOf] <;> omega
        · have hlt2 : i < m := by omega
          have j1 : (i : Int) < (m : Int) := by omega
          have j0 : (0 : Int) ≤ (i : Int) := by omega
          obtain ⟨x, hx⟩ : ∃ x, l[i]? = some x := ⟨l[i]'(by rw [HM.out]; omega), List.getElem?_eq_getElem _⟩
          have hxN := HXN.out x (List.mem_of_getElem? hx)
          obtain ⟨a, ha⟩ : ∃ a, T[x]? = some a := ⟨T[x]'(by rw [HT.out]; omega), List.getElem?_eq_getElem _⟩
          have ha2 := HW.out a (List.mem_of_getElem? ha)
          have hta : tf x = a := by rw [← HTF.out]; simp [ha]
          obtain ⟨z, rfl, _, e0⟩ := ru i _ (by unfold ints; rw [List.getElem?_map, hx]; rfl)
          obtain ⟨zt, rfl, _, e1⟩ := (HR.out.below bw) x _ (by unfold ints; rw [List.getElem?_map, ha]; rfl)
          have hdi : l.drop i = x :: l.drop (i + 1) := by
            obtain ⟨hi', he⟩ := List.getElem?_eq_some_iff.1 hx
            rw [List.drop_eq_getElem_cons hi', he]
          rw [hdi] at htot
          have hst : ((addB M Y k a).bind (rnL M tf k (l.drop (i + 1)))).bind (rnA M tf (k + 1) (Ls.drop (k + 1))) = tot := by rw [← hta]; exact htot
          have hb := back_by lo (by rw [hY]; exact hlt) ha2
          have k1' : (x : Int) < (N : Int) := by omega
          have k0' : (0 : Int) ≤ (x : Int) := by omega
          cases hA : addB M Y k a with
          | none =>
            rw [hA] at hb hst
            have HBK := Lib.hid hb
            have HN := Lib.hid (show tot = none from hst.symm)
            clear lo bw ru hY htot hb hst hA hx ha hta hdi
            go_wp2_with fail
            refine HBK.out.mono ?_
            rintro e u2 ⟨⟨code, rfl, hcode⟩, kb⟩
            have hc1 : (code != 0) = true := by rw [bne_iff_ne]; exact hcode
            have BE := Lib.hid (B3.out.trans (kb.below (by rintro k hk (rfl | rfl | rfl) <;> omega) B3.out.size))
            clear kb hcode
            go_wp2_with fail
            go_ret
            exact ENDN.out _ BE.out HN.out
          | some Y' =>
            rw [hA] at hb hst
            have HBK := Lib.hid hb
            have HST := Lib.hid hst
            clear lo bw ru hY htot hb hst hA hx ha hta hdi
            go_wp2_with fail
            refine HBK.out.mono ?_
            rintro e u2 ⟨⟨rfl, F3, lo3, hl3⟩, kb⟩
            have L3 := Lib.hid lo3
            have HL3 := Lib.hid hl3
            have BE := Lib.hid (B3.out.trans (kb.below (by rintro k hk (rfl | rfl | rfl) <;> omega) B3.out.size))
            have RE := Lib.hid (RU.out.kp kb (fun y hy h => by have := HPB.out y hy; have := L1.out.lt; rcases h with h | h | h <;> omega))
            clear kb lo3 hl3
            go_wp2_with fail
            go_roundw
            case rel => exact ⟨i + 1, F3, Y', by omega, by go_num, L3.out, by rw [HL3.out, HY.out], HST.out, BE.out, RE.out⟩
            case measure => simp [intOf] <;> omega
end
end Go.Proofs.Ytggimkfepcgaoaa.Lnk
end
