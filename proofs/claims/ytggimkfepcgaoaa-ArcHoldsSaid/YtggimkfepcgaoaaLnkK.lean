/-
  Links (layer 14): clear, New.
-/
import Derived.Test.YtggimkfepcgaoaaLnkJ
set_option linter.unusedVariables false
set_option linter.unusedSimpArgs false
namespace Go.Proofs.Ytggimkfepcgaoaa.Lnk
open Go Go.RowKit Kit
/-- a row of numbers -/
def Lz (w : World) (r H : Nat) (L : Nat → Int) : Prop := ∃ cur, w.heap[r]? = some (.cells cur 3 (0, 0)) ∧ ∀ h, h < H → cur[h]? = some (.int .i64 (L h))
theorem Lz.lt {w : World} {r H : Nat} {L : Nat → Int} (h : Lz w r H L) : r < w.heap.size := by
  obtain ⟨cur, h1, -⟩ := h
  exact (Array.getElem?_eq_some_iff.1 h1).1
theorem Lz.of {w w' : World} {r H : Nat} {L : Nat → Int} (h : Lz w r H L) (hb : w'.heap[r]? = w.heap[r]?) : Lz w' r H L := by
  obtain ⟨cur, h1, h2⟩ := h
  exact ⟨cur, hb.trans h1, h2⟩
theorem Lz.at_ {w : World} {r H : Nat} {L : Nat → Int} (hL : Lz w r H L) {h : Nat} (hh : h < H) : w.cell? ⟨r, h, none⟩ = some (.int .i64 (L h)) ∧ w.frozen? ⟨r, h, none⟩ = false := by
  obtain ⟨cur, h1, h2⟩ := hL
  have e1 := h2 h hh
  exact ⟨by simp [World.cell?, h1, e1], by simp [World.frozen?, h1]⟩
theorem Lz.set {w : World} {r H : Nat} {L : Nat → Int} (hL : Lz w r H L) (h : Nat) (z : Int) : Lz (w.setCell ⟨r, h, none⟩ (.int .i64 z)) r H (fun k => if k = h then z else L k) := by
  obtain ⟨cur, h1, h2⟩ := hL
  refine ⟨_, heap_set h1 _, fun k hk => get_set (h2 k hk) ?_⟩
  by_cases hkh : k = h <;> simp [hkh]
/-- the object, its rings not looked at -/
structure Ro (w : World) (c q r cq cr N H : Nat) (F : Fd) (L : Nat → Int) : Prop where
  obj : w.heap[c]? = some (.cells #[.int .i64 (N : Int), .slice (some ⟨q, 0, none⟩) (N + H) cq, .slice (some ⟨r, 0, none⟩) H cr] 127 (0, 0))
  fw : Fw w q (N + H) F
  lw : Lz w r H L
  cq : c ≠ q
  cr : c ≠ r
  qr : q ≠ r
  n1 : 1 ≤ N
  n2 : N ≤ 4194304
  h2 : H ≤ 4096
theorem Ro.lt {w : World} {c q r cq cr N H : Nat} {F : Fd} {L : Nat → Int} (h : Ro w c q r cq cr N H F L) : c < w.heap.size ∧ q < w.heap.size ∧ r < w.heap.size := ⟨(Array.getElem?_eq_some_iff.1 h.obj).1, h.fw.lt, h.lw.lt⟩
theorem Ro.below {w w' : World} {c q r cq cr N H : Nat} {F : Fd} {L : Nat → Int} (h : Ro w c q r cq cr N H F L) (hb : Below w.heap.size w w') : Ro w' c q r cq cr N H F L :=
  ⟨(hb.block c h.lt.1).trans h.obj, h.fw.of (hb.block q h.lt.2.1), h.lw.of (hb.block r h.lt.2.2), h.cq, h.cr, h.qr, h.n1, h.n2, h.h2⟩
theorem Lo.raw {w : World} {c q r cq cr N : Nat} {F : Fd} {Ls : List (List Nat)} (H : Lo w c q r cq cr N F Ls) : Ro w c q r cq cr N Ls.length F (fun h => ((Ls[h]?.getD []).length : Int)) := by
  refine ⟨H.obj, H.fw, ?_, H.cq, H.cr, H.qr, H.n1, H.n2, H.h2⟩
  obtain ⟨cur, h1, h2⟩ := H.lw
  refine ⟨cur, h1, fun h hh => ?_⟩
  have := h2 h _ (List.getElem?_eq_getElem hh)
  rw [this]
  simp only [List.getElem?_eq_getElem hh, Option.getD_some]
theorem Ro.lo {w : World} {c q r cq cr N : Nat} {F : Fd} {Ls : List (List Nat)} {L : Nat → Int} (h : Ro w c q r cq cr N Ls.length F L) (hR : Ring F N Ls) (hL : ∀ (k : Nat) (l : List Nat), Ls[k]? = some l → L k = (l.length : Int)) (h1 : 1 ≤ Ls.length) : Lo w c q r cq cr N F Ls := by
  refine ⟨h.obj, h.fw, ?_, hR, h.cq, h.cr, h.qr, h.n1, h.n2, h1, h.h2⟩
  obtain ⟨cur, h3, h4⟩ := h.lw
  refine ⟨cur, h3, fun k l hl => ?_⟩
  rw [h4 k (List.getElem?_eq_some_iff.1 hl).1, hL k l hl]
theorem Ro.setH {w : World} {c q r cq cr N H : Nat} {F : Fd} {L : Nat → Int} (R : Ro w c q r cq cr N H F L) (i : Nat) (a : Int) : Ro (w.setCell ⟨q, i * 3 + 2, none⟩ (.int .i32 a)) c q r cq cr N H (F.upH i a) L :=
  ⟨(Below.heap_setCell _ _ _ c R.cq).trans R.obj, R.fw.setH i a, R.lw.of (Below.heap_setCell _ _ _ r R.qr.symm), R.cq, R.cr, R.qr, R.n1, R.n2, R.h2⟩
def clearF (F : Fd) (i : Nat) (h : Int) : Fd := ((F.upP i i).upN i i).upH i h
section
variable {w : World} {c q r cq cr N H : Nat} {F : Fd} {L : Nat → Int}
theorem rootR_any (R : Ro w c q r cq cr N H F L) {h : Nat} (hh : h < H) :
    Calls Try.prog 134 #[.pointer (some ⟨c, 0, none⟩), .int .i64 (h : Int)] w fun e w' => e = .returned (.int .u32 ((N + h : Nat) : Int)) ∧ w = w' := by
  obtain ⟨k0, k1, k2⟩ := obj_cells R.obj
  have n1 := R.n1
  have n2 := R.n2
  have h2 := R.h2
  have w1 := IntWalk.i64_in ((N : Int) + (h : Int)) (by omega)
  clear R
  go_enter Try.func134, Try.ntmps134
  go_wp2_with fail
  go_ret
  exact ⟨ret_int (by omega), rfl⟩
set_option maxRecDepth 100000 in
theorem clear_any (R : Ro w c q r cq cr N H F L) {h : Nat} (hh : h < H) :
    Calls Try.prog 72 #[.pointer (some ⟨c, 0, none⟩), .int .i64 (h : Int)] w fun e w' => e = .returned (.tuple #[]) ∧ Ro w' c q r cq cr N H (clearF F (N + h) h) (fun k => if k = h then 0 else L k) ∧ Kp (Ob c q r) w w' := by
  obtain ⟨k0, k1, k2⟩ := obj_cells R.obj
  have H1 := Lib.hid (rootR_any R hh)
  have hcq := R.cq
  have hqc := R.cq.symm
  have hcr := R.cr
  have hrc := R.cr.symm
  have hqr := R.qr
  have hrq := R.qr.symm
  have n2 := R.n2
  have h2 := R.h2
  obtain ⟨e0, e1, e2⟩ := R.fw.at_ (i := N + h) (by omega)
  obtain ⟨g0, g1⟩ := R.lw.at_ hh
  have f0 := R.fw.frozen
  have HR := Lib.hid R
  have i1 : ((N + h : Nat) : Int) < (N : Int) + (H : Int) := by omega
  have i2 : ((N + h : Nat) : Int) < ((N + H : Nat) : Int) := by omega
  have i3 : (0 : Int) ≤ ((N + h : Nat) : Int) := by omega
  have j1 : (h : Int) < (H : Int) := by omega
  have j3 : (0 : Int) ≤ (h : Int) := by omega
  have wh : IntKind.i32.wrap (h : Int) = (h : Int) := by
    have := IntWalk.i32_in (h : Int) (by omega)
    exact this
  clear R
  obtain ⟨M, hM⟩ : ∃ M, N + h = M := ⟨_, rfl⟩
  rw [hM] at i1 i2 i3 e0 e1 e2 H1 ⊢
  clear hM
  go_enter Try.func72, Try.ntmps72
  go_wp2_with fail
  refine H1.out.mono ?_
  rintro e w1 ⟨rfl, rfl⟩
  go_wp2_with fail
  refine bodyPost_end (v := .tuple #[]) (results_none rfl _ _ _) rfl ⟨rfl, ?_, ?_⟩
  · have hF := ((HR.out.fw.setP M M).setN M M).setH M (h : Int)
    have hr : ∀ (x : World) (j : Nat) (u : Value), (x.setCell ⟨q, j, none⟩ u).heap[r]? = x.heap[r]? := fun x j u => Below.heap_setCell _ _ _ r hrq
    have hc : ∀ (x : World) (j : Nat) (u : Value), (x.setCell ⟨q, j, none⟩ u).heap[c]? = x.heap[c]? := fun x j u => Below.heap_setCell _ _ _ c hcq
    exact ⟨(Below.heap_setCell _ _ _ c hcr).trans (((hc _ _ _).trans ((hc _ _ _).trans (hc _ _ _))).trans HR.out.obj), hF.of (Below.heap_setCell _ _ _ q hqr), (((HR.out.lw.of (hr _ (M * 3) (.int .u32 (M : Int)))).of (hr _ (M * 3 + 1) (.int .u32 (M : Int)))).of (hr _ (M * 3 + 2) (.int .i32 (h : Int)))).set h 0, hcq, hcr, hqr, HR.out.n1, n2, h2⟩
  · have hq : Ob c q r q := .inr (.inl rfl)
    have hr : Ob c q r r := .inr (.inr rfl)
    exact ((((Kp.refl _ w).setCell (.inl hq) _).setCell (.inl hq) _).setCell (.inl hq) _).setCell (.inl hr) _
end
theorem node_info : (Try.prog.info? 129).map (fun i => (i.zero, i.size, i.bytes)) = some (some (.agg #[.int .u32 0, .int .u32 0, .int .i32 0]), 3, 12) := by kernel_rfl
theorem int_info : (Try.prog.info? 3).map (fun i => (i.zero, i.size, i.bytes)) = some (some (.int .i64 0), 1, 8) := by kernel_rfl
/-- 'make([]T, n)', n open, T of any size -/
theorem make_any {P : Program} (w : World) (t e : TypeId) (z : Value) (s bytes : Nat) (ht : P.underlying t = some (.slice e)) (hinfo : (P.info? e).map (fun i => (i.zero, i.size, i.bytes)) = some (some z, s, bytes))
    (n : Nat) (h1 : n ≤ 10000000) (hb : bytes ≤ 1000) :
    (Instr.makeSlice t (.int .i64 (n : Int)) (.int .i64 (n : Int))).run P w = .ok (.slice (some ⟨w.heap.size, 0, none⟩) n n) (w.alloc (.cells (madeCells z.cells (n * s)) e)) := by
  obtain ⟨i, hi, hzz⟩ := Option.map_eq_some_iff.1 hinfo
  simp only [Prod.mk.injEq] at hzz
  obtain ⟨hz, hs, hb'⟩ := hzz
  have hbb : (i.bytes : Int) * (n : Int) ≤ 281474976710656 := by
    rw [hb']
    have h2 : (bytes : Int) ≤ 1000 := by omega
    have := Int.mul_le_mul h2 (show (n : Int) ≤ 10000000 by omega) (by omega) (by omega)
    omega
  have hr := run_make (P := P) w t e i z ht hi hz .i64 .i64 (n : Int) (n : Int) (by omega) (Int.le_refl _) hbb (by omega)
  rw [hs] at hr
  simpa using hr
def blankF : Fd := ⟨fun _ => 0, fun _ => 0, fun _ => 0⟩
theorem made_fw (w w' : World) (M q : Nat) (h : w'.heap[q]? = some (.cells (madeCells #[.int .u32 0, .int .u32 0, .int .i32 0] (M * 3)) 129 (0, 0))) : Fw w' q M blankF := by
  refine ⟨_, h, fun i hi => ?_⟩
  have key : ∀ j, j < M * 3 → (madeCells #[.int .u32 0, .int .u32 0, .int .i32 0] (M * 3))[j]? = some ((#[.int .u32 0, .int .u32 0, .int .i32 0] : Array Value)[j % 3]!) := by
    intro j hj
    simp [madeCells, hj]
  refine ⟨(key _ (by omega)).trans ?_, (key _ (by omega)).trans ?_, (key _ (by omega)).trans ?_⟩
  · rw [show i * 3 % 3 = 0 by omega]; rfl
  · rw [show (i * 3 + 1) % 3 = 1 by omega]; rfl
  · rw [show (i * 3 + 2) % 3 = 2 by omega]; rfl
theorem made_lz (w' : World) (H r : Nat) (h : w'.heap[r]? = some (.cells (madeCells #[.int .i64 0] (H * 1)) 3 (0, 0))) : Lz w' r H (fun _ => 0) := by
  refine ⟨_, h, fun i hi => ?_⟩
  have hi' : i < H * 1 := by omega
  have key : (madeCells #[.int .i64 0] (H * 1))[i]? = some ((#[.int .i64 0] : Array Value)[i % 1]!) := by simp [madeCells, hi]
  rw [key, Nat.mod_one]
  rfl
end Go.Proofs.Ytggimkfepcgaoaa.Lnk
