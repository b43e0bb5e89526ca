/-
  Second chance (layer 31): any calls, what holds from call to call.
-/
import Derived.Test.YteppcjolgpdenaaSeqR
set_option linter.unusedVariables false
set_option linter.unusedSimpArgs false
namespace Go.Proofs.Yteppcjolgpdenaa.Seq
open Go Go.RowKit Kit Go.Maps
theorem len_set {l : List Pl} {i : Nat} {p : Pl} : (l.set i p).length = l.length := List.length_set
theorem useL_len {l : List Pl} {h : Nat} (hh : h < l.length) (k : Int) : (useL l h k).1.length = l.length ∧ (useL l h k).2.1 < l.length := by
  unfold useL
  split
  · exact ⟨len_set, hh⟩
  · split
    · exact ⟨len_set, hh⟩
    · obtain ⟨a1, a2, -⟩ := sweep_keeps (marks l) l h hh
      exact ⟨by simp only [List.length_set]; exact a1, Nat.mod_lt _ (by omega)⟩
theorem dropL_len (l : List Pl) (k : Int) : (dropL l k).length = l.length := by
  unfold dropL
  split
  · exact len_set
  · rfl
/-- the calls: what and key -/
def Acts (B : Nat) (w : World) (a : Option Addr) (len : Nat) (f0 f1 : Nat → Int) : Prop := ∀ i, i < len → ∃ x, a = some x ∧ x.block < B ∧ w.cell? (x.add (i * 2)) = some (.int .i64 (f0 i)) ∧ w.cell? ⟨(x.add (i * 2)).block, (x.add (i * 2)).off + 1, none⟩ = some (.int .u32 (f1 i)) ∧ 0 ≤ f1 i ∧ f1 i < 4294967296
theorem add_pos (x : Addr) (m k : Nat) (hk : k ≠ 0) : x.add (m + k) = ⟨(x.add m).block, (x.add m).off + k, none⟩ := by
  unfold Addr.add
  by_cases h1 : m = 0
  · subst h1; simp [hk]
  · simp [h1, hk, Nat.add_assoc]
theorem add_block (x : Addr) (m : Nat) : (x.add m).block = x.block := by unfold Addr.add; split <;> rfl
theorem cell_lt {w : World} {x : Addr} {v : Value} (h : w.cell? x = some v) : x.block < w.heap.size := by
  rcases Nat.lt_or_ge x.block w.heap.size with h' | h'
  · exact h'
  · simp [World.cell?, Array.getElem?_eq_none h'] at h
theorem wf_u32 {z : Int} (h : (Lit.int .u32 z).wf = true) : 0 ≤ z ∧ z < 4294967296 := by
  have h' : (decide ((0 : Int) ≤ z) && decide (z ≤ 4294967295)) = true := h
  simp at h'
  omega
theorem acts_of {w : World} {a : Option Addr} {len cap : Nat} (h : (a = none ∧ len = 0) ∨ ∃ x, a = some x ∧ len ≤ cap ∧ cap ≤ maxLen ∧ ∀ i, i < len → ∃ (z0 : Int) (z1 : Int), w.cell? (x.add (i * 2 + 0)) = some (.int .i64 z0) ∧ w.cell? (x.add (i * 2 + 1)) = some (.int .u32 z1) ∧ (Lit.int .i64 z0).wf = true ∧ (Lit.int .u32 z1).wf = true) :
    ∃ f0 f1, Acts w.heap.size w a len f0 f1 := by
  rcases h with ⟨-, rfl⟩ | ⟨x, rfl, -, -, h⟩
  · exact ⟨fun _ => 0, fun _ => 0, fun i hi => by omega⟩
  · have h' : ∀ i : Nat, ∃ p : Int × Int, i < len → x.block < w.heap.size ∧ w.cell? (x.add (i * 2)) = some (.int .i64 p.1) ∧ w.cell? ⟨(x.add (i * 2)).block, (x.add (i * 2)).off + 1, none⟩ = some (.int .u32 p.2) ∧ 0 ≤ p.2 ∧ p.2 < 4294967296 := fun i => by
      by_cases hi : i < len
      · obtain ⟨z0, z1, h0, h1, -, h2⟩ := h i hi
        rw [add_pos x _ 1 (by decide)] at h1
        rw [Nat.add_zero] at h0
        have := cell_lt h0
        rw [add_block] at this
        exact ⟨(z0, z1), fun _ => ⟨this, h0, h1, wf_u32 h2⟩⟩
      · exact ⟨(0, 0), fun hh => absurd hh hi⟩
    refine ⟨fun i => (h' i).choose.1, fun i => (h' i).choose.2, fun i hi => ?_⟩
    exact ⟨x, rfl, (h' i).choose_spec hi⟩
theorem Acts.keep {B L H : Nat} {w w' : World} {a : Option Addr} {len : Nat} {f0 f1 : Nat → Int} (h : Acts B w a len f0 f1) (hk : Keep L H w w') (h1 : B ≤ L) (h2 : B ≤ w.heap.size) : Acts B w' a len f0 f1 := fun i hi => by
  obtain ⟨x, h0, hx, h3, h4, h5⟩ := h i hi
  have e := hk.block x.block (by omega) (.inl (by omega))
  refine ⟨x, h0, hx, ?_, ?_, h5⟩
  · exact (World.cell?_of_block (a := x.add (i * 2)) (show w'.heap[(x.add (i * 2)).block]? = w.heap[(x.add (i * 2)).block]? by rw [add_block]; exact e)).trans h3
  · exact (World.cell?_of_block (a := ⟨(x.add (i * 2)).block, (x.add (i * 2)).off + 1, none⟩) (show w'.heap[(x.add (i * 2)).block]? = w.heap[(x.add (i * 2)).block]? by rw [add_block]; exact e)).trans h4
theorem Acts.below {B : Nat} {w w' : World} {a : Option Addr} {len : Nat} {f0 f1 : Nat → Int} (h : Acts B w a len f0 f1) (hb : Below B w w') (h2 : B ≤ w.heap.size) : Acts B w' a len f0 f1 :=
  h.keep (L := B) (H := w'.heap.size) ⟨hb.os, hb.tape, hb.output, hb.size, fun k hk hne => hb.block k (by have := hb.size; omega)⟩ (Nat.le_refl _) h2
/-- a change from lo to hi, behind a change from L to H -/
theorem Keep.wide {L H lo hi : Nat} {W w v : World} (h : Keep L H W w) (k : Keep lo hi w v) (hw : (L ≤ lo ∧ hi ≤ H) ∨ W.heap.size ≤ lo) : Keep L H W v :=
  ⟨k.os.trans h.os, k.tape.trans h.tape, k.output.trans h.output, Nat.le_trans h.size k.size, fun b hb hne => (k.block b (Nat.lt_of_lt_of_le hb h.size) (by omega)).trans (h.block b hb hne)⟩
/-- the object c (places lp, hand hp), the variable bx with a reference (row q: lr, hand hr) and the empty one behind it, at world w; since W only what lies from L to H was changed -/
structure Ps (L H q0 : Nat) (W w : World) (c lo hi q cap n bx : Nat) (lp : List Pl) (hp : Nat) (lr : List Pl) (hr : Nat) : Prop where
  s : Sc w c lo hi lp hp
  r : Rw w q lr
  z : BoxR w bx (.slice (some ⟨q, 0, none⟩) n cap) (.int .i64 (hr : Int))
  y : BoxR w (bx + 1) (.slice none 0 0) (.int .i64 0)
  ln : lr.length = n
  b : Keep L H W w
  lob : (L ≤ lo ∧ hi ≤ H) ∨ W.heap.size ≤ lo
  bbx : W.heap.size ≤ bx
  d : q < lo ∨ hi ≤ q
  dx : bx + 1 < lo ∨ hi ≤ bx
  dq : q ≠ bx ∧ q ≠ bx + 1
  q1 : q = q0 ∨ W.heap.size ≤ q
theorem BoxR.lt {w : World} {g : Nat} {x y : Value} (h : BoxR w g x y) : g < w.heap.size := (Array.getElem?_eq_some_iff.1 h).1
theorem Ps.below {L H q0 : Nat} {W w v : World} {c lo hi q cap n bx : Nat} {lp lr : List Pl} {hp hr : Nat} (h : Ps L H q0 W w c lo hi q cap n bx lp hp lr hr) (hb : Below w.heap.size w v) : Ps L H q0 W v c lo hi q cap n bx lp hp lr hr :=
  ⟨h.s.below hb, h.r.of (hb.block q h.r.lt), (hb.block bx (BoxR.lt h.z)).trans h.z, (hb.block _ (BoxR.lt h.y)).trans h.y, h.ln, h.b.tr hb, h.lob, h.bbx, h.d, h.dx, h.dq, h.q1⟩
/-- the object is changed -/
theorem Ps.obj {L H q0 : Nat} {W w v : World} {c lo hi q cap n bx : Nat} {lp lr lp' : List Pl} {hp hr hp' : Nat} (h : Ps L H q0 W w c lo hi q cap n bx lp hp lr hr) (hs : Sc v c lo hi lp' hp') (hk : Keep lo hi w v) : Ps L H q0 W v c lo hi q cap n bx lp' hp' lr hr :=
  have hd := h.dx
  ⟨hs, h.r.keep hk h.d, (hk.block bx (BoxR.lt h.z) (by omega)).trans h.z, (hk.block _ (BoxR.lt h.y) (by omega)).trans h.y, h.ln, h.b.wide hk h.lob, h.lob, h.bbx, h.d, h.dx, h.dq, h.q1⟩
/-- another object is changed -/
theorem Ps.other {L H q0 : Nat} {W w v : World} {c lo hi q cap n bx lo' hi' : Nat} {lp lr : List Pl} {hp hr : Nat} (h : Ps L H q0 W w c lo hi q cap n bx lp hp lr hr) (hk : Keep lo' hi' w v) (h1 : hi' ≤ lo) (h2 : (L ≤ lo' ∧ hi' ≤ H) ∨ W.heap.size ≤ lo') (h3 : q < lo' ∨ hi' ≤ q) (h4 : bx + 1 < lo' ∨ hi' ≤ bx) : Ps L H q0 W v c lo hi q cap n bx lp hp lr hr :=
  ⟨h.s.keep hk (.inr h1), h.r.keep hk h3, (hk.block bx (BoxR.lt h.z) (by omega)).trans h.z, (hk.block _ (BoxR.lt h.y) (by omega)).trans h.y, h.ln, h.b.wide hk h2, h.lob, h.bbx, h.d, h.dx, h.dq, h.q1⟩
/-- another object -/
theorem Ps.copy {L H q0 : Nat} {W w : World} {c lo hi q cap n bx c' lo' hi' : Nat} {lp lr lp' : List Pl} {hp hr hp' : Nat} (h : Ps L H q0 W w c lo hi q cap n bx lp hp lr hr) (hs : Sc w c' lo' hi' lp' hp') (h1 : q < lo') (h2 : bx + 1 < lo') (h3 : W.heap.size ≤ lo') : Ps L H q0 W w c' lo' hi' q cap n bx lp' hp' lr hr :=
  ⟨hs, h.r, h.z, h.y, h.ln, h.b, .inr h3, h.bbx, .inl h1, .inl h2, h.dq, h.q1⟩
/-- another row -/
theorem Ps.ref {L H q0 : Nat} {W w : World} {c lo hi q cap n bx g cap' : Nat} {lp lr lr' : List Pl} {hp hr hr' : Nat} (h : Ps L H q0 W w c lo hi q cap n bx lp hp lr hr) (hr : Rw w g lr') (hl : lr'.length = n) (h1 : g < lo ∨ hi ≤ g) (h2 : g ≠ bx) (h3 : g ≠ bx + 1) (h4 : g = q0 ∨ W.heap.size ≤ g) :
    Ps L H q0 W ((w.setCell ⟨bx, 0, none⟩ (.slice (some ⟨g, 0, none⟩) n cap')).setCell ⟨bx, 1, none⟩ (.int .i64 (hr' : Int))) c lo hi g cap' n bx lp hp lr' hr' := by
  have hk : Keep bx (bx + 1) w ((w.setCell ⟨bx, 0, none⟩ (.slice (some ⟨g, 0, none⟩) n cap')).setCell ⟨bx, 1, none⟩ (.int .i64 (hr' : Int))) := ((Keep.refl bx (bx + 1) w).setCell (Nat.le_refl _) (Nat.lt_succ_self _) _).setCell (Nat.le_refl _) (Nat.lt_succ_self _) _
  have hb := h.bbx
  have hdx := h.dx
  exact ⟨h.s.keep hk (by omega), hr.keep hk (by omega), BoxR.set2 h.z _ _, (hk.block _ (BoxR.lt h.y) (by omega)).trans h.y, hl, h.b.wide hk (.inr hb), h.lob, h.bbx, h1, h.dx, ⟨h2, h3⟩, h4⟩
/-- the end: the result is stored -/
theorem Ps.fin {L H q0 : Nat} {W w : World} {c lo hi q cap n bx : Nat} {lp lr : List Pl} {hp hr : Nat} (h : Ps L H q0 W w c lo hi q cap n bx lp hp lr hr) (u v : Value) :
    Sc ((w.setCell ⟨bx + 1, 0, none⟩ u).setCell ⟨bx + 1, 1, none⟩ v) c lo hi lp hp ∧ Rw ((w.setCell ⟨bx + 1, 0, none⟩ u).setCell ⟨bx + 1, 1, none⟩ v) q lr ∧ BoxR ((w.setCell ⟨bx + 1, 0, none⟩ u).setCell ⟨bx + 1, 1, none⟩ v) (bx + 1) u v ∧ Keep L H W ((w.setCell ⟨bx + 1, 0, none⟩ u).setCell ⟨bx + 1, 1, none⟩ v) := by
  have hk : Keep (bx + 1) (bx + 2) w ((w.setCell ⟨bx + 1, 0, none⟩ u).setCell ⟨bx + 1, 1, none⟩ v) := ((Keep.refl (bx + 1) (bx + 2) w).setCell (Nat.le_refl _) (Nat.lt_succ_self _) _).setCell (Nat.le_refl _) (Nat.lt_succ_self _) _
  have hb := h.bbx
  have hdx := h.dx
  have hdq := h.dq
  exact ⟨h.s.keep hk (by omega), h.r.keep hk (by omega), BoxR.set2 h.y _ _, h.b.wide hk (.inr (by omega))⟩
/-- block b is a variable that holds a call -/
def Bk (w : World) (b : Nat) (what k : Int) : Prop := w.heap[b]? = some (.cells #[.int .i64 what, .int .u32 k] 44 (0, 0))
theorem Bk.c {w : World} {b : Nat} {what k : Int} (h : Bk w b what k) : w.cell? ⟨b, 0, none⟩ = some (.int .i64 what) ∧ w.cell? ⟨b, 1, none⟩ = some (.int .u32 k) ∧ b < w.heap.size := by
  refine ⟨?_, ?_, (Array.getElem?_eq_some_iff.1 h).1⟩ <;> (unfold World.cell?; rw [show w.heap[b]? = _ from h]; rfl)
theorem Bk.below {w w' : World} {b : Nat} {what k : Int} (h : Bk w b what k) (hb : Below w.heap.size w w') : Bk w' b what k := (hb.block b h.c.2.2).trans h
theorem Bk.keep {w w' : World} {b lo hi : Nat} {what k : Int} (h : Bk w b what k) (hk : Keep lo hi w w') (hne : b < lo ∨ hi ≤ b) : Bk w' b what k := (hk.block b h.c.2.2 hne).trans h
theorem results_rv3 {fn : Func} {s t u : Tmp} (h : fn.results = #[.tmp s, .cell t 30, .tmp u]) (tmps : Array Value) {w : World} {b q n cap : Nat} {hd : Int} {p r : Value} (hs : tmps.getD s undef = p) (hq : tmps.getD t undef = .pointer (some ⟨b, 0, none⟩)) (hu : tmps.getD u undef = r) (hc : BoxR w b (.slice (some ⟨q, 0, none⟩) n cap) (.int .i64 hd)) :
    (results fn tmps).run Try.prog w = .ok (.tuple #[p, rv q n cap hd, r]) w := by
  have hl := load_rv hc
  generalize rv q n cap hd = V at *
  unfold results
  rw [h]
  rw [Array.getD_eq_getD_getElem?] at hs hq hu
  simp [hs, hq, hu, hl, asAddr]
theorem ret_rv3 {fn : Func} {s t u : Tmp} (h : fn.results = #[.tmp s, .cell t 30, .tmp u]) {a : Act} {w : World} {R : Ending → World → Prop} {b q n cap : Nat} {hd : Int} {p r : Value} (hs : a.tmps.getD s undef = p) (hq : a.tmps.getD t undef = .pointer (some ⟨b, 0, none⟩)) (hu : a.tmps.getD u undef = r) (hc : BoxR w b (.slice (some ⟨q, 0, none⟩) n cap) (.int .i64 hd)) (hd' : a.defers = [])
    (hR : R (.returned (.tuple #[p, rv q n cap hd, r])) w) : bodyPost Try.prog fn R .ret a w :=
  bodyPost_ret (results_rv3 h _ hs hq hu hc) hd' hR
end Go.Proofs.Yteppcjolgpdenaa.Seq
