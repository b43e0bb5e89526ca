/-
  Links (layer 14): a field of nodes in the heap.
-/
import Derived.Test.YtjcabdnjimcdgaaProg
import Derived.Test.YtjcabdnjimcdgaaKit
import Derived.Test.YtjcabdnjimcdgaaLnkA
import Derived.Laws.AppendOwn
import Derived.Laws.OwnMore
import Derived.BigRegion
import Derived.BigQuiet
import Derived.Carry
import Derived.Deep.QuietTactic
import Derived.Deep.RegionHeld3
set_option linter.unusedVariables false
set_option linter.unusedSimpArgs false
namespace Go.Proofs.Ytjcabdnjimcdgaa.Lnk
open Go Go.RowKit Kit
/-- all blocks but the bad ones are kept -/
structure Kp (bad : Nat → Prop) (w w' : World) : Prop where
  os : w'.os = w.os
  tape : w'.tape = w.tape
  output : w'.output = w.output
  size : w.heap.size ≤ w'.heap.size
  block : ∀ k, k < w.heap.size → ¬ bad k → w'.heap[k]? = w.heap[k]?
theorem Kp.refl (bad : Nat → Prop) (w : World) : Kp bad w w := ⟨rfl, rfl, rfl, Nat.le_refl _, fun _ _ _ => rfl⟩
theorem Kp.trans {bad : Nat → Prop} {x y z : World} (h : Kp bad x y) (k : Kp bad y z) : Kp bad x z :=
  ⟨k.os.trans h.os, k.tape.trans h.tape, k.output.trans h.output, Nat.le_trans h.size k.size, fun b hb hne => (k.block b (Nat.lt_of_lt_of_le hb h.size) hne).trans (h.block b hb hne)⟩
theorem Kp.of {bad : Nat → Prop} {w w' : World} (h : Below w.heap.size w w') : Kp bad w w' := ⟨h.os, h.tape, h.output, h.size, fun k hk _ => h.block k hk⟩
theorem Kp.tr {bad : Nat → Prop} {x y z : World} (h : Kp bad x y) (k : Below y.heap.size y z) : Kp bad x z := h.trans (Kp.of k)
theorem Kp.mono {bad bad' : Nat → Prop} {w w' : World} (h : Kp bad w w') (hb : ∀ k, k < w.heap.size → bad k → bad' k) : Kp bad' w w' := ⟨h.os, h.tape, h.output, h.size, fun k hk hn => h.block k hk fun h2 => hn (hb k hk h2)⟩
theorem Kp.setCell {bad : Nat → Prop} {b j : Nat} {w w' : World} (h : Kp bad w w') (hb : bad b ∨ w.heap.size ≤ b) (v : Value) : Kp bad w (w'.setCell ⟨b, j, none⟩ v) := by
  refine ⟨h.os, h.tape, h.output, by simpa using h.size, fun k hk hne => ?_⟩
  rw [Below.heap_setCell _ _ _ k (by show k ≠ b; rintro rfl; rcases hb with h1 | h1; exact hne h1; omega)]
  exact h.block k hk hne
theorem Kp.below {bad : Nat → Prop} {n : Nat} {w w' : World} (h : Kp bad w w') (hb : ∀ k, k < n → ¬ bad k) (hn : n ≤ w.heap.size) : Below n w w' :=
  ⟨h.os, h.tape, h.output, h.size, fun k hk => h.block k (by omega) (hb k hk)⟩
theorem heap_set {W : World} {q j : Nat} {cs : Array Value} {t : TypeId} (hh : W.heap[q]? = some (.cells cs t (0, 0))) (u : Value) : (W.setCell ⟨q, j, none⟩ u).heap[q]? = some (.cells (cs.setIfInBounds j u) t (0, 0)) := by
  obtain ⟨hlt, hk⟩ := Array.getElem?_eq_some_iff.1 hh
  show (W.heap.modify q _)[q]? = _
  rw [Array.getElem?_eq_getElem (by rw [Array.size_modify]; exact hlt), Array.getElem_modify_self, hk]
  simp
def Fd.upP (F : Fd) (i a : Nat) : Fd := ⟨fun x => if x = i then a else F.pv x, F.nx, F.hd⟩
def Fd.upN (F : Fd) (i a : Nat) : Fd := ⟨F.pv, fun x => if x = i then a else F.nx x, F.hd⟩
def Fd.upH (F : Fd) (i : Nat) (a : Int) : Fd := ⟨F.pv, F.nx, fun x => if x = i then a else F.hd x⟩
/-- the row of nodes -/
def Fw (w : World) (q M : Nat) (F : Fd) : Prop := ∃ cur, w.heap[q]? = some (.cells cur 141 (0, 0)) ∧ ∀ i, i < M → cur[i * 3]? = some (.int .u32 (F.pv i : Int)) ∧ cur[i * 3 + 1]? = some (.int .u32 (F.nx i : Int)) ∧ cur[i * 3 + 2]? = some (.int .i32 (F.hd i))
theorem Fw.lt {w : World} {q M : Nat} {F : Fd} (h : Fw w q M F) : q < w.heap.size := by
  obtain ⟨cur, h1, -⟩ := h
  exact (Array.getElem?_eq_some_iff.1 h1).1
theorem Fw.of {w w' : World} {q M : Nat} {F : Fd} (h : Fw w q M F) (hb : w'.heap[q]? = w.heap[q]?) : Fw w' q M F := by
  obtain ⟨cur, h1, h2⟩ := h
  exact ⟨cur, hb.trans h1, h2⟩
theorem Fw.at_ {w : World} {q M : Nat} {F : Fd} (h : Fw w q M F) {i : Nat} (hi : i < M) : w.cell? ⟨q, i * 3, none⟩ = some (.int .u32 (F.pv i : Int)) ∧ w.cell? ⟨q, i * 3 + 1, none⟩ = some (.int .u32 (F.nx i : Int)) ∧ w.cell? ⟨q, i * 3 + 2, none⟩ = some (.int .i32 (F.hd i)) := by
  obtain ⟨cur, h1, h2⟩ := h
  obtain ⟨e1, e2, e3⟩ := h2 i hi
  exact ⟨by simp [World.cell?, h1, e1], by simp [World.cell?, h1, e2], by simp [World.cell?, h1, e3]⟩
theorem Fw.frozen {w : World} {q M : Nat} {F : Fd} (h : Fw w q M F) (j : Nat) : w.frozen? ⟨q, j, none⟩ = false := by
  obtain ⟨cur, h1, h2⟩ := h
  simp [World.frozen?, h1]
theorem get_set {cs : Array Value} {k j : Nat} {u v x : Value} (h : cs[k]? = some u) (hv : v = if k = j then x else u) : (cs.setIfInBounds j x)[k]? = some v := by
  have hlt := (Array.getElem?_eq_some_iff.1 h).1
  rw [Array.getElem?_setIfInBounds]
  by_cases hjk : j = k
  · subst hjk
    rw [if_pos rfl, if_pos hlt, hv, if_pos rfl]
  · rw [if_neg hjk, h, hv, if_neg (Ne.symm hjk)]
theorem Fw.setP {w : World} {q M : Nat} {F : Fd} (h : Fw w q M F) (i a : Nat) : Fw (w.setCell ⟨q, i * 3, none⟩ (.int .u32 (a : Int))) q M (F.upP i a) := by
  obtain ⟨cur, h1, h2⟩ := h
  refine ⟨_, heap_set h1 _, fun k hk => ?_⟩
  obtain ⟨e1, e2, e3⟩ := h2 k hk
  refine ⟨get_set e1 ?_, get_set e2 ?_, get_set e3 ?_⟩
  · unfold Fd.upP
    by_cases hki : k = i
    · simp [hki]
    · have : ¬ k * 3 = i * 3 := by omega
      simp only [if_neg hki]
      rw [if_neg this]
  · have : ¬ k * 3 + 1 = i * 3 := by omega
    rw [if_neg this]
    rfl
  · have : ¬ k * 3 + 2 = i * 3 := by omega
    rw [if_neg this]
    rfl
theorem Fw.setN {w : World} {q M : Nat} {F : Fd} (h : Fw w q M F) (i a : Nat) : Fw (w.setCell ⟨q, i * 3 + 1, none⟩ (.int .u32 (a : Int))) q M (F.upN i a) := by
  obtain ⟨cur, h1, h2⟩ := h
  refine ⟨_, heap_set h1 _, fun k hk => ?_⟩
  obtain ⟨e1, e2, e3⟩ := h2 k hk
  refine ⟨get_set e1 ?_, get_set e2 ?_, get_set e3 ?_⟩
  · have : ¬ k * 3 = i * 3 + 1 := by omega
    rw [if_neg this]
    rfl
  · unfold Fd.upN
    by_cases hki : k = i
    · simp [hki]
    · have : ¬ k * 3 + 1 = i * 3 + 1 := by omega
      simp only [if_neg hki]
      rw [if_neg this]
  · have : ¬ k * 3 + 2 = i * 3 + 1 := by omega
    rw [if_neg this]
    rfl
theorem Fw.setH {w : World} {q M : Nat} {F : Fd} (h : Fw w q M F) (i : Nat) (a : Int) : Fw (w.setCell ⟨q, i * 3 + 2, none⟩ (.int .i32 a)) q M (F.upH i a) := by
  obtain ⟨cur, h1, h2⟩ := h
  refine ⟨_, heap_set h1 _, fun k hk => ?_⟩
  obtain ⟨e1, e2, e3⟩ := h2 k hk
  refine ⟨get_set e1 ?_, get_set e2 ?_, get_set e3 ?_⟩
  · have : ¬ k * 3 = i * 3 + 2 := by omega
    rw [if_neg this]
    rfl
  · have : ¬ k * 3 + 1 = i * 3 + 2 := by omega
    rw [if_neg this]
    rfl
  · unfold Fd.upH
    by_cases hki : k = i
    · simp [hki]
    · have : ¬ k * 3 + 2 = i * 3 + 2 := by omega
      simp only [if_neg hki]
      rw [if_neg this]
/-- the row of lengths -/
def Lw (w : World) (r : Nat) (Ls : List (List Nat)) : Prop := ∃ cur, w.heap[r]? = some (.cells cur 3 (0, 0)) ∧ ∀ (h : Nat) (l : List Nat), Ls[h]? = some l → cur[h]? = some (.int .i64 (l.length : Int))
theorem Lw.lt {w : World} {r : Nat} {Ls : List (List Nat)} (h : Lw w r Ls) : r < w.heap.size := by
  obtain ⟨cur, h1, -⟩ := h
  exact (Array.getElem?_eq_some_iff.1 h1).1
theorem Lw.of {w w' : World} {r : Nat} {Ls : List (List Nat)} (h : Lw w r Ls) (hb : w'.heap[r]? = w.heap[r]?) : Lw w' r Ls := by
  obtain ⟨cur, h1, h2⟩ := h
  exact ⟨cur, hb.trans h1, h2⟩
theorem Lw.at_ {w : World} {r : Nat} {Ls : List (List Nat)} (H : Lw w r Ls) {h : Nat} {l : List Nat} (hl : Ls[h]? = some l) : w.cell? ⟨r, h, none⟩ = some (.int .i64 (l.length : Int)) ∧ w.frozen? ⟨r, h, none⟩ = false := by
  obtain ⟨cur, h1, h2⟩ := H
  have e1 := h2 h l hl
  exact ⟨by simp [World.cell?, h1, e1], by simp [World.frozen?, h1]⟩
theorem Lw.set {w : World} {r : Nat} {Ls : List (List Nat)} (H : Lw w r Ls) {h : Nat} {l : List Nat} : Lw (w.setCell ⟨r, h, none⟩ (.int .i64 (l.length : Int))) r (Ls.set h l) := by
  obtain ⟨cur, h1, h2⟩ := H
  refine ⟨_, heap_set h1 _, fun k m hk => ?_⟩
  by_cases hkh : k = h
  · subst hkh
    have hlt : k < Ls.length := by
      have := (List.getElem?_eq_some_iff.1 hk).1
      rwa [List.length_set] at this
    rw [List.getElem?_set_self hlt] at hk
    cases hk
    exact get_set (h2 k _ (List.getElem?_eq_getElem hlt)) (by simp)
  · rw [List.getElem?_set_ne (by omega)] at hk
    exact get_set (h2 k m hk) (by simp [hkh])
/-- the object -/
structure Lo (w : World) (c q r cq cr N : Nat) (F : Fd) (Ls : List (List Nat)) : Prop where
  obj : w.heap[c]? = some (.cells #[.int .i64 (N : Int), .slice (some ⟨q, 0, none⟩) (N + Ls.length) cq, .slice (some ⟨r, 0, none⟩) Ls.length cr] 139 (0, 0))
  fw : Fw w q (N + Ls.length) F
  lw : Lw w r Ls
  ring : Ring F N Ls
  cq : c ≠ q
  cr : c ≠ r
  qr : q ≠ r
  n1 : 1 ≤ N
  n2 : N ≤ 4194304
  h1 : 1 ≤ Ls.length
  h2 : Ls.length ≤ 4096
/-- blocks of an object -/
def Ob (c q r : Nat) : Nat → Prop := fun k => k = c ∨ k = q ∨ k = r
theorem Lo.lt {w : World} {c q r cq cr N : Nat} {F : Fd} {Ls : List (List Nat)} (h : Lo w c q r cq cr N F Ls) : c < w.heap.size ∧ q < w.heap.size ∧ r < w.heap.size := ⟨(Array.getElem?_eq_some_iff.1 h.obj).1, h.fw.lt, h.lw.lt⟩
theorem Lo.of {w w' : World} {c q r cq cr N : Nat} {F : Fd} {Ls : List (List Nat)} (h : Lo w c q r cq cr N F Ls) (hb : ∀ k, Ob c q r k → w'.heap[k]? = w.heap[k]?) : Lo w' c q r cq cr N F Ls :=
  ⟨(hb c (.inl rfl)).trans h.obj, h.fw.of (hb q (.inr (.inl rfl))), h.lw.of (hb r (.inr (.inr rfl))), h.ring, h.cq, h.cr, h.qr, h.n1, h.n2, h.h1, h.h2⟩
theorem Lo.below {w w' : World} {c q r cq cr N : Nat} {F : Fd} {Ls : List (List Nat)} (h : Lo w c q r cq cr N F Ls) (hb : Below w.heap.size w w') : Lo w' c q r cq cr N F Ls :=
  h.of fun k hk => hb.block k (by have := h.lt; rcases hk with rfl | rfl | rfl; exact this.1; exact this.2.1; exact this.2.2)
theorem Lo.kp {w w' : World} {c q r cq cr N : Nat} {F : Fd} {Ls : List (List Nat)} {bad : Nat → Prop} (h : Lo w c q r cq cr N F Ls) (hk : Kp bad w w') (hb : ∀ k, Ob c q r k → ¬ bad k) : Lo w' c q r cq cr N F Ls :=
  h.of fun k hk2 => hk.block k (by have := h.lt; rcases hk2 with rfl | rfl | rfl; exact this.1; exact this.2.1; exact this.2.2) (hb k hk2)
theorem Lo.cells {w : World} {c q r cq cr N : Nat} {F : Fd} {Ls : List (List Nat)} (h : Lo w c q r cq cr N F Ls) : w.cell? ⟨c, 0, none⟩ = some (.int .i64 (N : Int)) ∧ w.cell? ⟨c, 1, none⟩ = some (.slice (some ⟨q, 0, none⟩) (N + Ls.length) cq) ∧ w.cell? ⟨c, 2, none⟩ = some (.slice (some ⟨r, 0, none⟩) Ls.length cr) := by
  have h1 := h.obj
  exact ⟨by simp [World.cell?, h1], by simp [World.cell?, h1], by simp [World.cell?, h1]⟩
set_option maxRecDepth 100000 in
theorem isZero_any {w : World} {c q r cq cr N : Nat} {F : Fd} {Ls : List (List Nat)} (H : Lo w c q r cq cr N F Ls) :
    Calls Try.prog 153 #[.pointer (some ⟨c, 0, none⟩)] w fun e w' => e = .returned (.bool false) ∧ w = w' := by
  obtain ⟨k0, k1, k2⟩ := H.cells
  have n1 := H.n1
  have hn : ((N : Int) == 0) = false := by rw [beq_eq_false_iff_ne]; omega
  clear H
  go_enter Try.func153, Try.ntmps153
  go_wp2
  go_ret
  exact ⟨rfl, rfl⟩
set_option maxRecDepth 100000 in
theorem root_any {w : World} {c q r cq cr N : Nat} {F : Fd} {Ls : List (List Nat)} (H : Lo w c q r cq cr N F Ls) {h : Nat} (hh : h < Ls.length) :
    Calls Try.prog 152 #[.pointer (some ⟨c, 0, none⟩), .int .i64 (h : Int)] w fun e w' => e = .returned (.int .u32 ((N + h : Nat) : Int)) ∧ w = w' := by
  obtain ⟨k0, k1, k2⟩ := H.cells
  have n1 := H.n1
  have n2 := H.n2
  have h2 := H.h2
  have w1 := IntWalk.i64_in ((N : Int) + (h : Int)) (by omega)
  clear H
  go_enter Try.func152, Try.ntmps152
  go_wp2_with fail
  go_ret
  exact ⟨ret_int (by omega), rfl⟩
end Go.Proofs.Ytjcabdnjimcdgaa.Lnk
