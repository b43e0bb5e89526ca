/-
  A checked evaluator, part K: append, copy, maps.
-/
import Derived.Test.YtdhdaknfmpfegaaEvG
import Derived.Laws.Append
import Derived.Lib.Builder
import Derived.Lib.UnsafeStr
import Derived.Lib.MakeNoZero
import Derived.MapKept
import Derived.RangeFuncRecord
import Derived.Laws.BytesString
import Derived.Lib.ConvBytes
section
set_option linter.unusedVariables false
set_option linter.unusedSectionVars false
set_option linter.unusedSimpArgs false
namespace Go.Proofs.Ytdhdaknfmpfegaa.Ev
open Go Go.RowKit
variable [Tab]

section
variable {P : Program} {M : Mp} {σ : Nat → Value} {H : Tr Blk} {w : World}
/-! ### append -/
def lenV : Value → Option Nat
  | .slice _ n _ => some n
  | .string s => some s.size
  | _ => none
theorem lenV_run {x u : Value} {n : Nat} (h : lenV x = some n) (hr : VR M σ x u) : (Builtin.lenOf u).run P w = .ok n w := by
  cases hr <;> simp [lenV] at h <;> subst h <;> rfl
/-- the first n elements of a slice or a string -/
def headE (H : Tr Blk) (size n : Nat) : Value → Option (List Value)
  | .slice (some ⟨i, o, _⟩) _ _ => cellsE H i o (n * size)
  | .slice none _ _ => some []
  | .string s => some ((s.extract 0 n).data.toList.map fun b => .int .u8 b.toNat)
  | _ => none
theorem vrs_bytes (l : List UInt8) : VRs M σ (l.map fun b => Value.int .u8 b.toNat) (l.map fun b => Value.int .u8 b.toNat) := by
  induction l with
  | nil => exact .nil
  | cons b l ih => exact .cons (.int _ _) ih
theorem headE_run (hH : HR M σ H.get w) {size n : Nat} {x u : Value} {ys : List Value} (h : headE H size n x = some ys) (hr : VR M σ x u) : ∃ vs : List Value, (Builtin.firstCells size n u).run P w = .ok vs.toArray w ∧ VRs M σ ys vs := by
  cases hr <;> simp only [headE] at h <;> (try (cases h; done))
  case str s => cases h; exact ⟨_, by simp [Builtin.firstCells]; apply Array.ext'; simp, vrs_bytes _⟩
  case nils => cases h; exact ⟨[], by simp [Builtin.firstCells], .nil⟩
  case slice i o l c p hp =>
    obtain ⟨vs, h1, h2, h3⟩ := cellsE_run hH h hp
    have hc := run_loadCells_list (P := P) w ⟨p.b, p.s + o, none⟩ vs (fun j v hv => by rw [addr_add]; exact h3 j v hv)
    rw [h1] at hc
    exact ⟨vs, hc, h2⟩
  case grown i o e l m c p hp _ _ _ =>
    obtain ⟨vs, h1, h2, h3⟩ := cellsE_run hH h hp
    have hc := run_loadCells_list (P := P) w ⟨p.b, p.s + o, none⟩ vs (fun j v hv => by rw [addr_add]; exact h3 j v hv)
    rw [h1] at hc
    exact ⟨vs, hc, h2⟩
/-- cells are written over those of a block of which nothing else is known -/
theorem storeCells_raw : ∀ (vs : List Value) (b off i : Nat) (w : World) (c : Array Value) (t : TypeId) (fr : Nat × Nat), w.heap[b]? = some (.cells c t fr) → (∀ j, j < c.size → (decide (fr.1 ≤ j) && decide (j < fr.2)) = false) → (∀ v ∈ vs, v.oneCell' = true) → off + i + vs.length ≤ c.size →
    ∃ w', (storeCells ⟨b, off, none⟩ vs i).run P w = .ok () w' ∧ (∃ c' : Array Value, w'.heap[b]? = some (.cells c' t fr) ∧ c'.toList = c.toList.take (off + i) ++ vs ++ c.toList.drop (off + i + vs.length)) ∧ (∀ j, j ≠ b → w'.heap[j]? = w.heap[j]?) ∧ w'.os = w.os ∧ w'.tape = w.tape ∧ w'.output = w.output ∧ w'.heap.size = w.heap.size
  | [], b, off, i, w, c, t, fr, hb, hfr, h1, hl => ⟨w, by simp [storeCells], ⟨c, hb, by simp⟩, fun _ _ => rfl, rfl, rfl, rfl, rfl⟩
  | v :: vs, b, off, i, w, c, t, fr, hb, hfr, h1, hl => by
    simp only [List.length_cons] at hl
    have hlt := (Array.getElem?_eq_some_iff.1 hb).1
    have hoi : off + i < c.size := by omega
    have hcell : w.cell? ⟨b, off + i, none⟩ = some c[off + i] := by simp [World.cell?, hb, hoi]
    have hfree : w.frozen? ⟨b, off + i, none⟩ = false := by
      have := hfr _ hoi
      obtain ⟨lo, hi⟩ := fr
      simp only [World.frozen?, hb]
      simpa using this
    have hblk : (w.setCell ⟨b, off + i, none⟩ v).heap[b]? = some (.cells (c.set (off + i) v hoi) t fr) := by
      obtain ⟨_, hk⟩ := Array.getElem?_eq_some_iff.1 hb
      show (w.heap.modify b _)[b]? = _
      rw [Array.getElem?_eq_getElem (by rw [Array.size_modify]; exact hlt), Array.getElem_modify_self, hk]
      simp [Array.setIfInBounds, hoi]
    obtain ⟨w', a1, ⟨c', a2, a3⟩, a4, a5, a6, a7, a8⟩ := storeCells_raw vs b off (i + 1) (w.setCell ⟨b, off + i, none⟩ v) _ t fr hblk (by simpa using hfr) (fun u hu => h1 u (by simp [hu])) (by simp; omega)
    have hone := h1 v (by simp)
    refine ⟨w', ?_, ⟨c', a2, ?_⟩, fun j hj => (a4 j hj).trans (Below.heap_setCell w _ v j hj), a5, a6, a7, by rw [a8]; simp⟩
    · simp only [storeCells, Sem.run_bind, addr_add, run_store _ _ _ _ _ hone, hcell, hfree, Result.andThen_ok, Bool.false_eq_true, if_false]
      exact a1
    · rw [a3]
      have hoi' : off + i < c.toList.length := by simpa using hoi
      simp only [Array.toList_set]
      rw [show off + (i + 1) = off + i + 1 by omega, List.take_succ_eq_append_getElem (by simpa using hoi)]
      simp only [List.getElem_set_self, List.take_set_of_le (Nat.le_refl _)]
      rw [List.drop_set_of_lt (by omega), show off + i + 1 + vs.length = off + i + (vs.length + 1) by omega]
      simp
def grownTo (z n : Nat) (id : Nat) : Value := .slice (some ⟨id, 0, some z⟩) n n
/-- a block is given up -/
theorem HR.kill {H : HP} (h : HR M σ H w) (k : Key) {b : Blk} (hg : H k = some b) : HR M σ (upd H k .dead) w := by
  have hup : ∀ {k' b'}, upd H k .dead k' = some b' → b'.live = true → k' ≠ k ∧ H k' = some b' := fun {k' b'} g l => by
    by_cases e : k' = k
    · subst e; rw [upd_same] at g; cases g; cases l
    · rw [upd_other _ _ e] at g; exact ⟨e, g⟩
  refine ⟨fun k' b' g l => h.blk k' b' (hup g l).2 l, fun k1 k2 b1 b2 p1 p2 g1 l1 g2 l2 m1 m2 e => h.inj k1 k2 b1 b2 p1 p2 (hup g1 l1).2 l1 (hup g2 l2).2 l2 m1 m2 e, fun k' p hp => ?_, fun x hx => ⟨(h.gl x hx).1, fun k' b' p g l m => (h.gl x hx).2 k' b' p (hup g l).2 l m⟩⟩
  by_cases e : k' = k
  · subst e; exact ⟨_, upd_same _ _ _⟩
  · rw [upd_other _ _ e]; exact h.dom k' p hp
theorem Stp.kill {H : HP} (k : Key) {b : Blk} (hg : H k = some b) : Stp M H w M (upd H k .dead) w where
  le := Le.refl _
  os := rfl
  tape := rfl
  output := rfl
  size := Nat.le_refl _
  frame := fun _ _ _ => rfl
  dead := fun k' hk => by
    by_cases e : k' = k
    · subst e; exact upd_same _ _ _
    · rw [upd_other _ _ e]; exact hk
  fresh := fun _ _ h => .inl h
  grow := fun k' b' hb => by
    by_cases e : k' = k
    · subst e; exact ⟨_, upd_same _ _ _⟩
    · rw [upd_other _ _ e]; exact ⟨b', hb⟩
  own := fun k' b' p g l m => by
    by_cases e : k' = k
    · subst e; rw [upd_same] at g; cases g; cases l
    · rw [upd_other _ _ e] at g; exact .inr ⟨k', b', p, g, l, m, rfl⟩
def killO (i : Option Nat) (H : Tr Blk) : Tr Blk := match i with | none => H | some i => H.set (key i) .dead
def appendNew (H : Tr Blk) (nx e z : Nat) (kill : Option Nat) (old news : List Value) (need : Nat) : Option OpR :=
  match (killO kill H).get (key nx), Nat.beq (old ++ news).length (need * z) with
  | none, true => some (.upd (grownTo z need nx) ((killO kill H).set (key nx) (.cells e (old ++ news))) (nx + 1))
  | _, _ => none
def appendIn (H : Tr Blk) (nx i off : Nat) (news : List Value) (v : Value) : Option OpR :=
  match H.get (key i), news.all Value.oneCell' with
  | some (.cells t xs), true => match splice xs off news with
    | some ys => some (.upd v (H.set (key i) (.cells t ys)) nx)
    | none => none
  | _, _ => none
def fitsE (need bytes : Nat) : Bool := Nat.ble need 1073741824 && Nat.ble (need * bytes) 140737488355328
def appNil (e z bytes n : Nat) (news : List Value) (H : Tr Blk) (nx c : Nat) : Option OpR :=
  match Nat.beq n 0 with
  | true => some (.upd (.slice none 0 c) H nx)
  | false => match Nat.blt c n, fitsE n bytes with
    | true, true => appendNew H nx e z none [] news n
    | _, _ => none
def appExact (e z bytes n : Nat) (news : List Value) (H : Tr Blk) (nx b o l c : Nat) : Option OpR :=
  match Nat.ble (l + n) c with
  | true => appendIn H nx b (o + l * z) news (.slice (some ⟨b, o, none⟩) (l + n) c)
  | false => match cellsE H b o (l * z), fitsE (l + n) bytes with
    | some old, true => appendNew H nx e z none old news (l + n)
    | _, _ => none
def appGrown (e z bytes n : Nat) (news : List Value) (H : Tr Blk) (nx b o l m : Nat) : Option OpR :=
  match Nat.ble (l + n) m with
  | true => appendIn H nx b (o + l * z) news (.slice (some ⟨b, o, some z⟩) (l + n) m)
  | false => match H.get (key b), cellsE H b o (l * z), fitsE (l + n) bytes, news.all Value.oneCell' with
    | some (.cells t _), some old, true, true => match Nat.beq t e && !isBld t Tab.table with
      | true => appendNew H nx e z (some b) old news (l + n)
      | false => none
    | _, _, _, _ => none
def appTo (s : Value) (e z bytes n : Nat) (news : List Value) (H : Tr Blk) (nx : Nat) : Option OpR :=
  match s with
  | .slice none l c => match Nat.beq l 0 with
    | true => appNil e z bytes n news H nx c
    | false => none
  | .slice (some ⟨b, o, none⟩) l c => appExact e z bytes n news H nx b o l c
  | .slice (some ⟨b, o, some z'⟩) l m => match Nat.beq z z' with
    | true => appGrown e z bytes n news H nx b o l m
    | false => none
  | _ => none
def evAppend (P : Program) (sT xT : TypeId) (s x : Value) (H : Tr Blk) (nx : Nat) : Option OpR :=
  match P.underlying sT with
  | some (.slice e) => match P.info? e, sizeT P e, zeroE P e with
    | some i, some z, some zero => match Nat.blt 0 z, Nat.beq zero.length z with
      | true, true => match P.underlying xT with
        | some (.int _) => match idx x with
          | some n => match Nat.blt n 1073741824, Nat.ble (n * i.bytes) 281474976710656, cleans (cyc (n * z) zero) with
            | true, true, true => appTo s e z i.bytes n (cyc (n * z) zero) H nx
            | _, _, _ => none
          | none => none
        | none => none
        | some _ => match lenV x with
          | some n => match headE H z n x with
            | some news => appTo s e z i.bytes n news H nx
            | none => none
          | none => none
      | _, _ => none
    | _, _, _ => none
  | _ => none
/-- what append runs to: within the capacity -/
theorem append_in {sT xT ty e : TypeId} {z n sLen sCap : Nat} {base : Option Addr} {x : Value} {d : TypeDesc} {news : List Value} (hs : P.underlying sT = some (.slice e)) (hx : P.underlying xT = some d) (hd : ∀ k, d ≠ .int k) (hz : sizeT P e = some z)
    (hn : (Builtin.lenOf x).run P w = .ok n w) (hf : (Builtin.firstCells z n x).run P w = .ok news.toArray w) (hle : sLen + n ≤ sCap) :
    (Builtin.append_ #[sT, xT] ty #[.slice base sLen sCap, x]).run P w = ((match base with | some a => storeCells (a.add (sLen * z)) news | none => pure () : Sem Unit).run P w).andThen fun _ w' => .ok (.slice base (sLen + n) sCap) w' := by
  have hd' : (match d with | .int _ => true | _ => false) = false := by cases d <;> first | rfl | exact absurd rfl (hd _)
  cases base with
  | none => simp [Builtin.append_, run_underlying' hs, run_underlying' hx, run_sizeOf' hz, hd', hn, hf, hle]
  | some a => simp [Builtin.append_, run_underlying' hs, run_underlying' hx, run_sizeOf' hz, hd', hn, hf, hle]
/-- what append runs to: a new row -/
theorem append_out {sT xT ty e : TypeId} {z n sLen sCap : Nat} {base : Option Addr} {x : Value} {d : TypeDesc} {i : TypeInfo} {zv : Value} {old news : List Value} (hs : P.underlying sT = some (.slice e)) (hx : P.underlying xT = some d) (hd : ∀ k, d ≠ .int k) (hi : P.info? e = some i) (hz : sizeT P e = some z)
    (hzv : ∀ w, (zeroValue e).run P w = .ok zv w) (hzs : zv.cells.size = z)
    (hn : (Builtin.lenOf x).run P w = .ok n w) (hf' : (Builtin.firstCells z n x).run P w.drew = .ok news.toArray w.drew) (ho' : (Builtin.firstCells z sLen (.slice base sLen sCap)).run P w.drew = .ok old.toArray w.drew)
    (hgt : sCap < sLen + n) (hb : (sLen + n) * i.bytes ≤ 140737488355328) (hb63 : sLen + n ≤ 9223372036854775807) :
    ∃ newCap rest, sLen + n ≤ newCap ∧ rest.length = (newCap - (sLen + n)) * z ∧
      (Builtin.append_ #[sT, xT] ty #[.slice base sLen sCap, x]).run P w = .ok (.slice (some ⟨w.heap.size, 0, none⟩) (sLen + n) newCap) (w.drew.alloc (.cells (old ++ news ++ rest).toArray e)) := by
  have hd' : (match d with | .int _ => true | _ => false) = false := by cases d <;> first | rfl | exact absurd rfl (hd _)
  refine ⟨(Question.appendCap (sLen + n) sCap e).cut (w.tape w.drawn (.appendCap (sLen + n) sCap e)), (Builtin.zeroCells zv.cells ((Question.appendCap (sLen + n) sCap e).cut (w.tape w.drawn (.appendCap (sLen + n) sCap e)) - (sLen + n))).toList, by simp [Question.cut], by simp [Builtin.zeroCells, hzs], ?_⟩
  have hnle : ¬ sLen + n ≤ sCap := by omega
  have hfits := growslice_fits hgt hb
  have hfits' : ¬ Builtin.nextslicecap (sLen + n) sCap * i.bytes > 2 ^ 48 := by
    have : (2 : Nat) ^ 48 = 281474976710656 := by decide
    omega
  have hmax : ¬ (((sLen + n : Nat) : Int) > IntKind.i64.max) := by
    have : IntKind.i64.max = 9223372036854775807 := by decide
    rw [this]; omega
  have hforced : (Question.appendCap (sLen + n) sCap e).forced = false := rfl
  simp only [Builtin.append_, Sem.run_bind, run_underlying' hs, run_underlying' hx, Result.andThen_ok, Sem.run_pure, run_sizeOf' hz, hn, run_typeInfo' hi, List.getElem?_toArray, List.getElem?_cons_zero, List.getElem?_cons_succ]
  simp only [hd', Bool.false_eq_true, if_false, hn, Result.andThen_ok, hnle, run_typeInfo' hi, Sem.run_bind, Sem.run_pure, hmax, false_and, hfits', run_choose, hforced, World.drew_eq, run_askRoom, ho', hf', hzv]
  simp [newRow, hf', Builtin.zeroCells]
  congr 2
  apply Array.ext'
  simp [Array.toList_range]
theorem zeros_run {e : TypeId} {zv : Value} {z n : Nat} (hzv : ∀ w, (zeroValue e).run P w = .ok zv w) (hzs : zv.cells.size = z) :
    (if n * z = 0 then Result.ok (#[] : Array Value) w else ((zeroValue e).run P w).andThen fun a w => .ok (Builtin.zeroCells a.cells n) w) = .ok (cyc (n * z) zv.cells.toList).toArray w := by
  by_cases h0 : n * z = 0
  · simp [h0, cyc]
  · simp only [h0, if_false, hzv, Result.andThen_ok]
    rw [← hzs, ← cyc_eq]
    simp [Builtin.zeroCells]
    apply Array.ext'
    simp [Array.toList_range]
/-- the same where zeros are put behind -/
theorem appendz_in {sT xT ty e : TypeId} {z n sLen sCap : Nat} {base : Option Addr} {k k' : IntKind} {i : TypeInfo} {zv : Value} (hs : P.underlying sT = some (.slice e)) (hx : P.underlying xT = some (.int k)) (hi : P.info? e = some i) (hz : sizeT P e = some z)
    (hzv : ∀ w, (zeroValue e).run P w = .ok zv w) (hzs : zv.cells.size = z) (hn : n < 1073741824) (hnb : n * i.bytes ≤ 281474976710656) (hle : sLen + n ≤ sCap) :
    (Builtin.append_ #[sT, xT] ty #[.slice base sLen sCap, .int k' (n : Int)]).run P w = ((match base with | some a => storeCells (a.add (sLen * z)) (cyc (n * z) zv.cells.toList) | none => pure () : Sem Unit).run P w).andThen fun _ w' => .ok (.slice base (sLen + n) sCap) w' := by
  have e1 : ((n : Int) < 0) = False := by simp
  have e2 : ((n : Int) * (i.bytes : Int) > 2 ^ 48) = False := by simp only [eq_iff_iff, iff_false, gt_iff_lt, Int.not_lt]; norm_cast
  simp only [Builtin.append_, List.getElem?_toArray, List.getElem?_cons_zero, List.getElem?_cons_succ, Sem.run_bind, run_underlying' hs, run_underlying' hx, Result.andThen_ok, Sem.run_pure, run_sizeOf' hz]
  simp only [if_true, asInt, asIntOf, Sem.run_bind, Sem.run_pure, Result.andThen_ok, wrap_small hn, run_typeInfo' hi, Sem.run_ite, e1, e2, if_false, Int.toNat_natCast, Bool.not_true, Bool.false_eq_true, hle]
  rw [zeros_run hzv hzs]
  cases base <;> simp
theorem appendz_out {sT xT ty e : TypeId} {z n sLen sCap : Nat} {base : Option Addr} {k k' : IntKind} {i : TypeInfo} {zv : Value} {old : List Value} (hs : P.underlying sT = some (.slice e)) (hx : P.underlying xT = some (.int k)) (hi : P.info? e = some i) (hz : sizeT P e = some z)
    (hzv : ∀ w, (zeroValue e).run P w = .ok zv w) (hzs : zv.cells.size = z) (hn : n < 1073741824) (hnb : n * i.bytes ≤ 281474976710656)
    (ho' : (Builtin.firstCells z sLen (.slice base sLen sCap)).run P w.drew = .ok old.toArray w.drew)
    (hgt : sCap < sLen + n) (hb : (sLen + n) * i.bytes ≤ 140737488355328) (hb63 : sLen + n ≤ 9223372036854775807) :
    ∃ newCap rest, sLen + n ≤ newCap ∧ rest.length = (newCap - (sLen + n)) * z ∧
      (Builtin.append_ #[sT, xT] ty #[.slice base sLen sCap, .int k' (n : Int)]).run P w = .ok (.slice (some ⟨w.heap.size, 0, none⟩) (sLen + n) newCap) (w.drew.alloc (.cells (old ++ cyc (n * z) zv.cells.toList ++ rest).toArray e)) := by
  have e1 : ((n : Int) < 0) = False := by simp
  have e2 : ((n : Int) * (i.bytes : Int) > 2 ^ 48) = False := by simp only [eq_iff_iff, iff_false, gt_iff_lt, Int.not_lt]; norm_cast
  refine ⟨(Question.appendCap (sLen + n) sCap e).cut (w.tape w.drawn (.appendCap (sLen + n) sCap e)), (Builtin.zeroCells zv.cells ((Question.appendCap (sLen + n) sCap e).cut (w.tape w.drawn (.appendCap (sLen + n) sCap e)) - (sLen + n))).toList, by simp [Question.cut], by simp [Builtin.zeroCells, hzs], ?_⟩
  have hnle : ¬ sLen + n ≤ sCap := by omega
  have hfits := growslice_fits hgt hb
  have hfits' : ¬ Builtin.nextslicecap (sLen + n) sCap * i.bytes > 2 ^ 48 := by
    have : (2 : Nat) ^ 48 = 281474976710656 := by decide
    omega
  have hmax : ¬ (((sLen + n : Nat) : Int) > IntKind.i64.max) := by
    have : IntKind.i64.max = 9223372036854775807 := by decide
    rw [this]; omega
  have hforced : (Question.appendCap (sLen + n) sCap e).forced = false := rfl
  simp only [Builtin.append_, List.getElem?_toArray, List.getElem?_cons_zero, List.getElem?_cons_succ, Sem.run_bind, run_underlying' hs, run_underlying' hx, Result.andThen_ok, Sem.run_pure, run_sizeOf' hz]
  simp only [if_true, asInt, asIntOf, Sem.run_bind, Sem.run_pure, Result.andThen_ok, wrap_small hn, run_typeInfo' hi, Sem.run_ite, e1, e2, if_false, Int.toNat_natCast, Bool.not_true, Bool.false_eq_true, hnle, hmax, false_and, hfits', run_choose, hforced, World.drew_eq, run_askRoom, ho', hzv]
  have hz0 := zeros_run (w := w.drew) (n := n) hzv hzs
  simp only [hzv, Result.andThen_ok] at hz0
  rw [hz0]
  simp [newRow, Builtin.zeroCells]
  congr 2
  apply Array.ext'
  simp [Array.toList_range]
def sameT (H : Tr Blk) (b e : Nat) : Bool := match H.get (key b) with | some (.cells t _) => Nat.beq t e | _ => false
/-- the row that append makes -/
theorem appendNew_ok {H : Tr Blk} {w0 : World} {M0 : Mp} {H0 : HP} (hH : HR M σ H.get w) (hS : Stp M0 H0 w0 M H.get w) {nx e z need : Nat} {old news : List Value} {r : OpR} (h : appendNew H nx e z none old news need = some r)
    {old' news' rest : List Value} (ho : VRs M σ old old') (hn : VRs M σ news news') {newCap : Nat} (hc : need ≤ newCap) (hr : rest.length = (newCap - need) * z) (h0 : H0 (key nx) = none) :
    ∃ H', r = .upd (grownTo z need nx) H' (nx + 1) ∧ ∃ M', VR M' σ (grownTo z need nx) (.slice (some ⟨w.heap.size, 0, none⟩) need newCap) ∧ HR M' σ H'.get (w.drew.alloc (.cells (old' ++ news' ++ rest).toArray e)) ∧ Stp M0 H0 w0 M' H'.get (w.drew.alloc (.cells (old' ++ news' ++ rest).toArray e)) := by
  unfold appendNew at h
  split at h
  · rename_i hf hl
    cases h
    have hl := Nat.eq_of_beq_eq_true hl
    simp only [killO] at hf
    have hM := hH.unplaced hf
    have hno := (ho.append hn)
    have hlen : (old' ++ news').length = need * z := by rw [← hno.length]; exact hl
    have hsz : (old' ++ news' ++ rest).toArray.size = newCap * z := by
      have : need * z + (newCap - need) * z = newCap * z := by rw [← Nat.add_mul]; congr 1; omega
      simp only [List.size_toArray, List.length_append] at hlen ⊢
      omega
    have hle := ins_le hM ⟨w.heap.size, 0, newCap * z⟩
    have hb : BR (ins M (key nx) ⟨w.drew.heap.size, 0, newCap * z⟩) σ (.cells e (old ++ news)) ⟨w.drew.heap.size, 0, newCap * z⟩ (w.drew.alloc (.cells (old' ++ news' ++ rest).toArray e)) := by
      have := BR.row (M := ins M (key nx) ⟨w.drew.heap.size, 0, newCap * z⟩) (σ := σ) (w := w.drew) (t := e) (xs := old ++ news) (vs := (old' ++ news' ++ rest).toArray) (by
        rw [hsz]; rw [hl]; exact Nat.mul_le_mul_right _ hc) fun j x hx => by
        obtain ⟨v, hv, hr'⟩ := hno.get hx
        refine ⟨v, ?_, hr'.mono hle⟩
        have hj := (List.getElem?_eq_some_iff.1 hv).1
        simp only [List.getElem?_toArray]
        rw [List.getElem?_append_left hj]; exact hv
      rw [hsz] at this
      exact this
    refine ⟨_, rfl, ins M (key nx) ⟨w.drew.heap.size, 0, newCap * z⟩, ?_, ?_, ?_⟩
    · have := VR.grown (σ := σ) 0 z need need newCap (ins_same M (key nx) ⟨w.drew.heap.size, 0, newCap * z⟩) (Nat.le_refl _) hc (by simp)
      simpa [grownTo] using this
    · rw [killO, Tr.get_upd]; exact hH.drew.make hM hb
    · rw [killO, Tr.get_upd]; exact (hS.trans Stp.drew).alloc hM h0 _ _ _
  · cases h
theorem appendIn_ok (hH : HR M σ H.get w) {nx i off : Nat} {news : List Value} {v : Value} {r : OpR} (h : appendIn H nx i off news v = some r) {p : Place} (hp : M (key i) = some p) {news' : List Value} (hn : VRs M σ news news') {u : Value} (hu : VR M σ v u) :
    ∃ H' w', r = .upd v H' nx ∧ (storeCells ⟨p.b, p.s + off, none⟩ news').run P w = .ok () w' ∧ HR M σ H'.get w' ∧ Stp M H.get w M H'.get w' := by
  unfold appendIn at h
  split at h
  · rename_i t xs hg hone
    split at h
    · rename_i ys hys
      cases h
      obtain ⟨h1, h2⟩ := splice_eq hys
      obtain ⟨w', b1, b2, b3⟩ := storeCells_run (P := P) hp news news' xs off 0 H.get w hH hg hn (fun y hy => List.all_eq_true.1 hone y hy) (by omega)
      subst h2
      exact ⟨_, w', rfl, b1, by rw [Tr.get_upd]; exact b2, by rw [Tr.get_upd]; exact b3⟩
    · cases h
  · cases h
theorem vrs_one {xs vs : List Value} (h : VRs M σ xs vs) (h1 : xs.all Value.oneCell' = true) : ∀ v ∈ vs, v.oneCell' = true := by
  intro v hv
  obtain ⟨j, hj, rfl⟩ := List.mem_iff_getElem.1 hv
  have hx : xs[j]? = some (xs[j]'(by rw [h.length]; exact hj)) := List.getElem?_eq_getElem _
  obtain ⟨v', hv', hr⟩ := h.get hx
  rw [List.getElem?_eq_getElem hj] at hv'; cases hv'
  exact hr.one (List.all_eq_true.1 h1 _ (List.getElem_mem _))
/-- what is known of the element's type and of what is put behind -/
structure AC (P : Program) (M : Mp) (σ : Nat → Value) (H : Tr Blk) (w : World) (sT xT ty e z bytes n : Nat) (x : Value) (news : List Value) : Prop where
  hH : HR M σ H.get w
  inn : ∃ news' : List Value, VRs M σ news news' ∧ ∀ base sLen sCap, sLen + n ≤ sCap → (Builtin.append_ #[sT, xT] ty #[.slice base sLen sCap, x]).run P w = ((match base with | some a => storeCells (a.add (sLen * z)) news' | none => pure () : Sem Unit).run P w).andThen fun _ w' => .ok (.slice base (sLen + n) sCap) w'
  out : ∃ news' : List Value, VRs M σ news news' ∧ ∀ base sLen sCap (old : List Value), (Builtin.firstCells z sLen (.slice base sLen sCap)).run P w.drew = .ok old.toArray w.drew → sCap < sLen + n → (sLen + n) * bytes ≤ 140737488355328 → sLen + n ≤ 9223372036854775807 →
    ∃ newCap rest, sLen + n ≤ newCap ∧ rest.length = (newCap - (sLen + n)) * z ∧ (Builtin.append_ #[sT, xT] ty #[.slice base sLen sCap, x]).run P w = .ok (.slice (some ⟨w.heap.size, 0, none⟩) (sLen + n) newCap) (w.drew.alloc (.cells (old ++ news' ++ rest).toArray e))
/-- what append comes to -/
def AD (P : Program) (M : Mp) (σ : Nat → Value) (H : Tr Blk) (w : World) (sT xT ty : TypeId) (s x : Value) (r : OpR) : Prop :=
  ∃ v H' nx', r = .upd v H' nx' ∧ ∃ u M' w', (Builtin.append_ #[sT, xT] ty #[s, x]).run P w = .ok u w' ∧ VR M' σ v u ∧ HR M' σ H'.get w' ∧ Stp M H.get w M' H'.get w'
theorem fits_spec {need bytes : Nat} (h : fitsE need bytes = true) : need ≤ 1073741824 ∧ need * bytes ≤ 140737488355328 := by
  unfold fitsE at h
  rw [Bool.and_eq_true] at h
  exact ⟨Nat.le_of_ble_eq_true h.1, Nat.le_of_ble_eq_true h.2⟩
theorem appendNew_free {nx e z need : Nat} {old news : List Value} {r : OpR} (h : appendNew H nx e z none old news need = some r) : H.get (key nx) = none := by
  unfold appendNew at h
  split at h
  · rename_i hf _; simpa [killO] using hf
  · cases h
section
variable {sT xT ty e z bytes n : Nat} {x : Value} {news : List Value}
theorem appNil_ok (ac : AC P M σ H w sT xT ty e z bytes n x news) {nx c : Nat} {r : OpR} (h : appNil e z bytes n news H nx c = some r) : AD P M σ H w sT xT ty (.slice none 0 c) x r := by
  unfold appNil at h
  split at h
  · rename_i hn0
    cases h
    have := Nat.eq_of_beq_eq_true hn0
    subst this
    obtain ⟨news', hnr, hf⟩ := ac.inn
    refine ⟨_, _, _, rfl, .slice none 0 c, M, w, ?_, .nils _ _, ac.hH, Stp.refl _ _ _⟩
    rw [hf _ _ _ (by omega)]
    simp
  · split at h
    · rename_i hcn hfit
      have hcn := blt_lt hcn
      obtain ⟨f1, f2⟩ := fits_spec hfit
      obtain ⟨news', hnr, hf⟩ := ac.out
      obtain ⟨newCap, rest, a1, a2, a3⟩ := hf none 0 c [] (by simp [Builtin.firstCells]) (by omega) (by simpa using f2) (by omega)
      rw [Nat.zero_add] at a1 a2 a3
      obtain ⟨H', rfl, M', b1, b2, b3⟩ := appendNew_ok ac.hH (Stp.refl _ _ _) h .nil hnr a1 a2 (appendNew_free h)
      exact ⟨_, _, _, rfl, _, M', _, a3, b1, b2, b3⟩
    · cases h
theorem appExact_ok (ac : AC P M σ H w sT xT ty e z bytes n x news) {nx b o l c : Nat} {p : Place} (hp : M (key b) = some p) {r : OpR} (h : appExact e z bytes n news H nx b o l c = some r) : AD P M σ H w sT xT ty (.slice (some ⟨p.b, p.s + o, none⟩) l c) x r := by
  unfold appExact at h
  split at h
  · rename_i hle
    have hle := Nat.le_of_ble_eq_true hle
    obtain ⟨news', hnr, hf⟩ := ac.inn
    obtain ⟨H', w', rfl, a1, a2, a3⟩ := appendIn_ok (P := P) ac.hH h hp hnr (.slice o (l + n) c hp)
    refine ⟨_, _, _, rfl, _, M, w', ?_, .slice o (l + n) c hp, a2, a3⟩
    rw [hf _ _ _ hle]
    simp only [addr_add, Nat.add_assoc] at a1 ⊢
    rw [a1]; rfl
  · rename_i hle
    have hle : c < l + n := by
      rcases Nat.lt_or_ge c (l + n) with h | h
      · exact h
      · rw [Nat.ble_eq_true_of_le h] at hle; cases hle
    split at h
    · rename_i old hold hfit
      obtain ⟨f1, f2⟩ := fits_spec hfit
      obtain ⟨news', hnr, hf⟩ := ac.out
      obtain ⟨old', ho, hor⟩ := headE_run (P := P) (size := z) (n := l) (x := .slice (some ⟨b, o, none⟩) l c) ac.hH.drew hold (.slice o l c hp)
      obtain ⟨newCap, rest, a1, a2, a3⟩ := hf _ l c old' ho hle f2 (by omega)
      obtain ⟨H', rfl, M', b1, b2, b3⟩ := appendNew_ok ac.hH (Stp.refl _ _ _) h hor hnr a1 a2 (appendNew_free h)
      exact ⟨_, _, _, rfl, _, M', _, a3, b1, b2, b3⟩
    · cases h
theorem appGrown_ok (ac : AC P M σ H w sT xT ty e z bytes n x news) {nx b o l m c : Nat} {p : Place} (hp : M (key b) = some p) (hlm : l ≤ m) (hmc : m ≤ c) (hcn : p.s + o + c * z ≤ p.n) {r : OpR} (h : appGrown e z bytes n news H nx b o l m = some r) :
    AD P M σ H w sT xT ty (.slice (some ⟨p.b, p.s + o, none⟩) l c) x r := by
  unfold appGrown at h
  split at h
  · rename_i hle
    have hle := Nat.le_of_ble_eq_true hle
    obtain ⟨news', hnr, hf⟩ := ac.inn
    have hv : VR M σ (.slice (some ⟨b, o, some z⟩) (l + n) m) (.slice (some ⟨p.b, p.s + o, none⟩) (l + n) c) := .grown o z (l + n) m c hp hle hmc hcn
    obtain ⟨H', w', rfl, a1, a2, a3⟩ := appendIn_ok (P := P) ac.hH h hp hnr hv
    refine ⟨_, _, _, rfl, _, M, w', ?_, hv, a2, a3⟩
    rw [hf _ _ _ (by omega)]
    simp only [addr_add, Nat.add_assoc] at a1 ⊢
    rw [a1]; rfl
  · split at h
    · rename_i t xs old hg hold hfit hone
      split at h
      · rename_i hte
        rw [Bool.and_eq_true, Bool.not_eq_true'] at hte
        obtain ⟨hte, hnb⟩ := hte
        have := Nat.eq_of_beq_eq_true hte
        subst this
        obtain ⟨f1, f2⟩ := fits_spec hfit
        have hk := ac.hH.kill (key b) hg
        have hks := Stp.kill (M := M) (w := w) (key b) hg
        have hfree : (upd H.get (key b) .dead) (key nx) = none := by
          unfold appendNew at h
          split at h
          · rename_i hf _; simpa [killO, Tr.get_upd] using hf
          · cases h
        have hfree0 : H.get (key nx) = none := by
          cases hh : H.get (key nx) with
          | none => rfl
          | some bb => obtain ⟨b', hb'⟩ := hks.grow _ _ hh; rw [hfree] at hb'; cases hb'
        have h' : appendNew (H.set (key b) .dead) nx t z none old news (l + n) = some r := by
          unfold appendNew at h ⊢; exact h
        rcases Nat.lt_or_ge c (l + n) with hgt | hle
        · obtain ⟨news', hnr, hf⟩ := ac.out
          obtain ⟨old', ho, hor⟩ := headE_run (P := P) (size := z) (n := l) (x := .slice (some ⟨b, o, none⟩) l c) ac.hH.drew hold (.slice o l c hp)
          obtain ⟨newCap, rest, a1, a2, a3⟩ := hf _ l c old' ho hgt f2 (by omega)
          obtain ⟨H', rfl, M', b1, b2, b3⟩ := appendNew_ok (H := H.set (key b) .dead) (by rw [Tr.get_upd]; exact hk) (by rw [Tr.get_upd]; exact hks) h' hor hnr a1 a2 hfree0
          exact ⟨_, _, _, rfl, _, M', _, a3, b1, b2, b3⟩
        · obtain ⟨news', hnr, hf⟩ := ac.inn
          obtain ⟨cs, fr, c1, c2, csd, c3, c4, c5⟩ := ac.hH.at hg rfl hp
          obtain ⟨old', o1, o2, o3⟩ := cellsE_run ac.hH hold hp
          unfold appendNew at h'
          split at h'
          · rename_i hf' hl'
            cases h'
            have hl' := Nat.eq_of_beq_eq_true hl'
            have hnews' : news'.length = n * z := by
              have e1 := hnr.length
              have e2 := o2.length
              simp only [List.length_append] at hl'
              rw [Nat.add_mul] at hl'
              omega
            have hnz : l * z + n * z ≤ c * z := by rw [← Nat.add_mul]; exact Nat.mul_le_mul_right _ hle
            obtain ⟨w', q1, ⟨cs', q2, q3⟩, q4, q5, q6, q7, q8⟩ := storeCells_raw (P := P) news' p.b (p.s + o + l * z) 0 w cs t fr c1 c2.no (vrs_one hnr hone) (by rw [hnews', c3]; omega)
            have hMn := ac.hH.unplaced hfree0
            have hle2 := ins_le hMn ⟨p.b, p.s + o, p.n⟩
            have hlive : ∀ k' b' q, (upd H.get (key b) .dead) k' = some b' → b'.live = true → M k' = some q → q.b ≠ p.b := by
              intro k' b' q g lv mk e'
              by_cases ek : k' = key b
              · subst ek; rw [upd_same] at g; cases g; cases lv
              · rw [upd_other _ _ ek] at g
                exact ek (ac.hH.inj k' (key b) b' _ q p g lv hg rfl mk hp e')
            have hng : ∀ x ∈ Tab.globs, p.b ≠ x.1 := fun x hx => (ac.hH.gl x hx).2 _ _ p hg rfl hp
            have hk' : HR M σ (upd H.get (key b) .dead) w' := hk.keep (fun k' b' q g lv mk => q4 _ (hlive k' b' q g lv mk)) fun x hx => q4 _ (hng x hx).symm
            have hcs' : cs'.size = cs.size := by
              have := congrArg List.length q3
              simp only [List.length_append, List.length_take, List.length_drop, Array.length_toList] at this
              rw [hnews'] at this
              omega
            have hb : BR (ins M (key nx) ⟨p.b, p.s + o, p.n⟩) σ (.cells t (old ++ news)) ⟨p.b, p.s + o, p.n⟩ w' := by
              refine ⟨cs', fr, q2, by rw [hcs']; exact c2, fun hbl => (by rw [hbl] at hnb; cases hnb), by rw [hcs']; exact c3, by rw [hl', Nat.add_mul]; show p.s + o + (l * z + n * z) ≤ p.n; omega, fun j y hy => ?_⟩
              obtain ⟨v, hv, hvr⟩ := (o2.append hnr).get hy
              refine ⟨v, ?_, hvr.mono hle2⟩
              have hget : cs'[p.s + o + j]? = cs'.toList[p.s + o + j]? := by simp
              rw [hget, q3]
              have hlen1 : (cs.toList.take (p.s + o + l * z + 0)).length = p.s + o + l * z := by simp; omega
              by_cases hj : j < l * z
              · rw [List.append_assoc, List.getElem?_append_left (by omega), List.getElem?_take_of_lt (by omega)]
                rw [List.getElem?_append_left (by omega)] at hv
                have := o3 j v hv
                simp only [World.cell?, c1] at this
                simpa using this
              · rw [List.append_assoc, List.getElem?_append_right (by omega), hlen1]
                rw [List.getElem?_append_right (by omega), o1] at hv
                have hj2 := (List.getElem?_eq_some_iff.1 hv).1
                rw [List.getElem?_append_left (by omega), show p.s + o + j - (p.s + o + l * z) = j - l * z by omega]
                exact hv
            have hfin := hk'.adopt (p := ⟨p.b, p.s + o, p.n⟩) hMn hlive hng hb
            refine ⟨_, _, _, rfl, .slice (some ⟨p.b, p.s + o, none⟩) (l + n) c, ins M (key nx) ⟨p.b, p.s + o, p.n⟩, w', ?_, ?_, by rw [killO, Tr.get_upd, Tr.get_upd]; exact hfin, ?_⟩
            · rw [hf _ _ _ hle]
              simp only [addr_add]
              rw [q1]; rfl
            · have := VR.grown (σ := σ) 0 z (l + n) (l + n) c (ins_same M (key nx) ⟨p.b, p.s + o, p.n⟩) (Nat.le_refl _) hle (by simpa using hcn)
              simpa [grownTo] using this
            · rw [killO, Tr.get_upd, Tr.get_upd]
              refine ⟨hle2, q5, q6, q7, by omega, fun j hj hno => q4 j fun e' => hno (key b) _ p hg rfl hp e'.symm, fun k' hk0 => ?_, fun k' q hq => ?_, fun k' b' hb' => ?_, fun k' b' q g lv mk => ?_⟩
              · have e1 : k' ≠ key nx := by rintro rfl; rw [hfree0] at hk0; cases hk0
                rw [upd_other _ _ e1]; exact hks.dead k' hk0
              · by_cases e1 : k' = key nx
                · subst e1; exact .inr hfree0
                · simp only [ins, e1, if_false] at hq; exact .inl hq
              · have e1 : k' ≠ key nx := by rintro rfl; rw [hfree0] at hb'; cases hb'
                rw [upd_other _ _ e1]; exact hks.grow k' b' hb'
              · by_cases e1 : k' = key nx
                · subst e1
                  rw [ins_same] at mk; cases mk
                  exact .inr ⟨key b, _, p, hg, rfl, hp, rfl⟩
                · rw [upd_other _ _ e1] at g
                  simp only [ins, e1, if_false] at mk
                  exact hks.own k' b' q g lv mk
          · cases h'
      · cases h
    · cases h
end
theorem appTo_ok {sT xT ty e z bytes n : Nat} {news : List Value} {s s' x' : Value} (ac : AC P M σ H w sT xT ty e z bytes n x' news) (hs : VR M σ s s') {nx : Nat} {r : OpR} (h : appTo s e z bytes n news H nx = some r) : AD P M σ H w sT xT ty s' x' r := by
  unfold appTo at h
  split at h
  · split at h
    · rename_i hl0
      have := Nat.eq_of_beq_eq_true hl0
      subst this
      cases hs
      exact appNil_ok ac h
    · cases h
  · cases hs with
    | slice _ _ _ hp => exact appExact_ok ac hp h
  · split at h
    · rename_i hzz
      have := Nat.eq_of_beq_eq_true hzz
      subst this
      cases hs with
      | grown _ _ _ _ c hp a b c' => exact appGrown_ok ac hp a b c' h
    · cases h
  · cases h
theorem evAppend_ok (hH : HR M σ H.get w) {sT xT ty : TypeId} {s x s' x' : Value} (hs : VR M σ s s') (hx : VR M σ x x') {nx : Nat} {r : OpR} (h : evAppend P sT xT s x H nx = some r) : AD P M σ H w sT xT ty s' x' r := by
  unfold evAppend at h
  split at h
  · rename_i e hue
    split at h
    · rename_i i z zero hi hz hzero
      split at h
      · rename_i h1 h2
        have hzl := Nat.eq_of_beq_eq_true h2
        have hin : ∃ zv : Value, (∀ w, (zeroValue e).run P w = .ok zv w) ∧ zv.cells.size = z ∧ zv.cells.toList = zero := by
          unfold zeroE at hzero
          split at hzero
          · rename_i i' hi'
            rw [hi] at hi'; cases hi'
            split at hzero
            · rename_i zv hzv
              split at hzero
              · cases hzero
                exact ⟨zv, fun w => by simp [zeroValue, run_typeInfo' hi, hzv], by simpa using hzl, rfl⟩
              · cases hzero
            · cases hzero
          · cases hzero
        obtain ⟨zv, hzv, hzs, hzz⟩ := hin
        split at h
        · rename_i k hux
          split at h
          · rename_i n hn
            split at h
            · rename_i g1 g2 g3
              have g1 := blt_lt g1
              have g2 := Nat.le_of_ble_eq_true g2
              obtain ⟨k', rfl⟩ := idx_eq hn hx
              have hcl : VRs M σ (cyc (n * z) zero) (cyc (n * z) zero) := VRs.of_clean _ g3
              refine appTo_ok ⟨hH, ⟨_, hcl, ?_⟩, ⟨_, hcl, ?_⟩⟩ hs h
              · intro base sLen sCap hle
                rw [← hzz]; exact appendz_in hue hux hi hz hzv hzs g1 g2 hle
              · intro base sLen sCap old ho hgt hb hb63
                rw [← hzz]; exact appendz_out hue hux hi hz hzv hzs g1 g2 ho hgt hb hb63
            · cases h
          · cases h
        · cases h
        · rename_i d hd hux
          split at h
          · rename_i n hn
            split at h
            · rename_i news hnews
              have hln := lenV_run (P := P) (w := w) hn hx
              obtain ⟨n1, hf1, hr1⟩ := headE_run (P := P) hH hnews hx
              obtain ⟨n2, hf2, hr2⟩ := headE_run (P := P) hH.drew hnews hx
              refine appTo_ok ⟨hH, ⟨n1, hr1, ?_⟩, ⟨n2, hr2, ?_⟩⟩ hs h
              · intro base sLen sCap hle
                exact append_in hue hux (fun k e => hd k e) hz hln hf1 hle
              · intro base sLen sCap old ho hgt hb hb63
                exact append_out hue hux (fun k e => hd k e) hi hz hzv hzs hln hf2 ho hgt hb hb63
            · cases h
          · cases h
      · cases h
    · cases h
  · cases h
end
end Go.Proofs.Ytdhdaknfmpfegaa.Ev
end
section
set_option linter.unusedVariables false
set_option linter.unusedSectionVars false
set_option linter.unusedSimpArgs false
namespace Go.Proofs.Ytdhdaknfmpfegaa.Ev
open Go Go.RowKit
variable [Tab]

def isKeyE : TypeDesc → Value → Bool
  | .int k, .int l _ => kEq l k
  | .string, .string _ => true
  | .bool, .bool _ => true
  | _, _ => false
theorem isKeyE_is {d : TypeDesc} {k : Value} (h : isKeyE d k = true) : MapKept.IsKey d k := by
  cases d <;> cases k <;> simp [isKeyE] at h <;> simp [MapKept.IsKey]
  exact kEq_eq h
def sameE : Value → Value → Bool
  | .int k a, .int l b => kEq k l && iBeq a b
  | .string a, .string b => decide (a.data.toList = b.data.toList)
  | .bool a, .bool b => (match a, b with | true, true => true | false, false => true | _, _ => false)
  | _, _ => false
theorem sameE_now {d : TypeDesc} {a b : Value} (ha : isKeyE d a = true) (hb : isKeyE d b = true) : Instr.sameNow d a b = some (sameE a b) := by
  cases d <;> cases a <;> simp [isKeyE] at ha <;> cases b <;> simp [isKeyE] at hb
  · rename_i a b; cases a <;> cases b <;> rfl
  · rename_i k l a l' b
    have e1 := kEq_eq ha
    have e2 := kEq_eq hb
    subst e1; subst e2
    simp [Instr.sameNow, sameE, ha, iBeq_eq]
  · rename_i a b
    simp only [Instr.sameNow, sameE, Option.some.injEq]
    rw [Bool.eq_iff_iff, MapKept.bytes_beq]
    cases a; cases b
    simp [Array.toList_inj]
theorem sameE_eq {a b : Value} (h : sameE a b = true) : a = b := by
  cases a <;> cases b <;> simp [sameE] at h
  · rename_i a b; cases a <;> cases b <;> simp at h ⊢
  · rename_i k a l b
    rw [kEq_eq h.1]
    have := h.2
    rw [iBeq_eq] at this
    rw [eq_of_beq this]
  · rename_i a b
    cases a; cases b; simp [Array.toList_inj] at h; rw [h]
/-- what is found under a key -/
def findE (d : TypeDesc) (k : Value) : List MapEntry → Nat → Option (Option (Nat × MapEntry))
  | [], _ => some none
  | e :: es, i => match isKeyE d e.key with
    | true => match sameE k e.key with
      | true => some (some (i, e))
      | false => findE d k es (i + 1)
    | false => none

section
variable {P : Program} {M : Mp} {σ : Nat → Value} {H : Tr Blk} {w : World}
theorem ER.length {es fs : List MapEntry} (h : ER M σ es fs) : es.length = fs.length := by
  induction h with
  | nil => rfl
  | cons _ _ _ _ ih => simp [ih]
theorem ER.snoc {es fs : List MapEntry} (h : ER M σ es fs) {e f : MapEntry} (hk : f.key = e.key) (hv : VR M σ e.val f.val) (hb : f.born = e.born) : ER M σ (es ++ [e]) (fs ++ [f]) := by
  induction h with
  | nil => exact .cons hk hv hb .nil
  | cons a b c _ ih => exact .cons a b c ih
theorem ER.set {es fs : List MapEntry} (h : ER M σ es fs) (j : Nat) {e f : MapEntry} (hk : f.key = e.key) (hv : VR M σ e.val f.val) (hb : f.born = e.born) : ER M σ (es.set j e) (fs.set j f) := by
  induction h generalizing j with
  | nil => exact .nil
  | cons a b c d ih =>
    cases j with
    | zero => exact .cons hk hv hb d
    | succ j => exact .cons a b c (ih j)
theorem ER.erase {es fs : List MapEntry} (h : ER M σ es fs) (j : Nat) : ER M σ (es.eraseIdx j) (fs.eraseIdx j) := by
  induction h generalizing j with
  | nil => exact .nil
  | cons a b c d ih =>
    cases j with
    | zero => exact d
    | succ j => exact .cons a b c (ih j)
theorem findE_none {d : TypeDesc} {k : Value} (hk : isKeyE d k = true) {es fs : List MapEntry} (h : ER M σ es fs) : ∀ {i : Nat}, findE d k es i = some none → Instr.findNow d k fs i = some none := by
  induction h with
  | nil => intro i _; rfl
  | cons a b c _ ih =>
    intro i he
    simp only [findE] at he
    split at he
    · rename_i hke
      split at he
      · cases he
      · rename_i hs
        simp only [Instr.findNow]
        rw [a, sameE_now hk hke, hs]
        exact ih he
    · cases he
theorem findE_some {d : TypeDesc} {k : Value} (hk : isKeyE d k = true) {es fs : List MapEntry} (h : ER M σ es fs) : ∀ {i j : Nat} {e : MapEntry}, findE d k es i = some (some (j, e)) →
    ∃ f : MapEntry, Instr.findNow d k fs i = some (some (j, f.val)) ∧ i ≤ j ∧ fs[j - i]? = some f ∧ f.key = k ∧ VR M σ e.val f.val ∧ f.born = e.born ∧ e.key = k := by
  induction h with
  | nil => intro i j e h; simp [findE] at h
  | cons a b c _ ih =>
    rename_i f0 es0 fs0 _
    intro i j e he
    simp only [findE] at he
    split at he
    · rename_i hke
      split at he
      · rename_i hs
        simp only [Option.some.injEq, Prod.mk.injEq] at he
        obtain ⟨rfl, rfl⟩ := he
        refine ⟨_, ?_, Nat.le_refl _, by simp, a.trans (sameE_eq hs).symm, b, c, (sameE_eq hs).symm⟩
        simp only [Instr.findNow]
        rw [a, sameE_now hk hke, hs]
      · rename_i hs
        obtain ⟨f, h1, h2, h3, h4⟩ := ih he
        refine ⟨f, ?_, by omega, ?_, h4⟩
        · simp only [Instr.findNow]
          rw [a, sameE_now hk hke, hs]
          exact h1
        · rw [show j - i = (j - (i + 1)) + 1 by omega, List.getElem?_cons_succ]; exact h3
    · cases he
theorem modify_list {fs : Array MapEntry} {j : Nat} {f : MapEntry} (g : MapEntry → MapEntry) (h : fs[j]? = some f) : (fs.modify j g).toList = fs.toList.set j (g f) := by
  apply List.ext_getElem?
  intro i
  simp only [Array.getElem?_toList, Array.getElem?_modify, List.getElem?_set, Array.length_toList]
  obtain ⟨hj, hf⟩ := Array.getElem?_eq_some_iff.1 h
  by_cases e : j = i
  · subst e; simp [hj, hf]
  · simp [e]
theorem erase_list (fs : Array MapEntry) (j : Nat) : (fs.eraseIdxIfInBounds j).toList = fs.toList.eraseIdx j := by
  unfold Array.eraseIdxIfInBounds
  split
  · simp
  · rename_i h; rw [List.eraseIdx_of_length_le (by simpa using h)]
/-- the zero value, clean -/
def zvE (P : Program) (t : TypeId) : Option Value :=
  match P.info? t with
  | some i => match i.zero with
    | some z => match clean z with
      | true => some z
      | false => none
    | none => none
  | none => none
theorem zvE_run {t : TypeId} {z : Value} (h : zvE P t = some z) : (zeroValue t).run P w = .ok z w ∧ clean z = true := by
  unfold zvE at h
  split at h
  · rename_i i hi
    split at h
    · rename_i z' hz
      split at h
      · rename_i hc
        cases h
        exact ⟨by simp [zeroValue, run_typeInfo' hi, hz], hc⟩
      · cases h
    · cases h
  · cases h
/-- a map is written -/
theorem HR.mapped (hH : HR M σ H.get w) {i : Nat} {p : Place} {es es' : List MapEntry} {c c' : Nat} {fs fs' : Array MapEntry} (hg : H.get (key i) = some (.map es c)) (hp : M (key i) = some p) (hb : w.heap[p.b]? = some (.map fs c)) (he : ER M σ es' fs'.toList) :
    (setObj p.b (.map fs' c')).run P w = .ok () (w.putObj p.b (.map fs' c')) ∧ HR M σ (H.set (key i) (.map es' c')).get (w.putObj p.b (.map fs' c')) ∧ Stp M H.get w M (H.set (key i) (.map es' c')).get (w.putObj p.b (.map fs' c')) := by
  refine ⟨by rw [MapKept.run_setObj_map _ hb]; rfl, ?_⟩
  rw [Tr.get_upd]
  exact hH.write hg rfl hp (fun j hj => World.putObj_heap_other hj) rfl rfl rfl World.putObj_size rfl ⟨fs', World.putObj_heap_same (Array.getElem?_eq_some_iff.1 hb).1, he⟩
/-! ### making -/
def mapTo (id : Nat) : Value := .map (some id)
def evMakeMap (P : Program) (t : TypeId) : Option (Option Value) → Option OpR
  | some none => some (.new (.map [] 0) mapTo)
  | some (some (.int _ _)) => match P.underlying t with
    | some (.map _ _) => some (.new (.map [] 0) mapTo)
    | _ => none
  | _ => none
theorem evMakeMap_ok {t : TypeId} {r : Option Operand} {η : Operand → Value} {x : Option Value} (hx : (x = none ∧ r.map η = none) ∨ ∃ a b, x = some a ∧ r.map η = some b ∧ VR M σ a b) {y : OpR} (h : evMakeMap P t (some x) = some y) {o : Oper} (ho : o.op = .makeMap t r) :
    Snd M σ H w ((execOp η o).run P w) y := by
  have hnew : Snd M σ H w (.ok (.value (.map (some w.heap.size))) (w.alloc (.map #[] 0))) (.new (.map [] 0) mapTo) := by
    refine ⟨rfl, .map #[] 0, 0, _, rfl, fun M' _ => ⟨#[], heap_new _ _, .nil⟩, fun id M' hm => ?_⟩
    exact VR.map hm
  unfold evMakeMap at h
  split at h
  · rename_i hx0
    simp only [Option.some.injEq] at hx0
    subst hx0
    cases h
    rcases hx with ⟨-, h1⟩ | ⟨a, b, h1, -⟩
    · have : (execOp η o).run P w = .ok (.value (.map (some w.heap.size))) (w.alloc (.map #[] 0)) := by
        simp [execOp, ho, h1, Instr.makeMap, newObj, Sem.run] <;> rfl
      rw [this]; exact hnew
    · cases h1
  · rename_i hx0
    simp only [Option.some.injEq] at hx0
    subst hx0
    split at h
    · rename_i kt et hu
      cases h
      rcases hx with ⟨h1, -⟩ | ⟨a, b, h1, h2, h3⟩
      · cases h1
      · cases h1
        cases h3
        have : (execOp η o).run P w = .ok (.value (.map (some w.heap.size))) (w.alloc (.map #[] 0)) := by
          simp [execOp, ho, h2, Instr.makeMap, run_underlying' hu, asInt, newObj, Sem.run] <;> rfl
        rw [this]; exact hnew
    · cases h
  · cases h
/-! ### reading -/
def esE (H : Tr Blk) : Value → Option (List MapEntry)
  | .map none => some []
  | .map (some i) => match H.get (key i) with
    | some (.map es _) => some es
    | _ => none
  | _ => none
def okE (ok : Bool) (v : Value) (b : Bool) : Value := match ok with
  | true => .tuple ⟨[v, .bool b]⟩
  | false => v
def evLookup (P : Program) (t : TypeId) (x k : Value) (ok : Bool) (H : Tr Blk) : Option Value :=
  match P.underlying t with
  | some (.map kt et) => match P.underlying kt, esE H x with
    | some d, some es => match isKeyE d k, findE d k es 0 with
      | true, some (some (_, e)) => some (okE ok e.val true)
      | true, some none => match zvE P et with
        | some z => some (okE ok z false)
        | none => none
      | _, _ => none
    | _, _ => none
  | _ => none
theorem okE_vr {ok b : Bool} {v u : Value} (h : VR M σ v u) : VR M σ (okE ok v b) (if ok then .tuple #[u, .bool b] else u) := by
  cases ok
  · exact h
  · exact .tuple (.cons h (.cons (.bool b) .nil))
theorem isKeyE_clean {d : TypeDesc} {k : Value} (h : isKeyE d k = true) : clean k = true := by
  cases d <;> cases k <;> first | rfl | (simp [isKeyE] at h)
theorem lookup_run {t kt et : TypeId} {d : TypeDesc} {x k : Value} {fs : Array MapEntry} (ok : Bool) (hm : P.underlying t = some (.map kt et)) (hd : P.underlying kt = some d) (hk : isKeyE d k = true)
    (hx : (x = .map none ∧ fs = #[]) ∨ ∃ r c, x = .map (some r) ∧ w.heap[r]? = some (.map fs c)) {a : Option (Nat × Value)} (hf : Instr.findNow d k fs.toList 0 = some a) :
    (Instr.lookup t x k ok).run P w = ((match a with | some (_, v) => pure (v, true) | none => (do pure (← zeroValue et, false)) : Sem (Value × Bool)).run P w).andThen fun vo w => .ok (if ok then .tuple #[vo.1, .bool vo.2] else vo.1) w := by
  rcases hx with ⟨rfl, rfl⟩ | ⟨r, c, rfl, hb⟩
  · have e1 := MapKept.run_checkKey (w := w) hd (isKeyE_is hk) (#[] : Array MapEntry).isEmpty 9999
    have e2 := MapKept.run_findKey (w := w) hd hf
    simp only [Instr.lookup, Sem.run_bind, run_underlying' hm, Result.andThen_ok, Sem.run_pure]
    rw [e1]
    simp only [Result.andThen_ok]
    rw [e2]
    simp only [Result.andThen_ok]
    cases a with
    | none => simp only [Sem.run_bind, Sem.run_pure]; cases (zeroValue et).run P w <;> simp
    | some v => simp
  · have e1 := MapKept.run_checkKey (w := w) hd (isKeyE_is hk) fs.isEmpty 9999
    have e2 := MapKept.run_findKey (w := w) hd hf
    simp only [Instr.lookup, Sem.run_bind, run_underlying' hm, Result.andThen_ok, Sem.run_pure, MapKept.run_getObj_map hb]
    rw [e1]
    simp only [Result.andThen_ok]
    rw [e2]
    simp only [Result.andThen_ok]
    cases a with
    | none => simp only [Sem.run_bind, Sem.run_pure]; cases (zeroValue et).run P w <;> simp
    | some v => simp
theorem esE_run (hH : HR M σ H.get w) {x u : Value} {es : List MapEntry} (h : esE H x = some es) (hx : VR M σ x u) : ∃ fs : Array MapEntry, ER M σ es fs.toList ∧ ((u = .map none ∧ fs = #[]) ∨ ∃ r c, u = .map (some r) ∧ w.heap[r]? = some (.map fs c)) := by
  cases hx <;> simp only [esE] at h <;> (try (cases h; done))
  case nilm => cases h; exact ⟨#[], .nil, .inl ⟨rfl, rfl⟩⟩
  case map hp =>
    split at h
    · rename_i es' c hg
      cases h
      obtain ⟨fs, h1, h2⟩ := hH.at hg rfl hp
      exact ⟨fs, h2, .inr ⟨_, _, rfl, h1⟩⟩
    · cases h
theorem evLookup_run (hH : HR M σ H.get w) {t : TypeId} {x k x' k' : Value} {ok : Bool} (hx : VR M σ x x') (hk' : VR M σ k k') {y : Value} (h : evLookup P t x k ok H = some y) : ∃ u, (Instr.lookup t x' k' ok).run P w = .ok u w ∧ VR M σ y u := by
  unfold evLookup at h
  split at h
  · rename_i kt et hm
    split at h
    · rename_i d es hd hes
      obtain ⟨fs, h1, h2⟩ := esE_run hH hes hx
      split at h
      · rename_i j e hk hf
        cases h
        obtain ⟨f, f1, -, -, -, f5, -⟩ := findE_some hk h1 hf
        rw [hk'.eq_of_clean (isKeyE_clean hk), lookup_run ok hm hd hk h2 f1]
        exact ⟨_, rfl, okE_vr f5⟩
      · rename_i hk hf
        split at h
        · rename_i z hz
          cases h
          have f1 := findE_none hk h1 hf
          obtain ⟨z1, z2⟩ := zvE_run (w := w) hz
          rw [hk'.eq_of_clean (isKeyE_clean hk), lookup_run ok hm hd hk h2 f1]
          simp only [Sem.run_bind, z1, Result.andThen_ok, Sem.run_pure]
          exact ⟨_, rfl, okE_vr (VR.of_clean _ z2)⟩
        · cases h
      · cases h
    · cases h
  · cases h
/-! ### writing -/
def evMapUpdate (P : Program) (t : TypeId) (m k v : Value) (H : Tr Blk) (nx : Nat) : Option OpR :=
  match P.underlying t, m with
  | some (.map kt _), .map (some i) => match P.underlying kt, H.get (key i) with
    | some d, some (.map es c) => match isKeyE d k, findE d k es 0 with
      | true, some (some (j, e)) => some (.upd undef (H.set (key i) (.map (es.set j ⟨k, v, e.born⟩) c)) nx)
      | true, some none => some (.upd undef (H.set (key i) (.map (es ++ [⟨k, v, c⟩]) (c + 1))) nx)
      | _, _ => none
    | _, _ => none
  | _, _ => none
theorem evMapUpdate_ok (hH : HR M σ H.get w) {t : TypeId} {m k v m' k' v' : Value} (hm' : VR M σ m m') (hk' : VR M σ k k') (hv' : VR M σ v v') {nx : Nat} {r : OpR} (h : evMapUpdate P t m k v H nx = some r) :
    ∃ H', r = .upd undef H' nx ∧ ∃ w', (Instr.mapUpdate t m' k' v').run P w = .ok () w' ∧ HR M σ H'.get w' ∧ Stp M H.get w M H'.get w' := by
  unfold evMapUpdate at h
  split at h
  · rename_i kt et i hm
    split at h
    · rename_i d es c hd hg
      cases hm' with
      | map hp =>
      rename_i p
      obtain ⟨fs, hb, her⟩ := hH.at hg rfl hp
      split at h
      · rename_i j e hk hf
        cases h
        obtain ⟨f, f1, f2, f3, f4, f5, f6, f7⟩ := findE_some hk her hf
        have hke := hk'.eq_of_clean (isKeyE_clean hk)
        subst hke
        have hj : fs[j]? = some f := by simpa using f3
        obtain ⟨a1, a2, a3⟩ := HR.mapped (P := P) (c' := c) hH hg hp hb (es' := es.set j ⟨k', v, e.born⟩) (fs' := fs.modify j fun e => { e with key := k', val := v' }) (by
          rw [modify_list _ hj]; exact her.set j rfl hv' f6)
        refine ⟨_, rfl, _, ?_, a2, a3⟩
        simp only [Instr.mapUpdate, Sem.run_bind, run_underlying' hm, MapKept.run_getObj_map hb, Result.andThen_ok, MapKept.run_checkKey (w := w) hd (isKeyE_is hk), MapKept.run_findKey hd f1, hj, Option.map_some, Option.getD_some, f4, MapKept.run_keyThatStays (isKeyE_is hk), a1]
      · rename_i hk hf
        cases h
        have f1 := findE_none hk her hf
        have hke := hk'.eq_of_clean (isKeyE_clean hk)
        subst hke
        obtain ⟨a1, a2, a3⟩ := HR.mapped (P := P) (c' := c + 1) hH hg hp hb (es' := es ++ [⟨k', v, c⟩]) (fs' := fs.push ⟨k', v', c⟩) (by
          rw [Array.toList_push]; exact her.snoc rfl hv' rfl)
        refine ⟨_, rfl, _, ?_, a2, a3⟩
        simp only [Instr.mapUpdate, Sem.run_bind, run_underlying' hm, MapKept.run_getObj_map hb, Result.andThen_ok, MapKept.run_checkKey (w := w) hd (isKeyE_is hk), MapKept.run_findKey hd f1, a1]
      · cases h
    · cases h
  · cases h
def evMapEntry (P : Program) (t : TypeId) (m k : Value) (H : Tr Blk) (nx : Nat) : Option OpR :=
  match P.underlying t, m with
  | some (.map kt et), .map (some i) => match P.underlying kt, H.get (key i) with
    | some d, some (.map es c) => match isKeyE d k, findE d k es 0 with
      | true, some (some (j, e)) => some (.upd (.tuple ⟨[e.val, goInt e.born]⟩) (H.set (key i) (.map (es.set j ⟨k, e.val, e.born⟩) c)) nx)
      | true, some none => match zvE P et with
        | some z => some (.upd (.tuple ⟨[z, goInt c]⟩) (H.set (key i) (.map (es ++ [⟨k, z, c⟩]) (c + 1))) nx)
        | none => none
      | _, _ => none
    | _, _ => none
  | _, _ => none
theorem goInt_vr (n : Int) : VR M σ (goInt n) (goInt n) := VR.of_clean _ rfl
theorem evMapEntry_ok (hH : HR M σ H.get w) {t : TypeId} {m k m' k' : Value} (hm' : VR M σ m m') (hk' : VR M σ k k') {nx : Nat} {r : OpR} (h : evMapEntry P t m k H nx = some r) :
    ∃ v H', r = .upd v H' nx ∧ ∃ u w', (Instr.mapEntry t m' k').run P w = .ok u w' ∧ VR M σ v u ∧ HR M σ H'.get w' ∧ Stp M H.get w M H'.get w' := by
  unfold evMapEntry at h
  split at h
  · rename_i kt et i hm
    split at h
    · rename_i d es c hd hg
      cases hm' with
      | map hp =>
      rename_i p
      obtain ⟨fs, hb, her⟩ := hH.at hg rfl hp
      split at h
      · rename_i j e hk hf
        cases h
        obtain ⟨f, f1, f2, f3, f4, f5, f6, f7⟩ := findE_some hk her hf
        have hke := hk'.eq_of_clean (isKeyE_clean hk)
        subst hke
        have hj : fs[j]? = some f := by simpa using f3
        obtain ⟨a1, a2, a3⟩ := HR.mapped (P := P) (c' := c) hH hg hp hb (es' := es.set j ⟨k', e.val, e.born⟩) (fs' := fs.modify j fun e => { e with key := k' }) (by
          rw [modify_list _ hj]; exact her.set j rfl f5 f6)
        refine ⟨_, _, rfl, .tuple #[f.val, goInt f.born], _, ?_, ?_, a2, a3⟩
        · simp only [Instr.mapEntry, Sem.run_bind, run_underlying' hm, MapKept.run_getObj_map hb, Result.andThen_ok, MapKept.run_checkKey (w := w) hd (isKeyE_is hk), MapKept.run_findKey hd f1, hj, Option.map_some, Option.getD_some, f4, MapKept.run_keyThatStays (isKeyE_is hk), a1, Sem.run_pure]
        · rw [f6]; exact .tuple (.cons f5 (.cons (goInt_vr _) .nil))
      · rename_i hk hf
        split at h
        · rename_i z hz
          cases h
          have f1 := findE_none hk her hf
          have hke := hk'.eq_of_clean (isKeyE_clean hk)
          subst hke
          obtain ⟨z1, z2⟩ := zvE_run (w := w) hz
          obtain ⟨a1, a2, a3⟩ := HR.mapped (P := P) (c' := c + 1) hH hg hp hb (es' := es ++ [⟨k', z, c⟩]) (fs' := fs.push ⟨k', z, c⟩) (by
            rw [Array.toList_push]; exact her.snoc rfl (VR.of_clean _ z2) rfl)
          refine ⟨_, _, rfl, .tuple #[z, goInt c], _, ?_, ?_, a2, a3⟩
          · simp only [Instr.mapEntry, Sem.run_bind, run_underlying' hm, MapKept.run_getObj_map hb, Result.andThen_ok, MapKept.run_checkKey (w := w) hd (isKeyE_is hk), MapKept.run_findKey hd f1, z1, a1, Sem.run_pure]
          · exact .tuple (.cons (VR.of_clean _ z2) (.cons (goInt_vr _) .nil))
        · cases h
      · cases h
    · cases h
  · cases h
/-- the entry born at a time -/
def bornE (b : Nat) : List MapEntry → Nat → Option (Nat × MapEntry)
  | [], _ => none
  | e :: es, i => match Nat.beq e.born b with
    | true => some (i, e)
    | false => bornE b es (i + 1)
def evEntryStore (m s v : Value) (H : Tr Blk) (nx : Nat) : Option OpR :=
  match m, s with
  | .map (some i), .int _ (.ofNat b) => match H.get (key i) with
    | some (.map es c) => match bornE b es 0 with
      | some (j, e) => some (.upd undef (H.set (key i) (.map (es.set j ⟨e.key, v, e.born⟩) c)) nx)
      | none => none
    | _ => none
  | _, _ => none
theorem bornE_run {b : Nat} {es fs : List MapEntry} (h : ER M σ es fs) : ∀ {i j : Nat} {e : MapEntry}, bornE b es i = some (j, e) → ∃ f : MapEntry, i ≤ j ∧ fs.findIdx? (fun e => (e.born : Int) == (b : Int)) = some (j - i) ∧ fs[j - i]? = some f ∧ f.key = e.key ∧ f.born = e.born := by
  induction h with
  | nil => intro i j e h; simp [bornE] at h
  | cons a _ c _ ih =>
    rename_i e0 f0 _ _ _ _
    intro i j e he
    simp only [bornE] at he
    split at he
    · rename_i hb
      simp only [Option.some.injEq, Prod.mk.injEq] at he
      obtain ⟨rfl, rfl⟩ := he
      have := Nat.eq_of_beq_eq_true hb
      exact ⟨f0, Nat.le_refl _, by simp [List.findIdx?_cons, c, this], by simp, a, c⟩
    · rename_i hb
      obtain ⟨f, h1, h2, h3, h4⟩ := ih he
      have hne : ¬ e0.born = b := fun q => by rw [q, Nat.beq_refl] at hb; cases hb
      refine ⟨f, by omega, ?_, ?_, h4⟩
      · have : ((f0.born : Int) == (b : Int)) = false := by rw [c]; simp; omega
        rw [List.findIdx?_cons, this, h2]
        simp; omega
      · rw [show j - i = (j - (i + 1)) + 1 by omega, List.getElem?_cons_succ]; exact h3
theorem evEntryStore_ok (hH : HR M σ H.get w) {t : TypeId} {m s v m' s' v' : Value} (hm' : VR M σ m m') (hs' : VR M σ s s') (hv' : VR M σ v v') {nx : Nat} {r : OpR} (h : evEntryStore m s v H nx = some r) :
    ∃ H', r = .upd undef H' nx ∧ ∃ w', (Instr.entryStore t m' s' v').run P w = .ok () w' ∧ HR M σ H'.get w' ∧ Stp M H.get w M H'.get w' := by
  unfold evEntryStore at h
  split at h
  · rename_i i k b
    split at h
    · rename_i es c hg
      split at h
      · rename_i j e hj
        cases h
        cases hm' with
        | map hp =>
        rename_i p
        cases hs'
        obtain ⟨fs, hb, her⟩ := hH.at hg rfl hp
        obtain ⟨f, f1, f2, f3, f4, f5⟩ := bornE_run her hj
        simp only [Nat.sub_zero] at f2 f3
        have hjf : fs[j]? = some f := by simpa using f3
        have hfi : fs.findIdx? (fun e => (e.born : Int) == (b : Int)) = some j := by
          obtain ⟨fl⟩ := fs
          rw [List.findIdx?_toArray]; exact f2
        obtain ⟨a1, a2, a3⟩ := HR.mapped (P := P) (c' := c) hH hg hp hb (es' := es.set j ⟨e.key, v, e.born⟩) (fs' := fs.modify j fun e => { e with val := v' }) (by
          rw [modify_list _ hjf]; exact her.set j f4 hv' f5)
        refine ⟨_, rfl, _, ?_, a2, a3⟩
        have hfi' : fs.findIdx? (fun e => (e.born : Int) == Int.ofNat b) = some j := hfi
        simp [Instr.entryStore, MapKept.run_getObj_map hb, asInt, asIntOf, hfi', hfi, a1]
      · cases h
    · cases h
  · cases h
def evDelete (P : Program) (t : TypeId) (m k : Value) (H : Tr Blk) (nx : Nat) : Option OpR :=
  match P.underlying t, m with
  | some (.map kt _), .map none => match P.underlying kt with
    | some d => match isKeyE d k with
      | true => some (.upd (.tuple ⟨[]⟩) H nx)
      | false => none
    | none => none
  | some (.map kt _), .map (some i) => match P.underlying kt, H.get (key i) with
    | some d, some (.map es c) => match isKeyE d k, findE d k es 0 with
      | true, some (some (j, _)) => some (.upd (.tuple ⟨[]⟩) (H.set (key i) (.map (es.eraseIdx j) c)) nx)
      | true, some none => some (.upd (.tuple ⟨[]⟩) (H.set (key i) (.map es c)) nx)
      | _, _ => none
    | _, _ => none
  | _, _ => none
theorem evDelete_ok (hH : HR M σ H.get w) {t ty : TypeId} {ts : List TypeId} {m k m' k' : Value} (hm' : VR M σ m m') (hk' : VR M σ k k') {nx : Nat} {r : OpR} (h : evDelete P t m k H nx = some r) :
    ∃ H', r = .upd (.tuple ⟨[]⟩) H' nx ∧ ∃ w', (Builtin.delete_ ⟨t :: ts⟩ ty #[m', k']).run P w = .ok (.tuple #[]) w' ∧ HR M σ H'.get w' ∧ Stp M H.get w M H'.get w' := by
  unfold evDelete at h
  split at h
  · rename_i kt et hm
    split at h
    · rename_i d hd
      split at h
      · rename_i hk
        cases h
        cases hm'
        rw [hk'.eq_of_clean (isKeyE_clean hk)]
        refine ⟨_, rfl, w, ?_, hH, Stp.refl _ _ _⟩
        simp only [Builtin.delete_, List.getElem?_toArray, List.getElem?_cons_zero, List.getElem?_cons_succ, Sem.run_bind, run_underlying' hm, Result.andThen_ok, MapKept.run_checkKey (w := w) hd (isKeyE_is hk), Sem.run_pure]
      · cases h
    · cases h
  · rename_i kt et i hm
    split at h
    · rename_i d es c hd hg
      cases hm' with
      | map hp =>
      rename_i p
      obtain ⟨fs, hb, her⟩ := hH.at hg rfl hp
      split at h
      · rename_i j e hk hf
        cases h
        obtain ⟨f, f1, -⟩ := findE_some hk her hf
        rw [hk'.eq_of_clean (isKeyE_clean hk)]
        obtain ⟨a1, a2, a3⟩ := HR.mapped (P := P) (c' := c) hH hg hp hb (es' := es.eraseIdx j) (fs' := fs.eraseIdxIfInBounds j) (by rw [erase_list]; exact her.erase j)
        refine ⟨_, rfl, _, ?_, a2, a3⟩
        simp only [Builtin.delete_, List.getElem?_toArray, List.getElem?_cons_zero, List.getElem?_cons_succ, Sem.run_bind, run_underlying' hm, Result.andThen_ok, MapKept.run_getObj_map hb, MapKept.run_checkKey (w := w) hd (isKeyE_is hk), MapKept.run_findKey hd f1, a1, Sem.run_pure]
      · rename_i hk hf
        cases h
        have f1 := findE_none hk her hf
        rw [hk'.eq_of_clean (isKeyE_clean hk)]
        obtain ⟨a1, a2, a3⟩ := HR.mapped (P := P) (c' := c) hH hg hp hb (es' := es) (fs' := fs) her
        refine ⟨_, rfl, _, ?_, a2, a3⟩
        simp only [Builtin.delete_, List.getElem?_toArray, List.getElem?_cons_zero, List.getElem?_cons_succ, Sem.run_bind, run_underlying' hm, Result.andThen_ok, MapKept.run_getObj_map hb, MapKept.run_checkKey (w := w) hd (isKeyE_is hk), MapKept.run_findKey hd f1, a1, Sem.run_pure]
      · cases h
    · cases h
  · cases h
/-! ### copy -/
def evCopy (P : Program) (t : TypeId) (d s : Value) (H : Tr Blk) (nx : Nat) : Option OpR :=
  match P.underlying t, d with
  | some (.slice e), .slice base l _ => match sizeT P e, lenV s with
    | some z, some n => match headE H z (Nat.min n l) s with
      | some news => match base with
        | none => some (.upd (goInt (Nat.min n l)) H nx)
        | some ⟨b, o, _⟩ => appendIn H nx b o news (goInt (Nat.min n l))
      | none => none
    | _, _ => none
  | _, _ => none
theorem evCopy_ok (hH : HR M σ H.get w) {t ty : TypeId} {ts : List TypeId} {d s d' s' : Value} (hd' : VR M σ d d') (hs' : VR M σ s s') {nx : Nat} {r : OpR} (h : evCopy P t d s H nx = some r) :
    ∃ v H', r = .upd v H' nx ∧ ∃ u w', (Builtin.copy_ ⟨t :: ts⟩ ty #[d', s']).run P w = .ok u w' ∧ VR M σ v u ∧ HR M σ H'.get w' ∧ Stp M H.get w M H'.get w' := by
  unfold evCopy at h
  split at h
  · rename_i e base l c hu
    split at h
    · rename_i z n hz hn
      split at h
      · rename_i news hnews
        have hl := lenV_run (P := P) (w := w) hn hs'
        obtain ⟨news', hf, hnr⟩ := headE_run (P := P) hH hnews hs'
        split at h
        · cases h
          cases hd'
          refine ⟨_, _, rfl, goInt (Nat.min n l), w, ?_, goInt_vr _, hH, Stp.refl _ _ _⟩
          simp only [Builtin.copy_, List.getElem?_toArray, List.getElem?_cons_zero, List.getElem?_cons_succ, Sem.run_bind, run_underlying' hu, Result.andThen_ok, hl, run_sizeOf' hz, hf, Sem.run_pure]
        · rename_i b o sp
          cases hd' with
          | slice _ _ _ hp =>
            obtain ⟨H', w', rfl, a1, a2, a3⟩ := appendIn_ok (P := P) hH h hp hnr (goInt_vr _)
            refine ⟨_, _, rfl, goInt (Nat.min n l), w', ?_, goInt_vr _, a2, a3⟩
            simp only [Builtin.copy_, List.getElem?_toArray, List.getElem?_cons_zero, List.getElem?_cons_succ, Sem.run_bind, run_underlying' hu, Result.andThen_ok, hl, run_sizeOf' hz, hf, Sem.run_pure, a1]
          | grown _ _ _ _ _ hp _ _ _ =>
            obtain ⟨H', w', rfl, a1, a2, a3⟩ := appendIn_ok (P := P) hH h hp hnr (goInt_vr _)
            refine ⟨_, _, rfl, goInt (Nat.min n l), w', ?_, goInt_vr _, a2, a3⟩
            simp only [Builtin.copy_, List.getElem?_toArray, List.getElem?_cons_zero, List.getElem?_cons_succ, Sem.run_bind, run_underlying' hu, Result.andThen_ok, hl, run_sizeOf' hz, hf, Sem.run_pure, a1]
      · cases h
    · cases h
  · cases h
/-! ### clear -/
def evClear (P : Program) (t : TypeId) (x : Value) (H : Tr Blk) (nx : Nat) : Option OpR :=
  match P.underlying t, x with
  | some (.map _ _), .map none => some (.upd (.tuple ⟨[]⟩) H nx)
  | some (.map _ _), .map (some i) => match H.get (key i) with
    | some (.map _ c) => some (.upd (.tuple ⟨[]⟩) (H.set (key i) (.map [] c)) nx)
    | _ => none
  | some (.slice _), .slice none _ _ => some (.upd (.tuple ⟨[]⟩) H nx)
  | some (.slice e), .slice (some ⟨b, o, _⟩) (n + 1) _ => match zeroE P e with
    | some z => match cleans (cyc ((n + 1) * z.length) z) with
      | true => appendIn H nx b o (cyc ((n + 1) * z.length) z) (.tuple ⟨[]⟩)
      | false => none
    | none => none
  | _, _ => none
theorem evClear_ok (hH : HR M σ H.get w) {t ty : TypeId} {ts : List TypeId} {x x' : Value} (hx : VR M σ x x') {nx : Nat} {r : OpR} (h : evClear P t x H nx = some r) :
    ∃ H', r = .upd (.tuple ⟨[]⟩) H' nx ∧ ∃ w', (Builtin.clear_ ⟨t :: ts⟩ ty #[x']).run P w = .ok (.tuple #[]) w' ∧ HR M σ H'.get w' ∧ Stp M H.get w M H'.get w' := by
  unfold evClear at h
  split at h
  · rename_i hu
    cases h; cases hx
    exact ⟨_, rfl, w, by simp [Builtin.clear_, run_underlying' hu], hH, Stp.refl _ _ _⟩
  · rename_i hu
    split at h
    · rename_i es c hg
      cases h
      cases hx with
      | map hp =>
      obtain ⟨fs, hb, her⟩ := hH.at hg rfl hp
      obtain ⟨a1, a2, a3⟩ := HR.mapped (P := P) (c' := c) hH hg hp hb (es' := []) (fs' := #[]) .nil
      exact ⟨_, rfl, _, by simp [Builtin.clear_, run_underlying' hu, MapKept.run_getObj_map hb, a1], a2, a3⟩
    · cases h
  · rename_i hu
    cases h; cases hx
    exact ⟨_, rfl, w, by simp [Builtin.clear_, run_underlying' hu], hH, Stp.refl _ _ _⟩
  · rename_i e b o sp n c hu
    split at h
    · rename_i z hz
      split at h
      · rename_i hcl
        obtain ⟨zv, z1, z2, z3⟩ := zeroE_run (P := P) (w := w) hz
        have hcells : (Builtin.zeroCells zv.cells (n + 1)).toList = cyc ((n + 1) * z.length) z := by
          rw [← z2, ← cyc_eq]; simp [Builtin.zeroCells]
        have hcr : VRs M σ (cyc ((n + 1) * z.length) z) (cyc ((n + 1) * z.length) z) := VRs.of_clean _ hcl
        cases hx with
        | slice _ _ _ hp =>
          obtain ⟨H', w', rfl, a1, a2, a3⟩ := appendIn_ok (P := P) hH h hp hcr (.tuple .nil)
          exact ⟨_, rfl, w', by simp [Builtin.clear_, run_underlying' hu, z1, hcells, a1], a2, a3⟩
        | grown _ _ _ _ _ hp _ _ _ =>
          obtain ⟨H', w', rfl, a1, a2, a3⟩ := appendIn_ok (P := P) hH h hp hcr (.tuple .nil)
          exact ⟨_, rfl, w', by simp [Builtin.clear_, run_underlying' hu, z1, hcells, a1], a2, a3⟩
      · cases h
    · cases h
  · cases h

/-! ### strings and rows of bytes -/
theorem Stp.newAt {H : HP} {w' : World} {k : Key} (hM : M k = none) (hk : H k = none) (b : Blk) (p : Place) (hp : w.heap.size ≤ p.b) (hos : w'.os = w.os) (htp : w'.tape = w.tape) (hou : w'.output = w.output) (hsz : w.heap.size ≤ w'.heap.size) (hold : ∀ j, j < w.heap.size → w'.heap[j]? = w.heap[j]?) :
    Stp M H w (ins M k p) (upd H k b) w' where
  le := ins_le hM _
  os := hos
  tape := htp
  output := hou
  size := hsz
  frame := fun j hj _ => hold j hj
  dead := fun k' hk' => by
    have e : k' ≠ k := by rintro rfl; rw [hk] at hk'; cases hk'
    rw [upd_other _ _ e]; exact hk'
  fresh := fun k' q hq => by
    by_cases e : k' = k
    · subst e; exact .inr hk
    · simp only [ins, e, if_false] at hq; exact .inl hq
  grow := fun k' b' hb' => by
    have e : k' ≠ k := by rintro rfl; rw [hk] at hb'; cases hb'
    rw [upd_other _ _ e]; exact ⟨b', hb'⟩
  own := fun k' b' q g l m => by
    by_cases e : k' = k
    · subst e
      simp [ins] at m; subst m; exact .inl hp
    · rw [upd_other _ _ e] at g
      simp only [ins, e, if_false] at m
      exact .inr ⟨k', b', q, g, l, m, rfl⟩
def byteL (s : ByteArray) : List Value := s.data.toList.map fun b => .int .u8 b.toNat
def bytesOfE : List Value → Option (List Int)
  | [] => some []
  | .int .u8 n :: l => match bytesOfE l with | some r => some (n :: r) | none => none
  | _ => none
theorem bytesOfE_eq : ∀ {l : List Value} {r : List Int}, bytesOfE l = some r → l = r.map (Value.int .u8)
  | [], r, h => by simp [bytesOfE] at h; subst h; rfl
  | x :: l, r, h => by
    unfold bytesOfE at h
    split at h
    · rename_i heq; cases heq
    · rename_i n l' heq
      cases heq
      split at h
      · rename_i r' hr; cases h; simp [bytesOfE_eq hr]
      · cases h
    · cases h
def mkStr (ns : List Int) : ByteArray := ⟨⟨ns.map fun n => UInt8.ofNat n.toNat⟩⟩
theorem mkStr_fold (ns : List Int) : ∀ r : ByteArray, ns.foldl (fun r n => r.push (UInt8.ofNat n.toNat)) r = ⟨⟨r.data.toList ++ (mkStr ns).data.toList⟩⟩ := by
  induction ns with
  | nil => intro r; obtain ⟨⟨r⟩⟩ := r; simp [mkStr]
  | cons n ns ih =>
    intro r
    rw [List.foldl_cons, ih]
    obtain ⟨⟨r⟩⟩ := r
    simp [mkStr, ByteArray.push]
/-- a pointer as unsafe.Pointer -/
def toUnsafe (P : Program) (s : TypeId) (v : Value) (H : Tr Blk) : Option OpR :=
  match P.underlying s with
  | some (.pointer u) => match v with
    | .pointer (some ⟨i, o, none⟩) => match H.get (key i), P.info? u with
      | some (.cells _ xs), some j => match Nat.beq j.size 0, Nat.blt o xs.length with
        | false, true => some (.pure (.pointer (some ⟨i, o, none⟩)))
        | _, _ => none
      | _, _ => none
    | _ => none
  | _ => none
def liesOk (P : Program) (u : TypeId) (n : Nat) : Bool := Nat.blt 0 (P.cellsOf u) && Nat.ble (P.cellsOf u) n
def fromUnsafe (P : Program) (s u : TypeId) (v : Value) (H : Tr Blk) : Option OpR :=
  match P.underlying s with
  | some .unsafePointer => match v with
    | .pointer (some ⟨i, o, none⟩) => match H.get (key i), P.info? u with
      | some (.cells t xs), some _ => match Nat.beq o 0, Nat.beq t u && isBld t Tab.table, liesOk P u xs.length with
        | true, true, true => some (.pure (.pointer (some ⟨i, 0, none⟩)))
        | _, _, _ => none
      | _, _ => none
    | _ => none
  | _ => none
theorem lies_self {u : TypeId} {cells : Nat} (h0 : 0 < P.cellsOf u) (hc : P.cellsOf u ≤ cells) : liesAt P P.depth u (cells / P.cellsOf u) 0 u 1 = true := by
  obtain ⟨d, hd⟩ : ∃ d, P.depth = d + 1 := ⟨_, rfl⟩
  have hne : P.cellsOf u ≠ 0 := by omega
  have hdiv : 1 ≤ cells / P.cellsOf u := by rw [Nat.le_div_iff_mul_le h0]; omega
  have hs : sameLayout P P.depth u u = true := by rw [hd]; simp [sameLayout]
  have hr : rowAt P (sameLayout P P.depth · u) P.depth u (cells / P.cellsOf u) 0 1 = true := by
    rw [hd, rowAt]
    rw [hd] at hs
    simp [hne, hdiv, hs]
  have : liesAt P (d + 1) u (cells / P.cellsOf u) 0 u 1 = true := by
    rw [liesAt, hr]; rfl
  rw [← hd] at this
  exact this
theorem toUnsafe_ok (hH : HR M σ H.get w) {s d : TypeId} {x : Operand} {η : Operand → Value} {v : Value} (hv : VR M σ v (η x)) (hd : P.underlying d = some .unsafePointer) {r : OpR} (h : toUnsafe P s v H = some r) {op : Oper} (ho : op.op = .convert s d x) :
    Snd M σ H w ((execOp η op).run P w) r := by
  unfold toUnsafe at h
  split at h
  · rename_i u hs
    split at h
    · rename_i i o
      split at h
      · rename_i t xs j hg hj
        split at h
        · rename_i h1 h2
          cases h
          generalize hx : η x = y at hv
          cases hv with
          | ptr _ hp =>
            rename_i p
            obtain ⟨c, fr, b1, b0, bs, b2, b3, b4⟩ := hH.at hg rfl hp
            have hsh : w.shape? p.b = some (t, c.size) := by simp [World.shape?, b1]
            have hlt := blt_lt h2
            have hne : j.size ≠ 0 := fun e => by rw [e] at h1; cases h1
            have hrun := Lib.run_to_unsafe (P := P) w (src := s) (dst := d) ⟨p.b, p.s + o, none⟩ hs hd hj hne hsh (show p.s + o < c.size by omega)
            exact ⟨_, .inl (by simp only [execOp, ho, hx, Sem.run_bind, hrun, Result.andThen_ok, Sem.run_pure]), .ptr o hp⟩
        · cases h
      · cases h
    · cases h
  · cases h
theorem fromUnsafe_ok (hH : HR M σ H.get w) {s d u : TypeId} {x : Operand} {η : Operand → Value} {v : Value} (hv : VR M σ v (η x)) (hd : P.underlying d = some (.pointer u)) {r : OpR} (h : fromUnsafe P s u v H = some r) {op : Oper} (ho : op.op = .convert s d x) :
    Snd M σ H w ((execOp η op).run P w) r := by
  unfold fromUnsafe at h
  split at h
  · rename_i hs
    split at h
    · rename_i i o
      split at h
      · rename_i t xs j hg hj
        split at h
        · rename_i h1 h2 h3
          cases h
          rw [Bool.and_eq_true] at h2
          obtain ⟨h2, hbl⟩ := h2
          have e1 := Nat.eq_of_beq_eq_true h1
          have e2 := Nat.eq_of_beq_eq_true h2
          subst e1; subst e2
          unfold liesOk at h3
          rw [Bool.and_eq_true] at h3
          have h30 := blt_lt h3.1
          have h31 := Nat.le_of_ble_eq_true h3.2
          generalize hx : η x = y at hv
          cases hv with
          | ptr _ hp =>
            rename_i p
            obtain ⟨c, fr, b1, b0, bs, b2, b3, b4⟩ := hH.at hg rfl hp
            have hs0 := bs hbl
            have hsh : w.shape? p.b = some (t, c.size) := by simp [World.shape?, b1]
            have hrun := Lib.run_from_unsafe (P := P) w (src := s) (dst := d) ⟨p.b, p.s + 0, none⟩ hs hd hj hsh (by
              show liesAt P P.depth t (c.size / P.cellsOf t) (p.s + 0) t 1 = true
              rw [hs0]; exact lies_self h30 (by omega))
            exact ⟨_, .inl (by simp only [execOp, ho, hx, Sem.run_bind, hrun, Result.andThen_ok, Sem.run_pure]), .ptr 0 hp⟩
        · cases h
      · cases h
    · cases h
  · cases h
def evConvH (P : Program) (s d : TypeId) (v : Value) (H : Tr Blk) (nx : Nat) : Option OpR :=
  match P.underlying d with
  | some .string => match P.underlying s with
    | some (.slice e) => match P.underlying e with
      | some (.int .u8) => match v with
        | .slice (some ⟨i, o, _⟩) l _ => match cellsE H i o l with
          | some ys => match bytesOfE ys with
            | some ns => some (.pure (.string (mkStr ns)))
            | none => none
          | none => none
        | _ => none
      | _ => none
    | _ => none
  | some (.slice e) => match P.underlying e with
    | some (.int .u8) => match v, P.underlying s with
      | .string str, some _ => match H.get (key nx) with
        | none => some (.upd (grownTo 1 str.size nx) (H.set (key nx) (.cells e (byteL str))) (nx + 1))
        | some _ => none
      | .slice (some ⟨i, o, sp⟩) l c, some (.slice _) => match Nat.beq s d with
        | true => match H.get (key i) with
          | some (.cells t xs) => some (.upd (.slice (some ⟨i, o, sp⟩) l c) (H.set (key i) (.cells t xs)) nx)
          | _ => none
        | false => none
      | _, _ => none
    | _ => none
  | some .unsafePointer => toUnsafe P s v H
  | some (.pointer u) => fromUnsafe P s u v H
  | _ => none
theorem evConvH_ok (hH : HR M σ H.get w) {s d : TypeId} {x : Operand} {η : Operand → Value} {v : Value} (hv : VR M σ v (η x)) {nx : Nat} {r : OpR} (h : evConvH P s d v H nx = some r) {op : Oper} (ho : op.op = .convert s d x) :
    Snd M σ H w ((execOp η op).run P w) r := by
  unfold evConvH at h
  split at h
  · rename_i hd
    split at h
    · rename_i e hs
      split at h
      · rename_i he
        generalize hx : η x = u at hv
        have key : ∀ (i o l c c' : Nat) (p : Place), M (key i) = some p → ∀ ys, cellsE H i o l = some ys → ∀ ns, bytesOfE ys = some ns →
            (convert s d (.slice (some ⟨p.b, p.s + o, none⟩) l c')).run P w = .ok (.string (mkStr ns)) w := by
          intro i o l c c' p hp ys hys ns hns
          obtain ⟨vs, h1, h2, h3⟩ := cellsE_run hH hys hp
          have hc := run_loadCells_list (P := P) w ⟨p.b, p.s + o, none⟩ vs (fun j v hv => by rw [addr_add]; exact h3 j v hv)
          rw [h1] at hc
          have he2 := bytesOfE_eq hns
          have hcl : ∀ ns : List Int, cleans (ns.map (Value.int .u8)) = true := fun ns => by induction ns with
            | nil => rfl
            | cons n ns ih => simp [cleans, clean, ih]
          have := h2.eq_of_clean (by rw [he2]; exact hcl ns)
          rw [this, he2] at hc
          rw [run_convert_bytes_string w s d e _ l c' hs he hd, run_bytesToString w _ l c' ns hc, mkStr_fold]
          have h0 : ByteArray.empty.data.toList = [] := rfl
          rw [h0, List.nil_append]
        split at h
        · rename_i i o _ l c
          split at h
          · rename_i ys hys
            split at h
            · rename_i ns hns
              cases h
              cases hv with
              | slice _ _ _ hp =>
                exact ⟨_, .inl (by simp [execOp, ho, hx, key _ _ _ 0 _ _ hp _ hys _ hns]), .str _⟩
              | grown _ _ _ _ c' hp a b e' =>
                exact ⟨_, .inl (by simp [execOp, ho, hx, key _ _ _ 0 _ _ hp _ hys _ hns]), .str _⟩
            · cases h
          · cases h
        · cases h
      · cases h
    · cases h
  · rename_i e hd
    split at h
    · rename_i he
      split at h
      · rename_i str u hs
        split at h
        · rename_i hf
          cases h
          have hM := hH.unplaced hf
          have hvs : η x = .string str := hv.eq_of_clean rfl
          have hrun := Lib.run_convert_string_bytes (P := P) w s d e str hs hd he
          have hold := Lib.bytesWorld_at_old w e str
          have hH' : HR M σ H.get (Lib.bytesWorld w e str) := hH.keep (fun k' b' q g l m => hold _ (hH.place_lt g l m)) fun x hx => hold _ (hH.gl x hx).1.lt
          have hcap : str.size ≤ (Lib.bytesCells w e str).size := by
            simp only [Lib.bytesCells, Array.size_append, Array.size_map]
            have : str.data.size = str.size := rfl
            omega
          have hcs : grownCap w str.size 0 e ≤ (Lib.bytesCells w e str).size := by
            simp only [Lib.bytesCells, Array.size_append, Array.size_map, Array.size_replicate]
            have : str.data.size = str.size := rfl
            omega
          have hle : str.size ≤ grownCap w str.size 0 e := by simp [grownCap, Question.cut]
          have hnew := Lib.bytesWorld_at_new w e str
          have hb : BR (ins M (key nx) ⟨w.heap.size, 0, (Lib.bytesCells w e str).size⟩) σ (.cells e (byteL str)) ⟨w.heap.size, 0, (Lib.bytesCells w e str).size⟩ (Lib.bytesWorld w e str) := by
            refine ⟨_, _, hnew, .inr (Nat.le_refl _), fun _ => rfl, rfl, ?_, fun j y hy => ?_⟩
            · have : (byteL str).length = str.size := by simp only [byteL, List.length_map, Array.length_toList]; rfl
              show 0 + (byteL str).length ≤ (Lib.bytesCells w e str).size
              omega
            · have hj : j < str.size := by
                have := (List.getElem?_eq_some_iff.1 hy).1
                simpa [byteL] using this
              refine ⟨y, ?_, ?_⟩
              · simp only [Nat.zero_add, Lib.bytesCells]
                rw [Array.getElem?_append_left (by simpa using hj)]
                simp only [byteL, List.getElem?_map, Array.getElem?_toList] at hy
                simp only [Array.getElem?_map]
                exact hy
              · simp only [byteL, List.getElem?_map, Option.map_eq_some_iff] at hy
                obtain ⟨b, _, rfl⟩ := hy
                exact .int _ _
          refine ⟨_, ins M (key nx) ⟨w.heap.size, 0, (Lib.bytesCells w e str).size⟩, Lib.bytesWorld w e str, .inl (by simp only [execOp, ho, hvs, Sem.run_bind, hrun, Result.andThen_ok, Sem.run_pure]; rfl), ?_, ?_, ?_⟩
          · have := VR.grown (σ := σ) 0 1 str.size str.size (grownCap w str.size 0 e) (ins_same M (key nx) ⟨w.heap.size, 0, (Lib.bytesCells w e str).size⟩) (Nat.le_refl _) hle (by simpa using hcs)
            simpa [grownTo] using this
          · rw [Tr.get_upd]
            exact hH'.adopt hM (fun k' b' q g l m => by have := hH.place_lt g l m; show q.b ≠ w.heap.size; omega) (fun x hx => by have := (hH.gl x hx).1.lt; show w.heap.size ≠ x.1; omega) hb
          · rw [Tr.get_upd]
            exact Stp.newAt hM hf _ _ (Nat.le_refl _) rfl rfl rfl (by rw [Lib.bytesWorld_size]; omega) hold
        · cases h
      · rename_i i o sp l c e' hs
        split at h
        · rename_i hsd
          have hsd := Nat.eq_of_beq_eq_true hsd
          subst hsd
          rw [hd] at hs
          cases hs
          have hs := hd
          split at h
          · rename_i t xs hg
            cases h
            generalize hx : η x = u at hv
            have key : ∀ (q : Place) (a : Addr) (c' : Nat), M (key i) = some q → a.block = q.b → ∃ w', (convert s s (.slice (some a) l c')).run P w = .ok (.slice (some a) l c') w' ∧ HR M σ (upd H.get (key i) (.cells t xs)) w' ∧ Stp M H.get w M (upd H.get (key i) (.cells t xs)) w' := by
              intro q a c' hq ha
              obtain ⟨cc, fr, h1, h0, hsd, h2, h3, h4⟩ := hH.at hg rfl hq
              have hsh : w.shape? q.b = some (t, cc.size) := by simp [World.shape?, h1]
              refine ⟨w.freeze ⟨q.b, cc.size, none⟩ 1, ?_, ?_⟩
              · simp [convert, run_underlying' hs, run_underlying' he, markStringish, hsh, ha]
              · have hlt := (Array.getElem?_eq_some_iff.1 h1).1
                have hblk : (w.freeze ⟨q.b, cc.size, none⟩ 1).heap[q.b]? = some (.cells cc t (if fr.1 == fr.2 then (cc.size, cc.size + 1) else (min fr.1 cc.size, max fr.2 (cc.size + 1)))) := by
                  obtain ⟨_, hk⟩ := Array.getElem?_eq_some_iff.1 h1
                  show (w.heap.modify q.b _)[q.b]? = _
                  rw [Array.getElem?_eq_getElem (by rw [Array.size_modify]; exact hlt), Array.getElem_modify_self, hk]
                have hoth : ∀ j, j ≠ q.b → (w.freeze ⟨q.b, cc.size, none⟩ 1).heap[j]? = w.heap[j]? := fun j hj => by
                  show (w.heap.modify q.b _)[j]? = _
                  rw [Array.getElem?_modify, if_neg (fun e => hj e.symm)]
                refine hH.write hg rfl hq hoth rfl rfl rfl (by show (w.heap.modify q.b _).size = _; simp) rfl ⟨cc, _, hblk, ?_, hsd, h2, h3, h4⟩
                split
                · exact .inr (Nat.le_refl _)
                · rename_i hne
                  rcases h0 with h0 | h0
                  · simp [h0] at hne
                  · exact .inr (by show cc.size ≤ min fr.1 cc.size; omega)
            cases hv with
            | slice _ _ _ hp =>
              rename_i q
              obtain ⟨w', k1, k2, k3⟩ := key q ⟨q.b, q.s + o, none⟩ c hp rfl
              exact ⟨_, M, w', .inl (by simp [execOp, ho, hx, k1]), .slice _ _ _ hp, by rw [Tr.get_upd]; exact k2, by rw [Tr.get_upd]; exact k3⟩
            | grown _ _ _ _ c' hp a b e' =>
              rename_i q
              obtain ⟨w', k1, k2, k3⟩ := key q ⟨q.b, q.s + o, none⟩ c' hp rfl
              exact ⟨_, M, w', .inl (by simp [execOp, ho, hx, k1]), .grown _ _ _ _ c' hp a b e', by rw [Tr.get_upd]; exact k2, by rw [Tr.get_upd]; exact k3⟩
          · cases h
        · cases h
      · cases h
    · cases h
  · rename_i hd
    exact toUnsafe_ok hH hv hd h ho
  · rename_i u hd
    exact fromUnsafe_ok hH hv hd h ho
  · cases h
/-! ### range over a map -/
def evRange (P : Program) (t : TypeId) (x : Value) (H : Tr Blk) : Option OpR :=
  match P.underlying t, x with
  | some (.map _ _), .map none => some (.new (.iter none 0 [] 0) ptrTo)
  | some (.map _ _), .map (some k) => match H.get (key k) with
    | some (.map _ c) => some (.new (.iter (some k) c [] c) ptrTo)
    | _ => none
  | _, _ => none
theorem evRange_ok (hH : HR M σ H.get w) {t : TypeId} {x : Operand} {η : Operand → Value} {v : Value} (hv : VR M σ v (η x)) {r : OpR} (h : evRange P t v H = some r) {op : Oper} (ho : op.op = .range t x) :
    Snd M σ H w ((execOp η op).run P w) r := by
  unfold evRange at h
  generalize hx : η x = va at hv
  split at h
  · rename_i k e hu
    cases h
    cases hv
    refine ⟨rfl, .mapIter none 0 #[] 0, 0, .pointer (some ⟨w.heap.size, 0, none⟩), ?_, fun M' _ => ⟨rfl, none, #[], heap_new _ _, rfl, rfl⟩, fun id M' hm => ptrTo_vr hm⟩
    simp [execOp, ho, hx, Instr.range, run_underlying' hu, newObj, Sem.run] <;> rfl
  · rename_i kt e k hu
    split at h
    · rename_i es c hg
      cases h
      cases hv with
      | map hp =>
      rename_i p
      obtain ⟨fs, hb, her⟩ := hH.at hg rfl hp
      refine ⟨rfl, .mapIter (some p.b) c #[] c, 0, .pointer (some ⟨w.heap.size, 0, none⟩), ?_, fun M' hl => ⟨rfl, some p.b, #[], heap_new _ _, rfl, p, hl _ _ hp, rfl⟩, fun id M' hm => ptrTo_vr hm⟩
      simp only [execOp, ho, hx, Instr.range, Sem.run_bind, run_underlying' hu, Result.andThen_ok, MapKept.run_getObj_map hb, Sem.run_pure]
      simp [newObj, Sem.run] <;> rfl
    · cases h
  · cases h
def hasN (n : Nat) : List Nat → Bool
  | [] => false
  | m :: l => match Nat.beq n m with | true => true | false => hasN n l
def leftE (seen : List Nat) : List MapEntry → List MapEntry
  | [] => []
  | e :: l => match hasN e.born seen with | true => leftE seen l | false => e :: leftE seen l
def goneE (seen : List Nat) (es : List MapEntry) (last : Nat) : Bool :=
  match seen, es with
  | [], _ => false
  | _, [] => false
  | _, es => es.all (fun e => Nat.ble last e.born)
def evNext (t : TypeId) (it : Value) (H : Tr Blk) (nx : Nat) : Option OpR :=
  match it with
  | .pointer (some ⟨r, 0, none⟩) => match H.get (key r) with
    | some (.iter none _ _ _) => some (.pure (.tuple ⟨[.bool false]⟩))
    | some (.iter (some k) since seen last) => match H.get (key k) with
      | some (.map es c) => match goneE seen es last with
        | true => none
        | false => match leftE seen es with
          | [] => some (.pure (.tuple ⟨[.bool false]⟩))
          | [e] => match Nat.blt e.born since, clean e.key with
            | true, true => some (.upd (.tuple ⟨[.bool true, e.key, e.val]⟩) (H.set (key r) (.iter (some k) since (seen ++ [e.born]) c)) nx)
            | _, _ => none
          | _ => none
      | _ => none
    | _ => none
  | _ => none
theorem hasN_eq (n : Nat) (l : List Nat) : hasN n l = l.contains n := by
  induction l with
  | nil => rfl
  | cons m l ih =>
    simp only [hasN, List.contains_cons]
    cases h : Nat.beq n m with
    | true => have := Nat.eq_of_beq_eq_true h; subst this; simp
    | false =>
      have hne : n ≠ m := fun e => by subst e; simp at h
      have : (n == m) = false := by simpa using hne
      rw [ih, this, Bool.false_or]
theorem ER.left {es fs : List MapEntry} (h : ER M σ es fs) (seen : List Nat) : ER M σ (leftE seen es) (fs.filter fun e => !seen.contains e.born) := by
  induction h with
  | nil => exact .nil
  | cons hk hv hb _ ih =>
    rename_i e f _ _ _
    simp only [leftE, hasN_eq, List.filter_cons, hb]
    cases seen.contains e.born with
    | true => simpa using ih
    | false => simpa using ER.cons hk hv hb ih
theorem ER.all {es fs : List MapEntry} (h : ER M σ es fs) (n : Nat) : (es.all fun e => Nat.ble n e.born) = fs.all fun e => decide (n ≤ e.born) := by
  induction h with
  | nil => rfl
  | cons hk hv hb _ ih =>
    rename_i e f _ _ _
    simp only [List.all_cons, ih, hb]
    congr 1
    rw [Bool.eq_iff_iff]; simp
theorem goneE_eq {es : List MapEntry} {fs : Array MapEntry} {sa : Array Nat} (h : ER M σ es fs.toList) (last : Nat) : (!sa.isEmpty && !fs.isEmpty && fs.all fun e => decide (e.born ≥ last)) = goneE sa.toList es last := by
  have h1 : (fs.all fun e => decide (e.born ≥ last)) = fs.toList.all fun e => decide (last ≤ e.born) := by simp
  have h2 : fs.isEmpty = es.isEmpty := by
    have hl := h.length
    cases es with
    | nil => obtain ⟨fl⟩ := fs; cases fl with
      | nil => rfl
      | cons f fl => simp at hl
    | cons e es => obtain ⟨fl⟩ := fs; cases fl with
      | nil => simp at hl
      | cons f fl => rfl
  rw [h1, h2, ← h.all]
  obtain ⟨sl⟩ := sa
  cases sl <;> cases es <;> rfl
theorem iput_heap {w : World} {b : Nat} {o o' : Obj} (h : w.heap[b]? = some o) : ({ w with heap := w.heap.setIfInBounds b o' } : World).heap[b]? = some o' := by
  have := (Array.getElem?_eq_some_iff.1 h).1
  simp [this]
theorem iput_other {w : World} {b : Nat} {o' : Obj} (j : Nat) (hj : j ≠ b) : ({ w with heap := w.heap.setIfInBounds b o' } : World).heap[j]? = w.heap[j]? := by
  simp [Array.getElem?_setIfInBounds_ne (Ne.symm hj)]
theorem evNext_run (hH : HR M σ H.get w) {t : TypeId} {it it' : Value} (hit : VR M σ it it') {nx : Nat} {r : OpR} (h : evNext t it H nx = some r) :
    (∃ v, r = .pure v ∧ clean v = true ∧ (Instr.next it' false t).run P w = .ok v w) ∨
    ∃ v H', r = .upd v H' nx ∧ ∃ u w', (Instr.next it' false t).run P w = .ok u w' ∧ VR M σ v u ∧ HR M σ H'.get w' ∧ Stp M H.get w M H'.get w' := by
  unfold evNext at h
  split at h
  · rename_i r0
    cases hit with
    | ptr _ hp =>
    rename_i p
    split at h
    · rename_i s0 s1 s2 hg
      cases h
      obtain ⟨hps, mo, sa, hb, -, hmo⟩ := hH.at hg rfl hp
      cases hmo
      exact .inl ⟨_, rfl, rfl, by simp [Instr.next, getObj, Sem.run, hb, hps]⟩
    · rename_i k since seen last hg
      obtain ⟨hps, mo, sa, hb, hsa, q, hq, hmo⟩ := hH.at hg rfl hp
      cases hmo
      split at h
      · rename_i es c hgm
        obtain ⟨fs, hbm, her⟩ := hH.at hgm rfl hq
        split at h
        · cases h
        · rename_i hgone
          rw [← hsa, ← goneE_eq her] at hgone
          have hL := her.left seen
          have hLa : (fs.filter fun e => !sa.contains e.born).toList = fs.toList.filter fun e => !seen.contains e.born := by
            rw [Array.toList_filter, ← hsa]; simp
          rw [← hLa] at hL
          split at h
          · rename_i hle
            cases h
            rw [hle] at hL
            have h0 : (fs.filter fun e => !sa.contains e.born) = #[] := by
              apply Array.ext'
              generalize (Array.filter (fun e => !sa.contains e.born) fs).toList = l at hL
              cases hL; rfl
            refine .inl ⟨_, rfl, rfl, ?_⟩
            simp only [Instr.next, hps, Nat.zero_add, Sem.run_bind, getObj, Sem.run, hb, hbm, Result.andThen, hgone, Bool.false_eq_true, if_false, h0]
            simp [choose, Sem.run, Question.forced]
          · rename_i e hle
            split at h
            · rename_i hbl hcl
              cases h
              rw [hle] at hL
              obtain ⟨f, h0, hfk, hfv, hfb⟩ : ∃ f, (fs.filter fun e => !sa.contains e.born) = #[f] ∧ f.key = e.key ∧ VR M σ e.val f.val ∧ f.born = e.born := by
                generalize hl : (Array.filter (fun e => !sa.contains e.born) fs) = l at hL
                obtain ⟨l⟩ := l
                cases hL with
                | cons a b c d => cases d; exact ⟨_, rfl, a, b, c⟩
              have hlt : f.born < since := by rw [hfb]; exact blt_lt hbl
              have hwr := hH.write (b := .iter (some k) since (seen ++ [e.born]) c) (w' := { w with heap := w.heap.setIfInBounds p.b (.mapIter (some q.b) since (sa.push f.born) c) }) hg rfl hp (fun j hj => iput_other j hj) rfl rfl rfl (by simp) rfl
                ⟨hps, some q.b, sa.push f.born, iput_heap hb, by rw [Array.toList_push, hsa, hfb], q, hq, rfl⟩
              refine .inr ⟨_, _, rfl, .tuple #[.bool true, f.key, f.val], _, ?_, ?_, by rw [Tr.get_upd]; exact hwr.1, by rw [Tr.get_upd]; exact hwr.2⟩
              · have hnl : ¬ since ≤ f.born := by omega
                simp only [Instr.next, hps, Nat.zero_add, Sem.run_bind, getObj, Sem.run, hb, hbm, Result.andThen, hgone, Bool.false_eq_true, if_false, h0]
                simp [choose, Sem.run, Question.forced, hlt, hnl, setObj, hb]
              · rw [hfk]
                exact .tuple (.cons (.bool true) (.cons (VR.of_clean _ hcl) (.cons hfv .nil)))
            · cases h
          · cases h
      · cases h
    · cases h
  · cases h
def lastN : List Nat → Option Nat
  | [] => none
  | [n] => some n
  | _ :: l => lastN l
theorem lastN_eq : ∀ (l : List Nat), lastN l = l.getLast?
  | [] => rfl
  | [n] => rfl
  | n :: m :: l => by rw [List.getLast?_cons_cons, ← lastN_eq (m :: l)]; rfl
def findB (b : Nat) : List MapEntry → Option MapEntry
  | [] => none
  | e :: l => match Nat.beq e.born b with | true => some e | false => findB b l
theorem findB_run {b : Nat} {es fs : List MapEntry} (h : ER M σ es fs) : ∀ {e : MapEntry}, findB b es = some e → ∃ f : MapEntry, fs.find? (·.born == b) = some f ∧ f.key = e.key ∧ VR M σ e.val f.val := by
  induction h with
  | nil => intro e h; cases h
  | cons hk hv hb _ ih =>
    rename_i e0 f0 _ _ _
    intro e he
    simp only [findB] at he
    split at he
    · rename_i hq
      cases he
      have := Nat.eq_of_beq_eq_true hq
      exact ⟨f0, by simp [List.find?_cons, hb, this], hk, hv⟩
    · rename_i hq
      obtain ⟨f, h1, h2⟩ := ih he
      have hne : ¬ e0.born = b := fun q => by rw [q, Nat.beq_refl] at hq; cases hq
      exact ⟨f, by simp [List.find?_cons, hb, hne, h1], h2⟩
def evEntry (it : Value) (H : Tr Blk) : Option Value :=
  match it with
  | .pointer (some ⟨r, 0, none⟩) => match H.get (key r) with
    | some (.iter (some k) _ seen last) => match H.get (key k), lastN seen with
      | some (.map es c), some b => match Nat.beq c last, findB b es with
        | true, some e => match clean e.key with
          | true => some (.tuple ⟨[e.key, e.val]⟩)
          | false => none
        | _, _ => none
      | _, _ => none
    | _ => none
  | _ => none
theorem evEntry_run (hH : HR M σ H.get w) {it it' : Value} (hit : VR M σ it it') {y : Value} (h : evEntry it H = some y) : ∃ u, (Instr.entry it').run P w = .ok u w ∧ VR M σ y u := by
  unfold evEntry at h
  split at h
  · rename_i r0
    cases hit with
    | ptr _ hp =>
    rename_i p
    split at h
    · rename_i k since seen last hg
      obtain ⟨hps, mo, sa, hb, hsa, q, hq, hmo⟩ := hH.at hg rfl hp
      cases hmo
      split at h
      · rename_i es c b hgm hlast
        obtain ⟨fs, hbm, her⟩ := hH.at hgm rfl hq
        split at h
        · rename_i e hc hf
          split at h
          · rename_i hcl
            cases h
            obtain ⟨f, h1, h2, h3⟩ := findB_run her hf
            have hback : sa.back? = some b := by
              rw [lastN_eq, ← hsa] at hlast
              simpa using hlast
            have hcc : (c != last) = false := by rw [Nat.eq_of_beq_eq_true hc]; simp
            have hfs : fs.find? (·.born == b) = some f := by rw [← Array.find?_toList]; exact h1
            refine ⟨.tuple #[f.key, f.val], ?_, ?_⟩
            · simp only [Instr.entry, hps, Nat.zero_add, Sem.run_bind, getObj, Sem.run, hb, hbm, hback, Result.andThen, hcc, Bool.false_eq_true, if_false, hfs]
              rfl
            · rw [h2]; exact .tuple (.cons (VR.of_clean _ hcl) (.cons h3 .nil))
          · cases h
        · cases h
      · cases h
    · cases h
  · cases h
end
end Go.Proofs.Ytdhdaknfmpfegaa.Ev
end
