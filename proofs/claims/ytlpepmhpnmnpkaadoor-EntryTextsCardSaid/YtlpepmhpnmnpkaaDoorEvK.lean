/-
  A checked evaluator, part K: append, copy, maps.
-/
import Derived.Test.YtlpepmhpnmnpkaaDoorEvG
import Derived.Laws.Append
set_option linter.unusedVariables false
set_option linter.unusedSectionVars false
set_option linter.unusedSimpArgs false
namespace Go.Proofs.YtlpepmhpnmnpkaaDoor.Ev
open Go Go.RowKit
variable [Tab]

section
variable {P : Program} {M : Mp} {σ : Nat → Value} {H : Tr Blk} {w : World}
/-! ### append -/
def lenV : Value → Option Nat
  | .slice _ n _ => some n
  | .string s => some s.size
  | _ => none
theorem lenV_run {x u : Value} {n : Nat} (h : lenV x = some n) (hr : VR M σ x u) : (Builtin.lenOf u).run P w = .ok n w := by
  cases hr <;> simp [lenV] at h <;> subst h <;> rfl
/-- the first n elements of a slice or a string -/
def headE (H : Tr Blk) (size n : Nat) : Value → Option (List Value)
  | .slice (some ⟨i, o, _⟩) _ _ => cellsE H i o (n * size)
  | .slice none _ _ => some []
  | .string s => some ((s.extract 0 n).data.toList.map fun b => .int .u8 b.toNat)
  | _ => none
theorem vrs_bytes (l : List UInt8) : VRs M σ (l.map fun b => Value.int .u8 b.toNat) (l.map fun b => Value.int .u8 b.toNat) := by
  induction l with
  | nil => exact .nil
  | cons b l ih => exact .cons (.int _ _) ih
theorem headE_run (hH : HR M σ H.get w) {size n : Nat} {x u : Value} {ys : List Value} (h : headE H size n x = some ys) (hr : VR M σ x u) : ∃ vs : List Value, (Builtin.firstCells size n u).run P w = .ok vs.toArray w ∧ VRs M σ ys vs := by
  cases hr <;> simp only [headE] at h <;> (try (cases h; done))
  case str s => cases h; exact ⟨_, by simp [Builtin.firstCells]; apply Array.ext'; simp, vrs_bytes _⟩
  case nils => cases h; exact ⟨[], by simp [Builtin.firstCells], .nil⟩
  case slice i o l c p hp =>
    obtain ⟨vs, h1, h2, h3⟩ := cellsE_run hH h hp
    have hc := run_loadCells_list (P := P) w ⟨p.b, p.s + o, none⟩ vs (fun j v hv => by rw [addr_add]; exact h3 j v hv)
    rw [h1] at hc
    exact ⟨vs, hc, h2⟩
  case grown i o e l m c p hp _ _ _ =>
    obtain ⟨vs, h1, h2, h3⟩ := cellsE_run hH h hp
    have hc := run_loadCells_list (P := P) w ⟨p.b, p.s + o, none⟩ vs (fun j v hv => by rw [addr_add]; exact h3 j v hv)
    rw [h1] at hc
    exact ⟨vs, hc, h2⟩
/-- cells are written over those of a block of which nothing else is known -/
theorem storeCells_raw : ∀ (vs : List Value) (b off i : Nat) (w : World) (c : Array Value) (t : TypeId) (fr : Nat × Nat), w.heap[b]? = some (.cells c t fr) → (∀ j, j < c.size → (decide (fr.1 ≤ j) && decide (j < fr.2)) = false) → (∀ v ∈ vs, v.oneCell' = true) → off + i + vs.length ≤ c.size →
    ∃ w', (storeCells ⟨b, off, none⟩ vs i).run P w = .ok () w' ∧ (∃ c' : Array Value, w'.heap[b]? = some (.cells c' t fr) ∧ c'.toList = c.toList.take (off + i) ++ vs ++ c.toList.drop (off + i + vs.length)) ∧ (∀ j, j ≠ b → w'.heap[j]? = w.heap[j]?) ∧ w'.os = w.os ∧ w'.tape = w.tape ∧ w'.output = w.output ∧ w'.heap.size = w.heap.size
  | [], b, off, i, w, c, t, fr, hb, hfr, h1, hl => ⟨w, by simp [storeCells], ⟨c, hb, by simp⟩, fun _ _ => rfl, rfl, rfl, rfl, rfl⟩
  | v :: vs, b, off, i, w, c, t, fr, hb, hfr, h1, hl => by
    simp only [List.length_cons] at hl
    have hlt := (Array.getElem?_eq_some_iff.1 hb).1
    have hoi : off + i < c.size := by omega
    have hcell : w.cell? ⟨b, off + i, none⟩ = some c[off + i] := by simp [World.cell?, hb, hoi]
    have hfree : w.frozen? ⟨b, off + i, none⟩ = false := by
      have := hfr _ hoi
      obtain ⟨lo, hi⟩ := fr
      simp only [World.frozen?, hb]
      simpa using this
    have hblk : (w.setCell ⟨b, off + i, none⟩ v).heap[b]? = some (.cells (c.set (off + i) v hoi) t fr) := by
      obtain ⟨_, hk⟩ := Array.getElem?_eq_some_iff.1 hb
      show (w.heap.modify b _)[b]? = _
      rw [Array.getElem?_eq_getElem (by rw [Array.size_modify]; exact hlt), Array.getElem_modify_self, hk]
      simp [Array.setIfInBounds, hoi]
    obtain ⟨w', a1, ⟨c', a2, a3⟩, a4, a5, a6, a7, a8⟩ := storeCells_raw vs b off (i + 1) (w.setCell ⟨b, off + i, none⟩ v) _ t fr hblk (by simpa using hfr) (fun u hu => h1 u (by simp [hu])) (by simp; omega)
    have hone := h1 v (by simp)
    refine ⟨w', ?_, ⟨c', a2, ?_⟩, fun j hj => (a4 j hj).trans (Below.heap_setCell w _ v j hj), a5, a6, a7, by rw [a8]; simp⟩
    · simp only [storeCells, Sem.run_bind, addr_add, run_store _ _ _ _ _ hone, hcell, hfree, Result.andThen_ok, Bool.false_eq_true, if_false]
      exact a1
    · rw [a3]
      have hoi' : off + i < c.toList.length := by simpa using hoi
      simp only [Array.toList_set]
      rw [show off + (i + 1) = off + i + 1 by omega, List.take_succ_eq_append_getElem (by simpa using hoi)]
      simp only [List.getElem_set_self, List.take_set_of_le (Nat.le_refl _)]
      rw [List.drop_set_of_lt (by omega), show off + i + 1 + vs.length = off + i + (vs.length + 1) by omega]
      simp
def grownTo (z n : Nat) (id : Nat) : Value := .slice (some ⟨id, 0, some z⟩) n n
/-- a block is given up -/
theorem HR.kill {H : HP} (h : HR M σ H w) (k : Key) {b : Blk} (hg : H k = some b) : HR M σ (upd H k .dead) w := by
  have hup : ∀ {k' b'}, upd H k .dead k' = some b' → b'.live = true → k' ≠ k ∧ H k' = some b' := fun {k' b'} g l => by
    by_cases e : k' = k
    · subst e; rw [upd_same] at g; cases g; cases l
    · rw [upd_other _ _ e] at g; exact ⟨e, g⟩
  refine ⟨fun k' b' g l => h.blk k' b' (hup g l).2 l, fun k1 k2 b1 b2 p1 p2 g1 l1 g2 l2 m1 m2 e => h.inj k1 k2 b1 b2 p1 p2 (hup g1 l1).2 l1 (hup g2 l2).2 l2 m1 m2 e, fun k' p hp => ?_, fun x hx => ⟨(h.gl x hx).1, fun k' b' p g l m => (h.gl x hx).2 k' b' p (hup g l).2 l m⟩⟩
  by_cases e : k' = k
  · subst e; exact ⟨_, upd_same _ _ _⟩
  · rw [upd_other _ _ e]; exact h.dom k' p hp
theorem Stp.kill {H : HP} (k : Key) {b : Blk} (hg : H k = some b) : Stp M H w M (upd H k .dead) w where
  le := Le.refl _
  os := rfl
  tape := rfl
  output := rfl
  size := Nat.le_refl _
  frame := fun _ _ _ => rfl
  dead := fun k' hk => by
    by_cases e : k' = k
    · subst e; exact upd_same _ _ _
    · rw [upd_other _ _ e]; exact hk
  fresh := fun _ _ h => .inl h
  grow := fun k' b' hb => by
    by_cases e : k' = k
    · subst e; exact ⟨_, upd_same _ _ _⟩
    · rw [upd_other _ _ e]; exact ⟨b', hb⟩
  own := fun k' b' p g l m => by
    by_cases e : k' = k
    · subst e; rw [upd_same] at g; cases g; cases l
    · rw [upd_other _ _ e] at g; exact .inr ⟨k', b', p, g, l, m, rfl⟩
def killO (i : Option Nat) (H : Tr Blk) : Tr Blk := match i with | none => H | some i => H.set (key i) .dead
def appendNew (H : Tr Blk) (nx e z : Nat) (kill : Option Nat) (old news : List Value) (need : Nat) : Option OpR :=
  match (killO kill H).get (key nx), Nat.beq (old ++ news).length (need * z) with
  | none, true => some (.upd (grownTo z need nx) ((killO kill H).set (key nx) (.cells e (old ++ news))) (nx + 1))
  | _, _ => none
def appendIn (H : Tr Blk) (nx i off : Nat) (news : List Value) (v : Value) : Option OpR :=
  match H.get (key i), news.all Value.oneCell' with
  | some (.cells t xs), true => match splice xs off news with
    | some ys => some (.upd v (H.set (key i) (.cells t ys)) nx)
    | none => none
  | _, _ => none
def fitsE (need bytes : Nat) : Bool := Nat.ble need 1073741824 && Nat.ble (need * bytes) 140737488355328
def appNil (e z bytes n : Nat) (news : List Value) (H : Tr Blk) (nx c : Nat) : Option OpR :=
  match Nat.beq n 0 with
  | true => some (.upd (.slice none 0 c) H nx)
  | false => match Nat.blt c n, fitsE n bytes with
    | true, true => appendNew H nx e z none [] news n
    | _, _ => none
def appExact (e z bytes n : Nat) (news : List Value) (H : Tr Blk) (nx b o l c : Nat) : Option OpR :=
  match Nat.ble (l + n) c with
  | true => appendIn H nx b (o + l * z) news (.slice (some ⟨b, o, none⟩) (l + n) c)
  | false => match cellsE H b o (l * z), fitsE (l + n) bytes with
    | some old, true => appendNew H nx e z none old news (l + n)
    | _, _ => none
def appGrown (e z bytes n : Nat) (news : List Value) (H : Tr Blk) (nx b o l m : Nat) : Option OpR :=
  match Nat.ble (l + n) m with
  | true => appendIn H nx b (o + l * z) news (.slice (some ⟨b, o, some z⟩) (l + n) m)
  | false => match H.get (key b), cellsE H b o (l * z), fitsE (l + n) bytes, news.all Value.oneCell' with
    | some (.cells t _), some old, true, true => match Nat.beq t e && !isBld t Tab.table with
      | true => appendNew H nx e z (some b) old news (l + n)
      | false => none
    | _, _, _, _ => none
def appTo (s : Value) (e z bytes n : Nat) (news : List Value) (H : Tr Blk) (nx : Nat) : Option OpR :=
  match s with
  | .slice none l c => match Nat.beq l 0 with
    | true => appNil e z bytes n news H nx c
    | false => none
  | .slice (some ⟨b, o, none⟩) l c => appExact e z bytes n news H nx b o l c
  | .slice (some ⟨b, o, some z'⟩) l m => match Nat.beq z z' with
    | true => appGrown e z bytes n news H nx b o l m
    | false => none
  | _ => none
def evAppend (P : Program) (sT xT : TypeId) (s x : Value) (H : Tr Blk) (nx : Nat) : Option OpR :=
  match P.underlying sT with
  | some (.slice e) => match P.info? e, sizeT P e, zeroE P e with
    | some i, some z, some zero => match Nat.blt 0 z, Nat.beq zero.length z with
      | true, true => match P.underlying xT with
        | some (.int _) => match idx x with
          | some n => match Nat.blt n 1073741824, Nat.ble (n * i.bytes) 281474976710656, cleans (cyc (n * z) zero) with
            | true, true, true => appTo s e z i.bytes n (cyc (n * z) zero) H nx
            | _, _, _ => none
          | none => none
        | none => none
        | some _ => match lenV x with
          | some n => match headE H z n x with
            | some news => appTo s e z i.bytes n news H nx
            | none => none
          | none => none
      | _, _ => none
    | _, _, _ => none
  | _ => none
/-- what append runs to: within the capacity -/
theorem append_in {sT xT ty e : TypeId} {z n sLen sCap : Nat} {base : Option Addr} {x : Value} {d : TypeDesc} {news : List Value} (hs : P.underlying sT = some (.slice e)) (hx : P.underlying xT = some d) (hd : ∀ k, d ≠ .int k) (hz : sizeT P e = some z)
    (hn : (Builtin.lenOf x).run P w = .ok n w) (hf : (Builtin.firstCells z n x).run P w = .ok news.toArray w) (hle : sLen + n ≤ sCap) :
    (Builtin.append_ #[sT, xT] ty #[.slice base sLen sCap, x]).run P w = ((match base with | some a => storeCells (a.add (sLen * z)) news | none => pure () : Sem Unit).run P w).andThen fun _ w' => .ok (.slice base (sLen + n) sCap) w' := by
  have hd' : (match d with | .int _ => true | _ => false) = false := by cases d <;> first | rfl | exact absurd rfl (hd _)
  cases base with
  | none => simp [Builtin.append_, run_underlying' hs, run_underlying' hx, run_sizeOf' hz, hd', hn, hf, hle]
  | some a => simp [Builtin.append_, run_underlying' hs, run_underlying' hx, run_sizeOf' hz, hd', hn, hf, hle]
/-- what append runs to: a new row -/
theorem append_out {sT xT ty e : TypeId} {z n sLen sCap : Nat} {base : Option Addr} {x : Value} {d : TypeDesc} {i : TypeInfo} {zv : Value} {old news : List Value} (hs : P.underlying sT = some (.slice e)) (hx : P.underlying xT = some d) (hd : ∀ k, d ≠ .int k) (hi : P.info? e = some i) (hz : sizeT P e = some z)
    (hzv : ∀ w, (zeroValue e).run P w = .ok zv w) (hzs : zv.cells.size = z)
    (hn : (Builtin.lenOf x).run P w = .ok n w) (hf' : (Builtin.firstCells z n x).run P w.drew = .ok news.toArray w.drew) (ho' : (Builtin.firstCells z sLen (.slice base sLen sCap)).run P w.drew = .ok old.toArray w.drew)
    (hgt : sCap < sLen + n) (hb : (sLen + n) * i.bytes ≤ 140737488355328) (hb63 : sLen + n ≤ 9223372036854775807) :
    ∃ newCap rest, sLen + n ≤ newCap ∧ rest.length = (newCap - (sLen + n)) * z ∧
      (Builtin.append_ #[sT, xT] ty #[.slice base sLen sCap, x]).run P w = .ok (.slice (some ⟨w.heap.size, 0, none⟩) (sLen + n) newCap) (w.drew.alloc (.cells (old ++ news ++ rest).toArray e)) := by
  have hd' : (match d with | .int _ => true | _ => false) = false := by cases d <;> first | rfl | exact absurd rfl (hd _)
  refine ⟨(Question.appendCap (sLen + n) sCap e).cut (w.tape w.drawn (.appendCap (sLen + n) sCap e)), (Builtin.zeroCells zv.cells ((Question.appendCap (sLen + n) sCap e).cut (w.tape w.drawn (.appendCap (sLen + n) sCap e)) - (sLen + n))).toList, by simp [Question.cut], by simp [Builtin.zeroCells, hzs], ?_⟩
  have hnle : ¬ sLen + n ≤ sCap := by omega
  have hfits := growslice_fits hgt hb
  have hfits' : ¬ Builtin.nextslicecap (sLen + n) sCap * i.bytes > 2 ^ 48 := by
    have : (2 : Nat) ^ 48 = 281474976710656 := by decide
    omega
  have hmax : ¬ (((sLen + n : Nat) : Int) > IntKind.i64.max) := by
    have : IntKind.i64.max = 9223372036854775807 := by decide
    rw [this]; omega
  have hforced : (Question.appendCap (sLen + n) sCap e).forced = false := rfl
  simp only [Builtin.append_, Sem.run_bind, run_underlying' hs, run_underlying' hx, Result.andThen_ok, Sem.run_pure, run_sizeOf' hz, hn, run_typeInfo' hi, List.getElem?_toArray, List.getElem?_cons_zero, List.getElem?_cons_succ]
  simp only [hd', Bool.false_eq_true, if_false, hn, Result.andThen_ok, hnle, run_typeInfo' hi, Sem.run_bind, Sem.run_pure, hmax, false_and, hfits', run_choose, hforced, World.drew_eq, run_askRoom, ho', hf', hzv]
  simp [newRow, hf', Builtin.zeroCells]
  congr 2
  apply Array.ext'
  simp [Array.toList_range]
theorem zeros_run {e : TypeId} {zv : Value} {z n : Nat} (hzv : ∀ w, (zeroValue e).run P w = .ok zv w) (hzs : zv.cells.size = z) :
    (if n * z = 0 then Result.ok (#[] : Array Value) w else ((zeroValue e).run P w).andThen fun a w => .ok (Builtin.zeroCells a.cells n) w) = .ok (cyc (n * z) zv.cells.toList).toArray w := by
  by_cases h0 : n * z = 0
  · simp [h0, cyc]
  · simp only [h0, if_false, hzv, Result.andThen_ok]
    rw [← hzs, ← cyc_eq]
    simp [Builtin.zeroCells]
    apply Array.ext'
    simp [Array.toList_range]
/-- the same where zeros are put behind -/
theorem appendz_in {sT xT ty e : TypeId} {z n sLen sCap : Nat} {base : Option Addr} {k k' : IntKind} {i : TypeInfo} {zv : Value} (hs : P.underlying sT = some (.slice e)) (hx : P.underlying xT = some (.int k)) (hi : P.info? e = some i) (hz : sizeT P e = some z)
    (hzv : ∀ w, (zeroValue e).run P w = .ok zv w) (hzs : zv.cells.size = z) (hn : n < 1073741824) (hnb : n * i.bytes ≤ 281474976710656) (hle : sLen + n ≤ sCap) :
    (Builtin.append_ #[sT, xT] ty #[.slice base sLen sCap, .int k' (n : Int)]).run P w = ((match base with | some a => storeCells (a.add (sLen * z)) (cyc (n * z) zv.cells.toList) | none => pure () : Sem Unit).run P w).andThen fun _ w' => .ok (.slice base (sLen + n) sCap) w' := by
  have e1 : ((n : Int) < 0) = False := by simp
  have e2 : ((n : Int) * (i.bytes : Int) > 2 ^ 48) = False := by simp only [eq_iff_iff, iff_false, gt_iff_lt, Int.not_lt]; norm_cast
  simp only [Builtin.append_, List.getElem?_toArray, List.getElem?_cons_zero, List.getElem?_cons_succ, Sem.run_bind, run_underlying' hs, run_underlying' hx, Result.andThen_ok, Sem.run_pure, run_sizeOf' hz]
  simp only [if_true, asInt, asIntOf, Sem.run_bind, Sem.run_pure, Result.andThen_ok, wrap_small hn, run_typeInfo' hi, Sem.run_ite, e1, e2, if_false, Int.toNat_natCast, Bool.not_true, Bool.false_eq_true, hle]
  rw [zeros_run hzv hzs]
  cases base <;> simp
theorem appendz_out {sT xT ty e : TypeId} {z n sLen sCap : Nat} {base : Option Addr} {k k' : IntKind} {i : TypeInfo} {zv : Value} {old : List Value} (hs : P.underlying sT = some (.slice e)) (hx : P.underlying xT = some (.int k)) (hi : P.info? e = some i) (hz : sizeT P e = some z)
    (hzv : ∀ w, (zeroValue e).run P w = .ok zv w) (hzs : zv.cells.size = z) (hn : n < 1073741824) (hnb : n * i.bytes ≤ 281474976710656)
    (ho' : (Builtin.firstCells z sLen (.slice base sLen sCap)).run P w.drew = .ok old.toArray w.drew)
    (hgt : sCap < sLen + n) (hb : (sLen + n) * i.bytes ≤ 140737488355328) (hb63 : sLen + n ≤ 9223372036854775807) :
    ∃ newCap rest, sLen + n ≤ newCap ∧ rest.length = (newCap - (sLen + n)) * z ∧
      (Builtin.append_ #[sT, xT] ty #[.slice base sLen sCap, .int k' (n : Int)]).run P w = .ok (.slice (some ⟨w.heap.size, 0, none⟩) (sLen + n) newCap) (w.drew.alloc (.cells (old ++ cyc (n * z) zv.cells.toList ++ rest).toArray e)) := by
  have e1 : ((n : Int) < 0) = False := by simp
  have e2 : ((n : Int) * (i.bytes : Int) > 2 ^ 48) = False := by simp only [eq_iff_iff, iff_false, gt_iff_lt, Int.not_lt]; norm_cast
  refine ⟨(Question.appendCap (sLen + n) sCap e).cut (w.tape w.drawn (.appendCap (sLen + n) sCap e)), (Builtin.zeroCells zv.cells ((Question.appendCap (sLen + n) sCap e).cut (w.tape w.drawn (.appendCap (sLen + n) sCap e)) - (sLen + n))).toList, by simp [Question.cut], by simp [Builtin.zeroCells, hzs], ?_⟩
  have hnle : ¬ sLen + n ≤ sCap := by omega
  have hfits := growslice_fits hgt hb
  have hfits' : ¬ Builtin.nextslicecap (sLen + n) sCap * i.bytes > 2 ^ 48 := by
    have : (2 : Nat) ^ 48 = 281474976710656 := by decide
    omega
  have hmax : ¬ (((sLen + n : Nat) : Int) > IntKind.i64.max) := by
    have : IntKind.i64.max = 9223372036854775807 := by decide
    rw [this]; omega
  have hforced : (Question.appendCap (sLen + n) sCap e).forced = false := rfl
  simp only [Builtin.append_, List.getElem?_toArray, List.getElem?_cons_zero, List.getElem?_cons_succ, Sem.run_bind, run_underlying' hs, run_underlying' hx, Result.andThen_ok, Sem.run_pure, run_sizeOf' hz]
  simp only [if_true, asInt, asIntOf, Sem.run_bind, Sem.run_pure, Result.andThen_ok, wrap_small hn, run_typeInfo' hi, Sem.run_ite, e1, e2, if_false, Int.toNat_natCast, Bool.not_true, Bool.false_eq_true, hnle, hmax, false_and, hfits', run_choose, hforced, World.drew_eq, run_askRoom, ho', hzv]
  have hz0 := zeros_run (w := w.drew) (n := n) hzv hzs
  simp only [hzv, Result.andThen_ok] at hz0
  rw [hz0]
  simp [newRow, Builtin.zeroCells]
  congr 2
  apply Array.ext'
  simp [Array.toList_range]
def sameT (H : Tr Blk) (b e : Nat) : Bool := match H.get (key b) with | some (.cells t _) => Nat.beq t e | _ => false
/-- the row that append makes -/
theorem appendNew_ok {H : Tr Blk} {w0 : World} {M0 : Mp} {H0 : HP} (hH : HR M σ H.get w) (hS : Stp M0 H0 w0 M H.get w) {nx e z need : Nat} {old news : List Value} {r : OpR} (h : appendNew H nx e z none old news need = some r)
    {old' news' rest : List Value} (ho : VRs M σ old old') (hn : VRs M σ news news') {newCap : Nat} (hc : need ≤ newCap) (hr : rest.length = (newCap - need) * z) (h0 : H0 (key nx) = none) :
    ∃ H', r = .upd (grownTo z need nx) H' (nx + 1) ∧ ∃ M', VR M' σ (grownTo z need nx) (.slice (some ⟨w.heap.size, 0, none⟩) need newCap) ∧ HR M' σ H'.get (w.drew.alloc (.cells (old' ++ news' ++ rest).toArray e)) ∧ Stp M0 H0 w0 M' H'.get (w.drew.alloc (.cells (old' ++ news' ++ rest).toArray e)) := by
  unfold appendNew at h
  split at h
  · rename_i hf hl
    cases h
    have hl := Nat.eq_of_beq_eq_true hl
    simp only [killO] at hf
    have hM := hH.unplaced hf
    have hno := (ho.append hn)
    have hlen : (old' ++ news').length = need * z := by rw [← hno.length]; exact hl
    have hsz : (old' ++ news' ++ rest).toArray.size = newCap * z := by
      have : need * z + (newCap - need) * z = newCap * z := by rw [← Nat.add_mul]; congr 1; omega
      simp only [List.size_toArray, List.length_append] at hlen ⊢
      omega
    have hle := ins_le hM ⟨w.heap.size, 0, newCap * z⟩
    have hb : BR (ins M (key nx) ⟨w.drew.heap.size, 0, newCap * z⟩) σ (.cells e (old ++ news)) ⟨w.drew.heap.size, 0, newCap * z⟩ (w.drew.alloc (.cells (old' ++ news' ++ rest).toArray e)) := by
      have := BR.row (M := ins M (key nx) ⟨w.drew.heap.size, 0, newCap * z⟩) (σ := σ) (w := w.drew) (t := e) (xs := old ++ news) (vs := (old' ++ news' ++ rest).toArray) (by
        rw [hsz]; rw [hl]; exact Nat.mul_le_mul_right _ hc) fun j x hx => by
        obtain ⟨v, hv, hr'⟩ := hno.get hx
        refine ⟨v, ?_, hr'.mono hle⟩
        have hj := (List.getElem?_eq_some_iff.1 hv).1
        simp only [List.getElem?_toArray]
        rw [List.getElem?_append_left hj]; exact hv
      rw [hsz] at this
      exact this
    refine ⟨_, rfl, ins M (key nx) ⟨w.drew.heap.size, 0, newCap * z⟩, ?_, ?_, ?_⟩
    · have := VR.grown (σ := σ) 0 z need need newCap (ins_same M (key nx) ⟨w.drew.heap.size, 0, newCap * z⟩) (Nat.le_refl _) hc (by simp)
      simpa [grownTo] using this
    · rw [killO, Tr.get_upd]; exact hH.drew.make hM hb
    · rw [killO, Tr.get_upd]; exact (hS.trans Stp.drew).alloc hM h0 _ _ _
  · cases h
theorem appendIn_ok (hH : HR M σ H.get w) {nx i off : Nat} {news : List Value} {v : Value} {r : OpR} (h : appendIn H nx i off news v = some r) {p : Place} (hp : M (key i) = some p) {news' : List Value} (hn : VRs M σ news news') {u : Value} (hu : VR M σ v u) :
    ∃ H' w', r = .upd v H' nx ∧ (storeCells ⟨p.b, p.s + off, none⟩ news').run P w = .ok () w' ∧ HR M σ H'.get w' ∧ Stp M H.get w M H'.get w' := by
  unfold appendIn at h
  split at h
  · rename_i t xs hg hone
    split at h
    · rename_i ys hys
      cases h
      obtain ⟨h1, h2⟩ := splice_eq hys
      obtain ⟨w', b1, b2, b3⟩ := storeCells_run (P := P) hp news news' xs off 0 H.get w hH hg hn (fun y hy => List.all_eq_true.1 hone y hy) (by omega)
      subst h2
      exact ⟨_, w', rfl, b1, by rw [Tr.get_upd]; exact b2, by rw [Tr.get_upd]; exact b3⟩
    · cases h
  · cases h
theorem vrs_one {xs vs : List Value} (h : VRs M σ xs vs) (h1 : xs.all Value.oneCell' = true) : ∀ v ∈ vs, v.oneCell' = true := by
  intro v hv
  obtain ⟨j, hj, rfl⟩ := List.mem_iff_getElem.1 hv
  have hx : xs[j]? = some (xs[j]'(by rw [h.length]; exact hj)) := List.getElem?_eq_getElem _
  obtain ⟨v', hv', hr⟩ := h.get hx
  rw [List.getElem?_eq_getElem hj] at hv'; cases hv'
  exact hr.one (List.all_eq_true.1 h1 _ (List.getElem_mem _))
/-- what is known of the element's type and of what is put behind -/
structure AC (P : Program) (M : Mp) (σ : Nat → Value) (H : Tr Blk) (w : World) (sT xT ty e z bytes n : Nat) (x : Value) (news : List Value) : Prop where
  hH : HR M σ H.get w
  inn : ∃ news' : List Value, VRs M σ news news' ∧ ∀ base sLen sCap, sLen + n ≤ sCap → (Builtin.append_ #[sT, xT] ty #[.slice base sLen sCap, x]).run P w = ((match base with | some a => storeCells (a.add (sLen * z)) news' | none => pure () : Sem Unit).run P w).andThen fun _ w' => .ok (.slice base (sLen + n) sCap) w'
  out : ∃ news' : List Value, VRs M σ news news' ∧ ∀ base sLen sCap (old : List Value), (Builtin.firstCells z sLen (.slice base sLen sCap)).run P w.drew = .ok old.toArray w.drew → sCap < sLen + n → (sLen + n) * bytes ≤ 140737488355328 → sLen + n ≤ 9223372036854775807 →
    ∃ newCap rest, sLen + n ≤ newCap ∧ rest.length = (newCap - (sLen + n)) * z ∧ (Builtin.append_ #[sT, xT] ty #[.slice base sLen sCap, x]).run P w = .ok (.slice (some ⟨w.heap.size, 0, none⟩) (sLen + n) newCap) (w.drew.alloc (.cells (old ++ news' ++ rest).toArray e))
/-- what append comes to -/
def AD (P : Program) (M : Mp) (σ : Nat → Value) (H : Tr Blk) (w : World) (sT xT ty : TypeId) (s x : Value) (r : OpR) : Prop :=
  ∃ v H' nx', r = .upd v H' nx' ∧ ∃ u M' w', (Builtin.append_ #[sT, xT] ty #[s, x]).run P w = .ok u w' ∧ VR M' σ v u ∧ HR M' σ H'.get w' ∧ Stp M H.get w M' H'.get w'
theorem fits_spec {need bytes : Nat} (h : fitsE need bytes = true) : need ≤ 1073741824 ∧ need * bytes ≤ 140737488355328 := by
  unfold fitsE at h
  rw [Bool.and_eq_true] at h
  exact ⟨Nat.le_of_ble_eq_true h.1, Nat.le_of_ble_eq_true h.2⟩
theorem appendNew_free {nx e z need : Nat} {old news : List Value} {r : OpR} (h : appendNew H nx e z none old news need = some r) : H.get (key nx) = none := by
  unfold appendNew at h
  split at h
  · rename_i hf _; simpa [killO] using hf
  · cases h
section
variable {sT xT ty e z bytes n : Nat} {x : Value} {news : List Value}
theorem appNil_ok (ac : AC P M σ H w sT xT ty e z bytes n x news) {nx c : Nat} {r : OpR} (h : appNil e z bytes n news H nx c = some r) : AD P M σ H w sT xT ty (.slice none 0 c) x r := by
  unfold appNil at h
  split at h
  · rename_i hn0
    cases h
    have := Nat.eq_of_beq_eq_true hn0
    subst this
    obtain ⟨news', hnr, hf⟩ := ac.inn
    refine ⟨_, _, _, rfl, .slice none 0 c, M, w, ?_, .nils _ _, ac.hH, Stp.refl _ _ _⟩
    rw [hf _ _ _ (by omega)]
    simp
  · split at h
    · rename_i hcn hfit
      have hcn := blt_lt hcn
      obtain ⟨f1, f2⟩ := fits_spec hfit
      obtain ⟨news', hnr, hf⟩ := ac.out
      obtain ⟨newCap, rest, a1, a2, a3⟩ := hf none 0 c [] (by simp [Builtin.firstCells]) (by omega) (by simpa using f2) (by omega)
      rw [Nat.zero_add] at a1 a2 a3
      obtain ⟨H', rfl, M', b1, b2, b3⟩ := appendNew_ok ac.hH (Stp.refl _ _ _) h .nil hnr a1 a2 (appendNew_free h)
      exact ⟨_, _, _, rfl, _, M', _, a3, b1, b2, b3⟩
    · cases h
theorem appExact_ok (ac : AC P M σ H w sT xT ty e z bytes n x news) {nx b o l c : Nat} {p : Place} (hp : M (key b) = some p) {r : OpR} (h : appExact e z bytes n news H nx b o l c = some r) : AD P M σ H w sT xT ty (.slice (some ⟨p.b, p.s + o, none⟩) l c) x r := by
  unfold appExact at h
  split at h
  · rename_i hle
    have hle := Nat.le_of_ble_eq_true hle
    obtain ⟨news', hnr, hf⟩ := ac.inn
    obtain ⟨H', w', rfl, a1, a2, a3⟩ := appendIn_ok (P := P) ac.hH h hp hnr (.slice o (l + n) c hp)
    refine ⟨_, _, _, rfl, _, M, w', ?_, .slice o (l + n) c hp, a2, a3⟩
    rw [hf _ _ _ hle]
    simp only [addr_add, Nat.add_assoc] at a1 ⊢
    rw [a1]; rfl
  · rename_i hle
    have hle : c < l + n := by
      rcases Nat.lt_or_ge c (l + n) with h | h
      · exact h
      · rw [Nat.ble_eq_true_of_le h] at hle; cases hle
    split at h
    · rename_i old hold hfit
      obtain ⟨f1, f2⟩ := fits_spec hfit
      obtain ⟨news', hnr, hf⟩ := ac.out
      obtain ⟨old', ho, hor⟩ := headE_run (P := P) (size := z) (n := l) (x := .slice (some ⟨b, o, none⟩) l c) ac.hH.drew hold (.slice o l c hp)
      obtain ⟨newCap, rest, a1, a2, a3⟩ := hf _ l c old' ho hle f2 (by omega)
      obtain ⟨H', rfl, M', b1, b2, b3⟩ := appendNew_ok ac.hH (Stp.refl _ _ _) h hor hnr a1 a2 (appendNew_free h)
      exact ⟨_, _, _, rfl, _, M', _, a3, b1, b2, b3⟩
    · cases h
theorem appGrown_ok (ac : AC P M σ H w sT xT ty e z bytes n x news) {nx b o l m c : Nat} {p : Place} (hp : M (key b) = some p) (hlm : l ≤ m) (hmc : m ≤ c) (hcn : p.s + o + c * z ≤ p.n) {r : OpR} (h : appGrown e z bytes n news H nx b o l m = some r) :
    AD P M σ H w sT xT ty (.slice (some ⟨p.b, p.s + o, none⟩) l c) x r := by
  unfold appGrown at h
  split at h
  · rename_i hle
    have hle := Nat.le_of_ble_eq_true hle
    obtain ⟨news', hnr, hf⟩ := ac.inn
    have hv : VR M σ (.slice (some ⟨b, o, some z⟩) (l + n) m) (.slice (some ⟨p.b, p.s + o, none⟩) (l + n) c) := .grown o z (l + n) m c hp hle hmc hcn
    obtain ⟨H', w', rfl, a1, a2, a3⟩ := appendIn_ok (P := P) ac.hH h hp hnr hv
    refine ⟨_, _, _, rfl, _, M, w', ?_, hv, a2, a3⟩
    rw [hf _ _ _ (by omega)]
    simp only [addr_add, Nat.add_assoc] at a1 ⊢
    rw [a1]; rfl
  · split at h
    · rename_i t xs old hg hold hfit hone
      split at h
      · rename_i hte
        rw [Bool.and_eq_true, Bool.not_eq_true'] at hte
        obtain ⟨hte, hnb⟩ := hte
        have := Nat.eq_of_beq_eq_true hte
        subst this
        obtain ⟨f1, f2⟩ := fits_spec hfit
        have hk := ac.hH.kill (key b) hg
        have hks := Stp.kill (M := M) (w := w) (key b) hg
        have hfree : (upd H.get (key b) .dead) (key nx) = none := by
          unfold appendNew at h
          split at h
          · rename_i hf _; simpa [killO, Tr.get_upd] using hf
          · cases h
        have hfree0 : H.get (key nx) = none := by
          cases hh : H.get (key nx) with
          | none => rfl
          | some bb => obtain ⟨b', hb'⟩ := hks.grow _ _ hh; rw [hfree] at hb'; cases hb'
        have h' : appendNew (H.set (key b) .dead) nx t z none old news (l + n) = some r := by
          unfold appendNew at h ⊢; exact h
        rcases Nat.lt_or_ge c (l + n) with hgt | hle
        · obtain ⟨news', hnr, hf⟩ := ac.out
          obtain ⟨old', ho, hor⟩ := headE_run (P := P) (size := z) (n := l) (x := .slice (some ⟨b, o, none⟩) l c) ac.hH.drew hold (.slice o l c hp)
          obtain ⟨newCap, rest, a1, a2, a3⟩ := hf _ l c old' ho hgt f2 (by omega)
          obtain ⟨H', rfl, M', b1, b2, b3⟩ := appendNew_ok (H := H.set (key b) .dead) (by rw [Tr.get_upd]; exact hk) (by rw [Tr.get_upd]; exact hks) h' hor hnr a1 a2 hfree0
          exact ⟨_, _, _, rfl, _, M', _, a3, b1, b2, b3⟩
        · obtain ⟨news', hnr, hf⟩ := ac.inn
          obtain ⟨cs, fr, c1, c2, csd, c3, c4, c5⟩ := ac.hH.at hg rfl hp
          obtain ⟨old', o1, o2, o3⟩ := cellsE_run ac.hH hold hp
          unfold appendNew at h'
          split at h'
          · rename_i hf' hl'
            cases h'
            have hl' := Nat.eq_of_beq_eq_true hl'
            have hnews' : news'.length = n * z := by
              have e1 := hnr.length
              have e2 := o2.length
              simp only [List.length_append] at hl'
              rw [Nat.add_mul] at hl'
              omega
            have hnz : l * z + n * z ≤ c * z := by rw [← Nat.add_mul]; exact Nat.mul_le_mul_right _ hle
            obtain ⟨w', q1, ⟨cs', q2, q3⟩, q4, q5, q6, q7, q8⟩ := storeCells_raw (P := P) news' p.b (p.s + o + l * z) 0 w cs t fr c1 c2.no (vrs_one hnr hone) (by rw [hnews', c3]; omega)
            have hMn := ac.hH.unplaced hfree0
            have hle2 := ins_le hMn ⟨p.b, p.s + o, p.n⟩
            have hlive : ∀ k' b' q, (upd H.get (key b) .dead) k' = some b' → b'.live = true → M k' = some q → q.b ≠ p.b := by
              intro k' b' q g lv mk e'
              by_cases ek : k' = key b
              · subst ek; rw [upd_same] at g; cases g; cases lv
              · rw [upd_other _ _ ek] at g
                exact ek (ac.hH.inj k' (key b) b' _ q p g lv hg rfl mk hp e')
            have hng : ∀ x ∈ Tab.globs, p.b ≠ x.1 := fun x hx => (ac.hH.gl x hx).2 _ _ p hg rfl hp
            have hk' : HR M σ (upd H.get (key b) .dead) w' := hk.keep (fun k' b' q g lv mk => q4 _ (hlive k' b' q g lv mk)) fun x hx => q4 _ (hng x hx).symm
            have hcs' : cs'.size = cs.size := by
              have := congrArg List.length q3
              simp only [List.length_append, List.length_take, List.length_drop, Array.length_toList] at this
              rw [hnews'] at this
              omega
            have hb : BR (ins M (key nx) ⟨p.b, p.s + o, p.n⟩) σ (.cells t (old ++ news)) ⟨p.b, p.s + o, p.n⟩ w' := by
              refine ⟨cs', fr, q2, by rw [hcs']; exact c2, fun hbl => (by rw [hbl] at hnb; cases hnb), by rw [hcs']; exact c3, by rw [hl', Nat.add_mul]; show p.s + o + (l * z + n * z) ≤ p.n; omega, fun j y hy => ?_⟩
              obtain ⟨v, hv, hvr⟩ := (o2.append hnr).get hy
              refine ⟨v, ?_, hvr.mono hle2⟩
              have hget : cs'[p.s + o + j]? = cs'.toList[p.s + o + j]? := by simp
              rw [hget, q3]
              have hlen1 : (cs.toList.take (p.s + o + l * z + 0)).length = p.s + o + l * z := by simp; omega
              by_cases hj : j < l * z
              · rw [List.append_assoc, List.getElem?_append_left (by omega), List.getElem?_take_of_lt (by omega)]
                rw [List.getElem?_append_left (by omega)] at hv
                have := o3 j v hv
                simp only [World.cell?, c1] at this
                simpa using this
              · rw [List.append_assoc, List.getElem?_append_right (by omega), hlen1]
                rw [List.getElem?_append_right (by omega), o1] at hv
                have hj2 := (List.getElem?_eq_some_iff.1 hv).1
                rw [List.getElem?_append_left (by omega), show p.s + o + j - (p.s + o + l * z) = j - l * z by omega]
                exact hv
            have hfin := hk'.adopt (p := ⟨p.b, p.s + o, p.n⟩) hMn hlive hng hb
            refine ⟨_, _, _, rfl, .slice (some ⟨p.b, p.s + o, none⟩) (l + n) c, ins M (key nx) ⟨p.b, p.s + o, p.n⟩, w', ?_, ?_, by rw [killO, Tr.get_upd, Tr.get_upd]; exact hfin, ?_⟩
            · rw [hf _ _ _ hle]
              simp only [addr_add]
              rw [q1]; rfl
            · have := VR.grown (σ := σ) 0 z (l + n) (l + n) c (ins_same M (key nx) ⟨p.b, p.s + o, p.n⟩) (Nat.le_refl _) hle (by simpa using hcn)
              simpa [grownTo] using this
            · rw [killO, Tr.get_upd, Tr.get_upd]
              refine ⟨hle2, q5, q6, q7, by omega, fun j hj hno => q4 j fun e' => hno (key b) _ p hg rfl hp e'.symm, fun k' hk0 => ?_, fun k' q hq => ?_, fun k' b' hb' => ?_, fun k' b' q g lv mk => ?_⟩
              · have e1 : k' ≠ key nx := by rintro rfl; rw [hfree0] at hk0; cases hk0
                rw [upd_other _ _ e1]; exact hks.dead k' hk0
              · by_cases e1 : k' = key nx
                · subst e1; exact .inr hfree0
                · simp only [ins, e1, if_false] at hq; exact .inl hq
              · have e1 : k' ≠ key nx := by rintro rfl; rw [hfree0] at hb'; cases hb'
                rw [upd_other _ _ e1]; exact hks.grow k' b' hb'
              · by_cases e1 : k' = key nx
                · subst e1
                  rw [ins_same] at mk; cases mk
                  exact .inr ⟨key b, _, p, hg, rfl, hp, rfl⟩
                · rw [upd_other _ _ e1] at g
                  simp only [ins, e1, if_false] at mk
                  exact hks.own k' b' q g lv mk
          · cases h'
      · cases h
    · cases h
end
theorem appTo_ok {sT xT ty e z bytes n : Nat} {news : List Value} {s s' x' : Value} (ac : AC P M σ H w sT xT ty e z bytes n x' news) (hs : VR M σ s s') {nx : Nat} {r : OpR} (h : appTo s e z bytes n news H nx = some r) : AD P M σ H w sT xT ty s' x' r := by
  unfold appTo at h
  split at h
  · split at h
    · rename_i hl0
      have := Nat.eq_of_beq_eq_true hl0
      subst this
      cases hs
      exact appNil_ok ac h
    · cases h
  · cases hs with
    | slice _ _ _ hp => exact appExact_ok ac hp h
  · split at h
    · rename_i hzz
      have := Nat.eq_of_beq_eq_true hzz
      subst this
      cases hs with
      | grown _ _ _ _ c hp a b c' => exact appGrown_ok ac hp a b c' h
    · cases h
  · cases h
theorem evAppend_ok (hH : HR M σ H.get w) {sT xT ty : TypeId} {s x s' x' : Value} (hs : VR M σ s s') (hx : VR M σ x x') {nx : Nat} {r : OpR} (h : evAppend P sT xT s x H nx = some r) : AD P M σ H w sT xT ty s' x' r := by
  unfold evAppend at h
  split at h
  · rename_i e hue
    split at h
    · rename_i i z zero hi hz hzero
      split at h
      · rename_i h1 h2
        have hzl := Nat.eq_of_beq_eq_true h2
        have hin : ∃ zv : Value, (∀ w, (zeroValue e).run P w = .ok zv w) ∧ zv.cells.size = z ∧ zv.cells.toList = zero := by
          unfold zeroE at hzero
          split at hzero
          · rename_i i' hi'
            rw [hi] at hi'; cases hi'
            split at hzero
            · rename_i zv hzv
              split at hzero
              · cases hzero
                exact ⟨zv, fun w => by simp [zeroValue, run_typeInfo' hi, hzv], by simpa using hzl, rfl⟩
              · cases hzero
            · cases hzero
          · cases hzero
        obtain ⟨zv, hzv, hzs, hzz⟩ := hin
        split at h
        · rename_i k hux
          split at h
          · rename_i n hn
            split at h
            · rename_i g1 g2 g3
              have g1 := blt_lt g1
              have g2 := Nat.le_of_ble_eq_true g2
              obtain ⟨k', rfl⟩ := idx_eq hn hx
              have hcl : VRs M σ (cyc (n * z) zero) (cyc (n * z) zero) := VRs.of_clean _ g3
              refine appTo_ok ⟨hH, ⟨_, hcl, ?_⟩, ⟨_, hcl, ?_⟩⟩ hs h
              · intro base sLen sCap hle
                rw [← hzz]; exact appendz_in hue hux hi hz hzv hzs g1 g2 hle
              · intro base sLen sCap old ho hgt hb hb63
                rw [← hzz]; exact appendz_out hue hux hi hz hzv hzs g1 g2 ho hgt hb hb63
            · cases h
          · cases h
        · cases h
        · rename_i d hd hux
          split at h
          · rename_i n hn
            split at h
            · rename_i news hnews
              have hln := lenV_run (P := P) (w := w) hn hx
              obtain ⟨n1, hf1, hr1⟩ := headE_run (P := P) hH hnews hx
              obtain ⟨n2, hf2, hr2⟩ := headE_run (P := P) hH.drew hnews hx
              refine appTo_ok ⟨hH, ⟨n1, hr1, ?_⟩, ⟨n2, hr2, ?_⟩⟩ hs h
              · intro base sLen sCap hle
                exact append_in hue hux (fun k e => hd k e) hz hln hf1 hle
              · intro base sLen sCap old ho hgt hb hb63
                exact append_out hue hux (fun k e => hd k e) hi hz hzv hzs hln hf2 ho hgt hb hb63
            · cases h
          · cases h
      · cases h
    · cases h
  · cases h
end
end Go.Proofs.YtlpepmhpnmnpkaaDoor.Ev
