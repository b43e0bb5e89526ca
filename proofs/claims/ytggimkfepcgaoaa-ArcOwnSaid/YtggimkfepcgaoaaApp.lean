/-
  Rows: blocks whose first n cells are known; worlds that keep all but one block.
-/
import Derived.Test.YtggimkfepcgaoaaKit
import Derived.Deep.RegionWith
import Derived.Test.YtggimkfepcgaoaaProg
import Derived.Maps.AppendAt
import Derived.Lib.AppendZeros
set_option linter.unusedVariables false
set_option linter.unusedSimpArgs false
section
namespace Go.Proofs.Ytggimkfepcgaoaa.Kit
open Go.RowKit
/-- block q starts with the cells f 0 .. f (n - 1) -/
def Row (W : World) (q n : Nat) (t : TypeId) (f : Nat → Value) : Prop := ∃ cs : Array Value, W.heap[q]? = some (.cells cs t (0, 0)) ∧ n ≤ cs.size ∧ ∀ i, i < n → cs[i]? = some (f i)
theorem Row.lt {W : World} {q n : Nat} {t : TypeId} {f : Nat → Value} (h : Row W q n t f) : q < W.heap.size := by
  obtain ⟨cs, h1, -⟩ := h; exact (Array.getElem?_eq_some_iff.1 h1).1
theorem Row.cell {W : World} {q n : Nat} {t : TypeId} {f : Nat → Value} (h : Row W q n t f) (i : Nat) (hi : i < n) : W.cell? ⟨q, i, none⟩ = some (f i) := by
  obtain ⟨cs, h1, h2, h3⟩ := h; simp [World.cell?, h1]; simpa using h3 i hi
theorem Row.fr {W : World} {q n : Nat} {t : TypeId} {f : Nat → Value} (h : Row W q n t f) (i : Nat) : W.frozen? ⟨q, i, none⟩ = false := by
  obtain ⟨cs, h1, h2, h3⟩ := h; simp [World.frozen?, h1]
theorem Row.of_block {W W' : World} {q n : Nat} {t : TypeId} {f : Nat → Value} (h : Row W q n t f) (hb : W'.heap[q]? = W.heap[q]?) : Row W' q n t f := by
  obtain ⟨cs, h1, h2⟩ := h; exact ⟨cs, hb.trans h1, h2⟩
theorem Row.below {W W' : World} {q n : Nat} {t : TypeId} {f : Nat → Value} (h : Row W q n t f) (hb : Below W.heap.size W W') : Row W' q n t f := h.of_block (hb.block q h.lt)
theorem Row.alloc {W : World} {q n : Nat} {t : TypeId} {f : Nat → Value} (h : Row W q n t f) (o : Obj) : Row (W.alloc o) q n t f := h.of_block (Below.heap_alloc W o q h.lt)
theorem Row.other {W : World} {q n : Nat} {t : TypeId} {f : Nat → Value} (h : Row W q n t f) {a : Addr} (hne : q ≠ a.block) (v : Value) : Row (W.setCell a v) q n t f := h.of_block (Below.heap_setCell W a v q hne)
theorem Row.congr {W : World} {q n : Nat} {t : TypeId} {f g : Nat → Value} (h : Row W q n t f) (he : ∀ i, i < n → f i = g i) : Row W q n t g := by
  obtain ⟨cs, h1, h2, h3⟩ := h; exact ⟨cs, h1, h2, fun i hi => by rw [h3 i hi, he i hi]⟩
theorem Row.set {W : World} {q n : Nat} {t : TypeId} {f : Nat → Value} (h : Row W q n t f) (i : Nat) (v : Value) : Row (W.setCell ⟨q, i, none⟩ v) q n t (fun j => if j = i then v else f j) := by
  obtain ⟨cs, h1, h2, h3⟩ := h
  obtain ⟨hlt, hk⟩ := Array.getElem?_eq_some_iff.1 h1
  refine ⟨cs.setIfInBounds i v, ?_, by simpa using h2, fun j hj => ?_⟩
  · show (W.heap.modify q _)[q]? = _
    rw [Array.getElem?_eq_getElem (by rw [Array.size_modify]; exact hlt), Array.getElem_modify_self, hk]
    rfl
  · rw [Array.getElem?_setIfInBounds]
    by_cases hji : i = j
    · subst hji; rw [if_pos rfl, if_pos (by omega)]; simp
    · rw [if_neg hji, h3 j hj]; simp [Ne.symm hji]
theorem Row.new (W : World) (cs : Array Value) (t : TypeId) (n : Nat) (f : Nat → Value) (h1 : n ≤ cs.size) (h2 : ∀ i, i < n → cs[i]? = some (f i)) : Row (W.alloc (.cells cs t)) W.heap.size n t f :=
  ⟨cs, (MapKept.heap_alloc W _).1, h1, h2⟩
theorem Row.made (W : World) (z : Value) (hz : z.cells = #[z]) (n : Nat) (t : TypeId) : Row (W.alloc (.cells (madeCells z.cells n) t)) W.heap.size n t (fun _ => z) := by
  refine Row.new W _ t n _ (by simp [madeCells]) fun i hi => ?_
  rw [hz]; simp [madeCells, hi, Nat.mod_one]
/-- an owned row is nil and empty, or a row -/
theorem own_row {w : World} {base n : Nat} {e : TypeId} {v : Value} {xs : List Value} (h : w.ownsRow base e 1 v n xs) (hx : xs.length = n) :
    (v = .slice none 0 0 ∧ n = 0) ∨ ∃ g cap, v = .slice (some ⟨g, 0, none⟩) n cap ∧ base ≤ g ∧ n ≤ cap ∧ cap ≤ maxLen ∧ Row w g n e (fun i => xs.getD i (.int .i64 0)) := by
  obtain ⟨_, ⟨hv, hn⟩ | ⟨g, cap, cur, hv, hb, hg, hc, hm, hs, ht⟩⟩ := h
  · exact .inl ⟨hv, hn⟩
  · refine .inr ⟨g, cap, hv, hb, hc, hm, cur, hg, by omega, fun i hi => ?_⟩
    have h2 : (cur.toList.take (n * 1))[i]? = xs[i]? := by rw [ht]
    rw [List.getElem?_take_of_lt (by omega)] at h2
    have h3 : cur[i]? = xs[i]? := by simpa using h2
    rw [h3]
    show xs[i]? = some (xs.getD i (.int .i64 0))
    rw [List.getD_eq_getElem?_getD, List.getElem?_eq_getElem (by omega)]; rfl

/-- all but block b is kept -/
structure But (b : Nat) (w w' : World) : Prop where
  os : w'.os = w.os
  tape : w'.tape = w.tape
  output : w'.output = w.output
  size : w.heap.size ≤ w'.heap.size
  block : ∀ k, k < w.heap.size → k ≠ b → w'.heap[k]? = w.heap[k]?
theorem But.refl (b : Nat) (w : World) : But b w w := ⟨rfl, rfl, rfl, Nat.le_refl _, fun _ _ _ => rfl⟩
theorem But.trans {b : Nat} {x y z : World} (h : But b x y) (k : But b y z) : But b x z :=
  ⟨k.os.trans h.os, k.tape.trans h.tape, k.output.trans h.output, Nat.le_trans h.size k.size, fun i hi hn => (k.block i (Nat.lt_of_lt_of_le hi h.size) hn).trans (h.block i hi hn)⟩
theorem But.of {b : Nat} {w w' : World} (h : Below w.heap.size w w') : But b w w' := ⟨h.os, h.tape, h.output, h.size, fun k hk _ => h.block k hk⟩
theorem But.tr {b : Nat} {x y z : World} (h : But b x y) (k : Below y.heap.size y z) : But b x z := h.trans (But.of k)
theorem But.setCell {b j : Nat} {w w' : World} (h : But b w w') (v : Value) : But b w (w'.setCell ⟨b, j, none⟩ v) := by
  have hb := (Below.refl b w').setCell (p := ⟨b, j, none⟩) (Nat.le_refl _) v
  exact ⟨hb.os.trans h.os, hb.tape.trans h.tape, hb.output.trans h.output, Nat.le_trans h.size hb.size, fun k hk hn => (Below.heap_setCell w' ⟨b, j, none⟩ v k hn).trans (h.block k hk hn)⟩
theorem But.below {b n : Nat} {w w' : World} (h : But b w w') (hb : n ≤ b) (hn : n ≤ w.heap.size) : Below n w w' :=
  ⟨h.os, h.tape, h.output, h.size, fun k hk => h.block k (by omega) (by omega)⟩
theorem But.drewN {b n : Nat} {w w' : World} (h : But b w w') : But b w (w'.drewN n) := h.trans (But.of (below_drewN (Below.refl _ _) _))
theorem Row.but {W W' : World} {b q n : Nat} {t : TypeId} {f : Nat → Value} (h : Row W q n t f) (hb : But b W W') (hne : q ≠ b) : Row W' q n t f := h.of_block (hb.block q h.lt hne)
end Go.Proofs.Ytggimkfepcgaoaa.Kit
end
section
namespace Go.Proofs.Ytggimkfepcgaoaa.App
open Go Go.RowKit Kit
theorem add_block (x : Addr) (m : Nat) : (x.add m).block = x.block := by unfold Addr.add; split <;> rfl
theorem add2 (g j : Nat) : (⟨g, 0, none⟩ : Addr).add j = ⟨g, j, none⟩ := by unfold Addr.add; split <;> simp_all
theorem one_block (w : World) (v : Value) (t : TypeId) : (w.alloc (.cells #[v] t)).heap[w.heap.size]? = some (.cells #[v] t (0, 0)) := (MapKept.heap_alloc w _).1
/-- a row of one-cell values that is read -/
def Rg (w : World) (p : Option Addr) (vs : List Value) : Prop := ∀ (i : Nat) (v : Value), vs[i]? = some v → ∃ y, p = some y ∧ y.block < w.heap.size ∧ w.cell? (y.add i) = some v
theorem run_append_zero' {P : Program} (w : World) (t ty e : TypeId) (i : TypeInfo) (ht : P.underlying t = some (.slice e)) (hi : P.info? e = some i) (p : Option Addr) (n k : Nat) (hp : p = none → n = 0 ∧ k = 0) (hk : n ≤ k) (a : Option Addr) (c : Nat) :
    (Builtin.append_ #[t, t] ty #[.slice p n k, .slice a 0 c]).run P w = .ok (.slice p n k) w := by
  simp [Builtin.append_, run_underlying ht, Go.sizeOf, typeInfo, hi, Builtin.lenOf, Builtin.firstCells]
  cases a <;> cases p <;> simp_all [Builtin.firstCells, loadCells, loadCellsFrom, storeCells]
theorem own_form {w : World} {B n : Nat} {e : TypeId} {v : Value} {l : List Value} (h : w.ownsRow B e 1 v n l) : ∃ p k, v = .slice p n k ∧ (p = none → n = 0 ∧ k = 0) ∧ n ≤ k := by
  obtain ⟨_, ⟨hv, hn⟩ | ⟨g, cap, cur, hv, hb, hg, hc, hm, hs, ht⟩⟩ := h
  · subst hn
    exact ⟨none, 0, hv, fun _ => ⟨rfl, rfl⟩, Nat.le_refl _⟩
  · exact ⟨_, _, hv, fun h => (by cases h), hc⟩
/-- a row appended to an owned one -/
theorem wpList_appG {w : World} {ops : Array Oper} {rest : List Oper} {o : Oper} {a : Act} {Q : Exit → Act → World → Prop} (hgd : o.guard = none) (s x : Operand) (t : TypeId)
    (ho : o.op = .call { callee := .builtin .append, args := #[s, x], argTypes := #[t, t] })
    (base : Nat) (e : TypeId) (i0 : TypeInfo) (z : Value) (bytes : Nat) (hu : Try.prog.underlying t = some (.slice e)) (hi0 : Try.prog.info? e = some i0) (hz0 : i0.zero = some z) (hz1 : i0.size = 1) (hz2 : i0.bytes = bytes) (hzc : z.cells.size = 1)
    (v : Value) (n0 : Nat) (l0 : List Value) (hs : a.eval s = v) (hown : w.ownsRow base e 1 v n0 l0) (p : Option Addr) (m c : Nat) (l : List Value) (hx : a.eval x = .slice p m c) (hl : l.length = m) (hr : Rg w p l) (h1 : ∀ u ∈ l, u.oneCell' = true)
    (hn : n0 + m ≤ 100000000) (hby : bytes ≤ 100000) (hbase : base ≤ w.heap.size)
    (h : ∀ v' w', w'.ownsRow base e 1 v' (n0 + m) (l0 ++ l) → Below base w w' → w.heap.size ≤ w'.heap.size → wpList Try.prog ops Q rest (a.put o.dst v') w') :
    wpList Try.prog ops Q (o :: rest) a w := by
  rcases Nat.eq_zero_or_pos m with rfl | hpos
  · obtain rfl : l = [] := List.length_eq_zero_iff.1 hl
    obtain ⟨q, k, rfl, h3, h2⟩ := own_form hown
    refine wpList_plain hgd fun _ hK => ?_
    unfold Oper.wp execOp
    simp only [ho, resolve, invoke, builtin, Sem.run_bind, Sem.run_pure, Result.andThen_ok, List.map_toArray, List.map_cons, List.map_nil, hs, hx, run_append_zero' w _ o.type _ i0 hu hi0 q n0 k h3 h2 p c]
    exact hK _ _ (h _ w (by rw [List.append_nil]; exact hown) (Below.refl _ _) (Nat.le_refl _))
  · obtain ⟨y, rfl⟩ : ∃ y, p = some y := by
      obtain ⟨y, hy, -⟩ := hr 0 (l[0]'(by omega)) (List.getElem?_eq_getElem (by omega))
      exact ⟨y, hy⟩
    have hb : (n0 + m) * bytes ≤ 140737488355328 := by
      have := Nat.mul_le_mul hn hby
      omega
    refine wpList_append_own _ hgd s x _ ho base _ i0 _ 1 bytes hu hi0 hz0 hz1 hz2 hzc (by decide) v n0 l0 hs hown y m c l hx (by rw [hl, Nat.mul_one]) (fun j u hj => by obtain ⟨y', hy', _, hc⟩ := hr j u hj; cases hy'; exact hc) h1 (by unfold maxLen; omega) hb hbase ?_
    intro v' w' hown' hgrow _
    exact h v' w' hown' ((Below.refl base w).grown hgrow hbase fun k hk => (hown.lt k hk).1) hgrow.size
theorem one_own (w : World) (u : Value) (e : TypeId) : (w.alloc (.cells #[u] e)).ownsRow w.heap.size e 1 (.slice (some ⟨w.heap.size, 0, none⟩) 1 1) 1 [u] :=
  ⟨rfl, .inr ⟨w.heap.size, 1, #[u], rfl, Nat.le_refl _, one_block w _ _, Nat.le_refl _, by unfold maxLen; omega, rfl, rfl⟩⟩
theorem own_rg {w : World} {B n : Nat} {e : TypeId} {v : Value} {l : List Value} (h : w.ownsRow B e 1 v n l) : ∃ p k, v = .slice p n k ∧ Rg w p l ∧ l.length = n := by
  obtain ⟨h0, ⟨hv, hn⟩ | ⟨g, cap, cur, hv, hb, hg, hc, hm, hs, ht⟩⟩ := h
  · subst hn
    refine ⟨none, 0, hv, fun i u hu => ?_, by omega⟩
    have : l.length = 0 := by omega
    rw [List.length_eq_zero_iff.1 this] at hu
    simp at hu
  · refine ⟨_, cap, hv, fun i u hu => ⟨_, rfl, (Array.getElem?_eq_some_iff.1 hg).1, ?_⟩, by omega⟩
    rw [add2]
    rw [← ht, List.getElem?_take] at hu
    split at hu
    · simpa [World.cell?, hg] using hu
    · cases hu
theorem Rg.below {w w' : World} {p : Option Addr} {vs : List Value} (h : Rg w p vs) (hb : Below w.heap.size w w') : Rg w' p vs := fun i x hx => by
  obtain ⟨y, h0, h1, h2⟩ := h i x hx
  exact ⟨y, h0, Nat.lt_of_lt_of_le h1 hb.size, by rw [hb.cell (by rw [add_block]; exact h1)]; exact h2⟩
theorem own_lift {w : World} {B C k size : Nat} {e : TypeId} {v : Value} {xs : List Value} (h : w.ownsRow B e size v k xs) (hb : C ≤ B) : w.ownsRow C e size v k xs := by
  obtain ⟨h0, ⟨hv, hn⟩ | ⟨g, cap, cur, hv, hb', hg, hr⟩⟩ := h
  · exact ⟨h0, .inl ⟨hv, hn⟩⟩
  · exact ⟨h0, .inr ⟨g, cap, cur, hv, Nat.le_trans hb hb', hg, hr⟩⟩
theorem Row.rg {W : World} {q n : Nat} {t : TypeId} {f : Nat → Value} (h : Row W q n t f) : Rg W (some ⟨q, 0, none⟩) ((List.range n).map f) := fun i v hv => by
  rw [List.getElem?_map] at hv
  by_cases hi : i < n
  · rw [List.getElem?_range hi] at hv
    cases hv
    exact ⟨_, rfl, h.lt, by rw [add2]; exact h.cell i hi⟩
  · rw [List.getElem?_eq_none (by simpa using hi)] at hv
    cases hv
/-- 'make([]T, n)', n open, T of one cell -/
theorem mk_row {t e : TypeId} {z : Value} {bytes : Nat} (ht : Try.prog.underlying t = some (.slice e)) (hinfo : (Try.prog.info? e).map (fun i => (i.zero, i.size, i.bytes)) = some (some z, 1, bytes)) (hz1 : z.cells = #[z]) (hby : bytes ≤ 1000000) (K : Nat) (h : K ≤ 10000000) (w : World) :
    (Instr.makeSlice t (.int .i64 (K : Int)) (.int .i64 (K : Int))).run Try.prog w = .ok (.slice (some ⟨w.heap.size, 0, none⟩) K K) (w.alloc (.cells (madeCells #[z] K) e)) := by
  obtain ⟨i, hi, hzz⟩ := Option.map_eq_some_iff.1 hinfo
  simp only [Prod.mk.injEq] at hzz
  obtain ⟨hz, hs, hb'⟩ := hzz
  have hbb : (i.bytes : Int) * (K : Int) ≤ 281474976710656 := by
    rw [hb']
    have h1 : (bytes : Int) ≤ 1000000 := by omega
    have h2 : (K : Int) ≤ 10000000 := by omega
    have := Int.mul_le_mul h1 h2 (by omega) (by omega)
    omega
  have hr := run_make (P := Try.prog) w t e i z ht hi hz .i64 .i64 (K : Int) (K : Int) (by omega) (Int.le_refl _) hbb (by omega)
  rw [hs, hz1] at hr
  simpa using hr
/-- 'append(s, make([]T, n)...)' onto an owned row: where it leads -/
theorem run_append_zeros {P : Program} (w : World) (t tn ty e : TypeId) (i : TypeInfo) (z : Value) (ht : P.underlying t = some (.slice e)) (htn : P.underlying tn = some (.int .i64)) (hi : P.info? e = some i) (hz : i.zero = some z) (hs1 : i.size = 1) (hzc : z.cells = #[z]) (hz1 : z.oneCell' = true) (hb4 : i.bytes ≤ 100000)
    (base : Nat) (hbase : base ≤ w.heap.size) (v : Value) (m : Nat) (xs : List Value) (hown : w.ownsRow base e 1 v m xs) (n : Nat) (h0 : 0 < n) (hn : m + n ≤ 100000000) :
    ∃ q k w', (Builtin.append_ #[t, tn] ty #[v, .int .i64 (n : Int)]).run P w = .ok (.slice q (m + n) k) w' ∧ Below base w w' := by
  have hbn : n * i.bytes ≤ 281474976710656 := by
    have := Nat.mul_le_mul (show n ≤ 100000000 by omega) hb4
    omega
  have hbm : (m + n) * i.bytes ≤ 140737488355328 := by
    have := Nat.mul_le_mul hn hb4
    omega
  have hn0 : n ≠ 0 := by omega
  have hw : IntKind.i64.wrap (n : Int) = n := by rw [IntKind.wrap_i64]; omega
  have hneg : ¬ ((n : Int) < 0) := by omega
  have h48i : ¬ (281474976710656 < (n : Int) * (i.bytes : Int)) := by rw [← Int.natCast_mul]; omega
  have hns : ¬ (n * i.size = 0) := by rw [hs1]; omega
  rcases hown.2 with ⟨rfl, rfl⟩ | ⟨g, cap, cur, rfl, hbg, hg, hnc, hcm, hcs, htake⟩
  · refine ⟨_, _, _, by rw [Nat.zero_add]; exact Lib.run_append_nil_zeros w t tn ty e i z .i64 .i64 ht htn hi hz n h0 (by omega) (by omega) hbn, ?_⟩
    exact ((Below.refl base w).drew).alloc hbase _
  · have hgb : base ≤ g := hbg
    by_cases hroom : m + n ≤ cap
    · have hzl : (Builtin.zeroCells #[z] n).toList.length = n := by rw [Array.length_toList, size_zeroCells]; simp
      have h1 : ∀ u ∈ (Builtin.zeroCells #[z] n).toList, u.oneCell' = true := fun u hu => by
        simp [Builtin.zeroCells] at hu
        obtain ⟨a, _, rfl⟩ := hu
        simpa [Nat.mod_one] using hz1
      have hst := run_storeCells_at P g m e (Builtin.zeroCells #[z] n).toList 0 cur w hg (by rw [hzl]; simp; omega) h1
      simp only [Nat.add_zero] at hst
      refine ⟨some ⟨g, 0, none⟩, cap, w.setRow g (cur.toList.take m ++ (Builtin.zeroCells #[z] n).toList ++ cur.toList.drop (m + (Builtin.zeroCells #[z] n).toList.length)).toArray, ?_, ?_⟩
      · simp [Builtin.append_, run_underlying ht, run_underlying htn, sizeOf, typeInfo, zeroValue, hi, hz, asInt, asIntOf, hw, hneg, hns, hn0, hs1, h48i, hroom, hzc, Addr.add_lit, hst]
      · refine ⟨rfl, rfl, rfl, by simp, fun k hk => ?_⟩
        exact setRow_other w g k _ (by omega)
    · have hnr : ¬ (m + n ≤ cap) := hroom
      have h63' : ¬ (9223372036854775807 < ((m : Int) + (n : Int))) := by omega
      have h48' : ¬ (281474976710656 < Builtin.nextslicecap (m + n) cap * i.bytes) := by
        have := growslice_fits (show cap < m + n by omega) hbm
        omega
      have holds : ∀ j u, xs[j]? = some u → w.drew.cell? ((⟨g, 0, none⟩ : Addr).add j) = some u := fun j u hj => by simpa using hown.cells (g := g) rfl j u hj
      have hfo := run_firstCells_some (P := P) w.drew 1 m ⟨g, 0, none⟩ m cap xs (by rw [hown.1]) holds
      refine ⟨some ⟨w.heap.size, 0, none⟩, grownCap w (m + n) cap e, w.drew.alloc (.cells (xs.toArray ++ Builtin.zeroCells #[z] n ++ Builtin.zeroCells #[z] (grownCap w (m + n) cap e - (m + n))) e), ?_, ?_⟩
      · simp [Builtin.append_, run_underlying ht, run_underlying htn, sizeOf, typeInfo, zeroValue, hi, hz, asInt, asIntOf, hw, hneg, hns, hn0, hs1, h48i, hnr, h63', h48', hzc, Question.forced, hfo, newRow, grownCap]
      · exact ((Below.refl base w).drew).alloc hbase _
end Go.Proofs.Ytggimkfepcgaoaa.App
end
