/-
  Small laws that the walks of this seat share.
-/
import Derived.WalkKit
import Derived.WalkSpells
import Derived.WalkLawsBesides
import Derived.Lib.Hide
import Derived.Handy
namespace Go.Proofs.Ytdhdaknfmpfegaa.Kit
open Go.RowKit

theorem ret_int {k : IntKind} {a b : Int} (h : a = b) : Ending.returned (.int k a) = .returned (.int k b) := by rw [h]
theorem ret_bool {a b : Bool} (h : a = b) : Ending.returned (.bool a) = .returned (.bool b) := by rw [h]
theorem tr {a b c : World} (h : Below a.heap.size a b) (k : Below b.heap.size b c) : Below a.heap.size a c := h.trans (k.mono h.size)
theorem bcell {W w1 : World} (hb : Below W.heap.size W w1) : (∀ b o, b < W.heap.size → w1.cell? ⟨b, o, none⟩ = W.cell? ⟨b, o, none⟩) ∧ (∀ b o, b < W.heap.size → w1.frozen? ⟨b, o, none⟩ = W.frozen? ⟨b, o, none⟩) ∧ W.heap.size ≤ w1.heap.size :=
  ⟨fun b o h => hb.cell (p := ⟨b, o, none⟩) h, fun b o h => hb.frozen (p := ⟨b, o, none⟩) h, hb.size⟩

/-- 'v = append(v, y)', y of one cell: v owns its row from block base on -/
theorem wpList_app1 {P : Program} {w : World} {ops : Array Oper} {rest : List Oper} {o : Oper} {a : Act} {Q : Exit → Act → World → Prop} (hgd : o.guard = none) (s x : Operand) (t : TypeId)
    (ho : o.op = .call { callee := .builtin .append, args := #[s, x], argTypes := #[t, t] })
    (base : Nat) (e : TypeId) (i : TypeInfo) (z : Value) (bytes : Nat) (ht : P.underlying t = some (.slice e)) (hi : P.info? e = some i) (hz : i.zero = some z)
    (hsize : i.size = 1) (hby : i.bytes = bytes) (hzs : z.cells.size = 1)
    (v : Value) (n : Nat) (xs : List Value) (y : Value) (hs : a.eval s = v) (hown : w.ownsRow base e 1 v n xs)
    (hx : a.eval x = .slice (some ⟨w.heap.size, 0, none⟩) 1 1) (h1 : y.oneCell' = true)
    (hn : n + 1 ≤ 1073741824) (hbytes : bytes ≤ 100000) (hbase : base ≤ w.heap.size)
    (h : ∀ v' w', w'.ownsRow base e 1 v' (n + 1) (xs ++ [y]) → Below base w w' → w.heap.size < w'.heap.size → wpList P ops Q rest (a.put o.dst v') w') :
    wpList P ops Q (o :: rest) a (w.alloc (.cells #[y] e)) := by
  have hlt := hown.lt
  refine wpList_append_own _ hgd s x t ho base e i z 1 bytes ht hi hz hsize hby hzs (by decide) v n xs hs (hown.alloc _) ⟨w.heap.size, 0, none⟩ 1 1 [y] hx rfl ?_ ?_ ?_ ?_ ?_ ?_
  · intro j u hj
    match j, hj with
    | 0, hj => simp at hj; subst hj; simp [Addr.add]
  · intro u hu; simp at hu; subst hu; exact h1
  · unfold maxLen; omega
  · have : (n + 1) * bytes ≤ 1073741824 * 100000 := Nat.mul_le_mul hn hbytes
    omega
  · simp; omega
  · intro v' w' ho' hg _
    refine h v' w' ho' (((Below.refl base w).alloc hbase _).grown hg (by simp; omega) fun k hk => (hlt k hk).1) ?_
    have := hg.size
    simp at this; omega

/-- an owned row of one-cell elements: nil and empty, or it starts at the head of a block -/
theorem own_cases {α : Type} {w : World} {base : Nat} {e : TypeId} {v : Value} {l : List α} {f : α → Value} (h : w.ownsRow base e 1 v l.length (l.map f)) :
    (v = .slice none 0 0 ∧ l = []) ∨
    ∃ g cap, v = .slice (some ⟨g, 0, none⟩) l.length cap ∧ base ≤ g ∧ g < w.heap.size ∧ l.length ≤ cap ∧ cap ≤ maxLen ∧ ∀ j (hj : j < l.length), w.cell? ⟨g, j, none⟩ = some (f l[j]) := by
  obtain ⟨_, ⟨hv, hn⟩ | ⟨g, cap, cur, hv, hb, hg, hc, hm, hs, ht⟩⟩ := h
  · exact .inl ⟨hv, List.length_eq_zero_iff.1 hn⟩
  · refine .inr ⟨g, cap, hv, hb, (Array.getElem?_eq_some_iff.1 hg).1, hc, hm, fun j hj => ?_⟩
    simp only [World.cell?, hg]
    have h2 : (cur.toList.take (l.length * 1))[j]? = some (f l[j]) := by rw [ht]; simp [hj]
    rw [List.getElem?_take_of_lt (by omega)] at h2
    simpa using h2

/-- 'f == nil', 'f != nil' at a function value that is not nil -/
theorem run_equalIn_func_nil {P : Program} (w : World) (d : Nat) (t : TypeId) (ps rs : Array TypeId) (v : Bool) (f : Fn) (ts lb : Array Value) (h : P.underlying t = some (.func ps rs v)) :
    (Op.equalIn (d + 1) t (.func f ts lb) .nilFunc).run P w = .ok false w := by
  simp [Op.equalIn, run_underlying h]
theorem run_eql_func_nil {P : Program} (w : World) (t : TypeId) (ps rs : Array TypeId) (v : Bool) (f : Fn) (ts lb : Array Value) (h : P.underlying t = some (.func ps rs v)) :
    (binOp .eql t (.func f ts lb) .nilFunc).run P w = .ok (.bool false) w := by
  simp only [binOp]
  simp [Op.equal, Op.maxDepth, run_equalIn_func_nil w 9999 t ps rs v f ts lb h]
theorem run_neq_func_nil {P : Program} (w : World) (t : TypeId) (ps rs : Array TypeId) (v : Bool) (f : Fn) (ts lb : Array Value) (h : P.underlying t = some (.func ps rs v)) :
    (binOp .neq t (.func f ts lb) .nilFunc).run P w = .ok (.bool true) w := by
  simp only [binOp]
  simp [Op.equal, Op.maxDepth, run_equalIn_func_nil w 9999 t ps rs v f ts lb h]

/-- a result of two cells, stored into its variable -/
theorem res2 {w : World} {p : Nat} {a b a' b' : Value} (k0 : w.cell? ⟨p, 0, none⟩ = some a') (k1 : w.cell? ⟨p, 1, none⟩ = some b') :
    (w.setCell ⟨p, 0, none⟩ a).cell? ⟨p, 0, none⟩ = some a ∧ ((w.setCell ⟨p, 0, none⟩ a).setCell ⟨p, 1, none⟩ b).cell? ⟨p, 1, none⟩ = some b ∧ ((w.setCell ⟨p, 0, none⟩ a).setCell ⟨p, 1, none⟩ b).cell? ⟨p, 0, none⟩ = some a := by
  have h0 : (w.setCell ⟨p, 0, none⟩ a).cell? ⟨p, 0, none⟩ = some a := World.cell?_setCell_same' _ _ _ (by rw [k0]; rfl)
  have h1 : (w.setCell ⟨p, 0, none⟩ a).cell? ⟨p, 1, none⟩ = some b' := by simp [go_sem, k1]
  refine ⟨h0, World.cell?_setCell_same' _ _ _ (by rw [h1]; rfl), by simp [go_sem, h0]⟩
theorem cell_of {W w1 : World} (hb : Below W.heap.size W w1) {p o : Nat} {v : Value} (hp : p < W.heap.size) (h : W.cell? ⟨p, o, none⟩ = some v) : w1.cell? ⟨p, o, none⟩ = some v := (hb.cell (p := ⟨p, o, none⟩) hp).trans h
theorem free_of {W w1 : World} (hb : Below W.heap.size W w1) {p o : Nat} {v : Bool} (hp : p < W.heap.size) (h : W.frozen? ⟨p, o, none⟩ = v) : w1.frozen? ⟨p, o, none⟩ = v := (hb.frozen (p := ⟨p, o, none⟩) hp).trans h

/-- BLOCK p IS A VARIABLE OF TWO CELLS -/
def Bx (W : World) (p : Nat) (t : TypeId) (x y : Value) : Prop := W.heap[p]? = some (.cells #[x, y] t (0, 0))
theorem Bx.lt {W : World} {p : Nat} {t : TypeId} {x y : Value} (h : Bx W p t x y) : p < W.heap.size := (Array.getElem?_eq_some_iff.1 h).1
theorem Bx.c0 {W : World} {p : Nat} {t : TypeId} {x y : Value} (h : Bx W p t x y) : W.cell? ⟨p, 0, none⟩ = some x := by simp [World.cell?, show W.heap[p]? = _ from h]
theorem Bx.c1 {W : World} {p : Nat} {t : TypeId} {x y : Value} (h : Bx W p t x y) : W.cell? ⟨p, 1, none⟩ = some y := by simp [World.cell?, show W.heap[p]? = _ from h]
theorem Bx.fr {W : World} {p : Nat} {t : TypeId} {x y : Value} (h : Bx W p t x y) (o : Nat) : W.frozen? ⟨p, o, none⟩ = false := by simp [World.frozen?, show W.heap[p]? = _ from h]
theorem Bx.new (W : World) (t : TypeId) (x y : Value) : Bx (W.alloc (.cells #[x, y] t)) W.heap.size t x y := (MapKept.heap_alloc W _).1
theorem Bx.below {W W' : World} {p : Nat} {t : TypeId} {x y : Value} (h : Bx W p t x y) (hb : Below W.heap.size W W') : Bx W' p t x y := (hb.block p h.lt).trans h
theorem Bx.alloc {W : World} {p : Nat} {t : TypeId} {x y : Value} (h : Bx W p t x y) (o : Obj) : Bx (W.alloc o) p t x y := (Below.heap_alloc W o p h.lt).trans h
theorem Bx.set0 {W : World} {p : Nat} {t : TypeId} {x y : Value} (h : Bx W p t x y) (x' : Value) : Bx (W.setCell ⟨p, 0, none⟩ x') p t x' y := by
  obtain ⟨hlt, hk⟩ := Array.getElem?_eq_some_iff.1 h
  show (W.heap.modify p _)[p]? = _
  rw [Array.getElem?_eq_getElem (by rw [Array.size_modify]; exact hlt), Array.getElem_modify_self, hk]
  rfl
theorem Bx.set1 {W : World} {p : Nat} {t : TypeId} {x y : Value} (h : Bx W p t x y) (y' : Value) : Bx (W.setCell ⟨p, 1, none⟩ y') p t x y' := by
  obtain ⟨hlt, hk⟩ := Array.getElem?_eq_some_iff.1 h
  show (W.heap.modify p _)[p]? = _
  rw [Array.getElem?_eq_getElem (by rw [Array.size_modify]; exact hlt), Array.getElem_modify_self, hk]
  rfl
theorem Bx.set {W : World} {p : Nat} {t : TypeId} {x y : Value} (h : Bx W p t x y) (x' y' : Value) : Bx ((W.setCell ⟨p, 0, none⟩ x').setCell ⟨p, 1, none⟩ y') p t x' y' := (h.set0 x').set1 y'
theorem Bx.other {W : World} {p q : Nat} {t : TypeId} {x y : Value} (h : Bx W p t x y) (hne : p ≠ q) (a b : Value) : Bx ((W.setCell ⟨q, 0, none⟩ a).setCell ⟨q, 1, none⟩ b) p t x y :=
  (Below.heap_setCell _ _ _ p hne).trans ((Below.heap_setCell _ _ _ p hne).trans h)
theorem tr_set {a b c : World} {q : Nat} {x y : Value} (h : Below a.heap.size a b) (hq : a.heap.size ≤ q) (k : Below ((b.setCell ⟨q, 0, none⟩ x).setCell ⟨q, 1, none⟩ y).heap.size ((b.setCell ⟨q, 0, none⟩ x).setCell ⟨q, 1, none⟩ y) c) : Below a.heap.size a c :=
  tr ((h.setCell (p := ⟨q, 0, none⟩) hq x).setCell (p := ⟨q, 1, none⟩) hq y) k
end Go.Proofs.Ytdhdaknfmpfegaa.Kit
