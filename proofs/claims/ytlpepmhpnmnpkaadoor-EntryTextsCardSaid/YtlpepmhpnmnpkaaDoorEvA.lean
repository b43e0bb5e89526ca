/-
  A checked evaluator, part A: values up to the numbers of blocks, a heap of blocks, and when a world bears it.
-/
import Derived.Test.YtlpepmhpnmnpkaaDoorKit
import Derived.OrdersHeld
import Derived.Laws.Cells
import Derived.Laws.Rows
set_option linter.unusedVariables false
set_option linter.unusedSimpArgs false
namespace Go.Proofs.YtlpepmhpnmnpkaaDoor.Ev
open Go Go.RowKit

/-- where a block stands in the world: block b, from cell s on, and how many cells that block has -/
structure Place where
  b : Nat
  s : Nat
  n : Nat
inductive D4 where
  | d0 | d1 | d2 | d3
  deriving DecidableEq
/-- a block's, or a temporary's, number in digits -/
inductive Key where
  | short (a b c d : D4)
  | mid (a b c d e f : D4)
  | long (a b c d e f g h : D4)
  deriving DecidableEq
def dig (n : Nat) : D4 :=
  Nat.casesOn (Nat.mod n 4) .d0 fun m => Nat.casesOn m .d1 fun m => Nat.casesOn m .d2 fun _ => .d3
def key (n : Nat) : Key :=
  Bool.casesOn (Nat.ble n 255)
    (Bool.casesOn (Nat.ble n 4095)
      (.long (dig (Nat.div n 16384)) (dig (Nat.div n 4096)) (dig (Nat.div n 1024)) (dig (Nat.div n 256)) (dig (Nat.div n 64)) (dig (Nat.div n 16)) (dig (Nat.div n 4)) (dig n))
      (.mid (dig (Nat.div n 1024)) (dig (Nat.div n 256)) (dig (Nat.div n 64)) (dig (Nat.div n 16)) (dig (Nat.div n 4)) (dig n)))
    (.short (dig (Nat.div n 64)) (dig (Nat.div n 16)) (dig (Nat.div n 4)) (dig n))
abbrev Mp := Key → Option Place

mutual
/-- what a value of the evaluator stands for -/
inductive VR (M : Mp) (σ : Nat → Value) : Value → Value → Prop where
  | bool (b : Bool) : VR M σ (.bool b) (.bool b)
  | int (k : IntKind) (n : Int) : VR M σ (.int k n) (.int k n)
  | float (k : FloatKind) (n : Nat) : VR M σ (.float k n) (.float k n)
  | complex (k : FloatKind) (m n : Nat) : VR M σ (.complex k m n) (.complex k m n)
  | str (s : ByteArray) : VR M σ (.string s) (.string s)
  | nilp : VR M σ (.pointer none) (.pointer none)
  | ptr {i : Nat} (o : Nat) {p : Place} (h : M (key i) = some p) : VR M σ (.pointer (some ⟨i, o, none⟩)) (.pointer (some ⟨p.b, p.s + o, none⟩))
  | abs (b o : Nat) : VR M σ (.pointer (some ⟨b, o, some 0⟩)) (.pointer (some ⟨b, o, none⟩))
  | nils (l c : Nat) : VR M σ (.slice none l c) (.slice none l c)
  | slice {i : Nat} (o l c : Nat) {p : Place} (h : M (key i) = some p) : VR M σ (.slice (some ⟨i, o, none⟩) l c) (.slice (some ⟨p.b, p.s + o, none⟩) l c)
  | grown {i : Nat} (o e l m c : Nat) {p : Place} (h : M (key i) = some p) (hl : l ≤ m) (hm : m ≤ c) (hc : p.s + o + c * e ≤ p.n) :
      VR M σ (.slice (some ⟨i, o, some e⟩) l m) (.slice (some ⟨p.b, p.s + o, none⟩) l c)
  | nilm : VR M σ (.map none) (.map none)
  | map {i : Nat} {p : Place} (h : M (key i) = some p) : VR M σ (.map (some i)) (.map (some p.b))
  | opq (i : Nat) (h : (σ i).oneCell' = true) : VR M σ (.chan (some i)) (σ i)
  | any (v : Value) (h : v.oneCell' = true) : VR M σ (.chan none) v
  | func (f : FuncId) {xs ys us vs : List Value} (h : VRs M σ xs us) (h' : VRs M σ ys vs) : VR M σ (.func (.func f) ⟨xs⟩ ⟨ys⟩) (.func (.func f) ⟨us⟩ ⟨vs⟩)
  | yield {l : Nat} {p : Place} (h : M (key l) = some p) : VR M σ (.func (.yield l) ⟨[]⟩ ⟨[]⟩) (.func (.yield p.b) ⟨[]⟩ ⟨[]⟩)
  | nilf : VR M σ .nilFunc .nilFunc
  | iface (t : TypeId) {x v : Value} (h : VR M σ x v) : VR M σ (.iface t x) (.iface t v)
  | nili : VR M σ .nilIface .nilIface
  | agg {xs vs : List Value} (h : VRs M σ xs vs) : VR M σ (.agg ⟨xs⟩) (.agg ⟨vs⟩)
  | tuple {xs vs : List Value} (h : VRs M σ xs vs) : VR M σ (.tuple ⟨xs⟩) (.tuple ⟨vs⟩)
inductive VRs (M : Mp) (σ : Nat → Value) : List Value → List Value → Prop where
  | nil : VRs M σ [] []
  | cons {x v : Value} {xs vs : List Value} (h : VR M σ x v) (h' : VRs M σ xs vs) : VRs M σ (x :: xs) (v :: vs)
end

section
variable {M : Mp} {σ : Nat → Value}
theorem VRs.length {xs vs : List Value} (h : VRs M σ xs vs) : xs.length = vs.length := by
  match xs, vs, h with
  | _, _, .nil => rfl
  | _, _, .cons _ h' => simp [h'.length]
theorem VRs.get {xs vs : List Value} (h : VRs M σ xs vs) {j : Nat} {x : Value} (hj : xs[j]? = some x) : ∃ v, vs[j]? = some v ∧ VR M σ x v := by
  match xs, vs, h, j with
  | _, _, .nil, _ => simp at hj
  | _, _, .cons h0 _, 0 => simp at hj; subst hj; exact ⟨_, by simp, h0⟩
  | _, _, .cons _ h', j + 1 => simp at hj; obtain ⟨v, hv, hr⟩ := h'.get hj; exact ⟨v, by simpa using hv, hr⟩
theorem VRs.of_get : ∀ {xs vs : List Value}, xs.length = vs.length → (∀ (j : Nat) (x v : Value), xs[j]? = some x → vs[j]? = some v → VR M σ x v) → VRs M σ xs vs
  | [], [], _, _ => .nil
  | x :: xs, v :: vs, hl, h => .cons (h 0 x v rfl rfl) (VRs.of_get (by simpa using hl) fun j x v hx hv => h (j + 1) x v (by simpa using hx) (by simpa using hv))
  | [], _ :: _, hl, _ => by simp at hl
  | _ :: _, [], hl, _ => by simp at hl
theorem VRs.append : ∀ {xs vs ys us : List Value}, VRs M σ xs vs → VRs M σ ys us → VRs M σ (xs ++ ys) (vs ++ us)
  | _, _, _, _, .nil, k => k
  | _, _, _, _, .cons h h', k => .cons h (h'.append k)
theorem VRs.take {xs vs : List Value} (n : Nat) (h : VRs M σ xs vs) : VRs M σ (xs.take n) (vs.take n) := by
  match n, xs, vs, h with
  | 0, _, _, _ => exact .nil
  | n + 1, _, _, .nil => exact .nil
  | n + 1, _, _, .cons h h' => exact .cons h (h'.take n)
theorem VRs.drop {xs vs : List Value} (n : Nat) (h : VRs M σ xs vs) : VRs M σ (xs.drop n) (vs.drop n) := by
  match n, xs, vs, h with
  | 0, _, _, h => exact h
  | n + 1, _, _, .nil => exact .nil
  | n + 1, _, _, .cons _ h' => exact h'.drop n
theorem VRs.set {xs vs : List Value} (n : Nat) {x v : Value} (h : VRs M σ xs vs) (k : VR M σ x v) : VRs M σ (xs.set n x) (vs.set n v) := by
  match n, xs, vs, h with
  | _, _, _, .nil => exact .nil
  | 0, _, _, .cons _ h' => exact .cons k h'
  | n + 1, _, _, .cons h h' => exact .cons h (h'.set n k)
theorem VRs.replicate (n : Nat) {x v : Value} (k : VR M σ x v) : VRs M σ (List.replicate n x) (List.replicate n v) := by
  induction n with
  | zero => exact .nil
  | succ n ih => exact .cons k ih

/-- more blocks have their places -/
def Le (M M' : Mp) : Prop := ∀ k p, M k = some p → M' k = some p
theorem Le.refl (M : Mp) : Le M M := fun _ _ h => h
theorem Le.trans {A B C : Mp} (h : Le A B) (k : Le B C) : Le A C := fun i p e => k i p (h i p e)
mutual
theorem VR.mono {M' : Mp} (hl : Le M M') {x v : Value} (h : VR M σ x v) : VR M' σ x v := by
  match h with
  | .bool b => exact .bool b
  | .int k n => exact .int k n
  | .float k n => exact .float k n
  | .complex k m n => exact .complex k m n
  | .str s => exact .str s
  | .nilp => exact .nilp
  | .ptr o h => exact .ptr o (hl _ _ h)
  | .abs b o => exact .abs b o
  | .nils l c => exact .nils l c
  | .slice o l c h => exact .slice o l c (hl _ _ h)
  | .grown o e l m c h a b d => exact .grown o e l m c (hl _ _ h) a b d
  | .nilm => exact .nilm
  | .map h => exact .map (hl _ _ h)
  | .opq i h => exact .opq i h
  | .any v h => exact .any v h
  | .func f h h' => exact .func f (h.mono hl) (h'.mono hl)
  | .yield h => exact .yield (hl _ _ h)
  | .nilf => exact .nilf
  | .iface t h => exact .iface t (h.mono hl)
  | .nili => exact .nili
  | .agg h => exact .agg (h.mono hl)
  | .tuple h => exact .tuple (h.mono hl)
theorem VRs.mono {M' : Mp} (hl : Le M M') {xs vs : List Value} (h : VRs M σ xs vs) : VRs M' σ xs vs := by
  match h with
  | .nil => exact .nil
  | .cons h h' => exact .cons (h.mono hl) (h'.mono hl)
end

mutual
/-- a value without a block's number in it -/
def clean : Value → Bool
  | .bool _ | .int _ _ | .float _ _ | .complex _ _ _ | .string _ | .pointer none | .slice none _ _ | .map none | .nilFunc | .nilIface => true
  | .iface _ v => clean v
  | .agg ⟨l⟩ | .tuple ⟨l⟩ => cleans l
  | .func (.func _) ⟨l⟩ ⟨m⟩ => cleans l && cleans m
  | _ => false
def cleans : List Value → Bool
  | [] => true
  | v :: l => clean v && cleans l
end
mutual
theorem VR.eq_of_clean {x v : Value} (h : VR M σ x v) (hc : clean x = true) : v = x := by
  match h with
  | .bool _ | .int _ _ | .float _ _ | .complex _ _ _ | .str _ | .nilp | .nils _ _ | .nilm | .nilf | .nili => rfl
  | .ptr .. | .abs .. | .slice .. | .grown .. | .map .. | .opq .. | .any .. | .yield .. => simp [clean] at hc
  | .func f h h' => simp [clean] at hc; rw [h.eq_of_clean hc.1, h'.eq_of_clean hc.2]
  | .iface t h => simp [clean] at hc; rw [h.eq_of_clean hc]
  | .agg h => simp [clean] at hc; rw [h.eq_of_clean hc]
  | .tuple h => simp [clean] at hc; rw [h.eq_of_clean hc]
theorem VRs.eq_of_clean {xs vs : List Value} (h : VRs M σ xs vs) (hc : cleans xs = true) : vs = xs := by
  match h with
  | .nil => rfl
  | .cons h h' => simp [cleans] at hc; rw [h.eq_of_clean hc.1, h'.eq_of_clean hc.2]
end
mutual
theorem VR.of_clean (x : Value) (hc : clean x = true) : VR M σ x x := by
  match x with
  | .bool _ => exact .bool _
  | .int _ _ => exact .int _ _
  | .float _ _ => exact .float _ _
  | .complex _ _ _ => exact .complex _ _ _
  | .string _ => exact .str _
  | .pointer none => exact .nilp
  | .pointer (some _) => simp [clean] at hc
  | .slice none _ _ => exact .nils _ _
  | .slice (some _) _ _ => simp [clean] at hc
  | .map none => exact .nilm
  | .map (some _) => simp [clean] at hc
  | .chan _ => simp [clean] at hc
  | .nilFunc => exact .nilf
  | .nilIface => exact .nili
  | .iface _ v => simp [clean] at hc; exact .iface _ (VR.of_clean v hc)
  | .agg ⟨l⟩ => simp [clean] at hc; exact .agg (VRs.of_clean l hc)
  | .tuple ⟨l⟩ => simp [clean] at hc; exact .tuple (VRs.of_clean l hc)
  | .func (.func _) ⟨l⟩ ⟨m⟩ => simp [clean] at hc; exact .func _ (VRs.of_clean l hc.1) (VRs.of_clean m hc.2)
  | .func (.method _) _ _ => simp [clean] at hc
  | .func (.methodOf _ _) _ _ => simp [clean] at hc
  | .func (.via _ _ _ _) _ _ => simp [clean] at hc
  | .func (.yield _) _ _ => simp [clean] at hc
theorem VRs.of_clean (l : List Value) (hc : cleans l = true) : VRs M σ l l := by
  match l with
  | [] => exact .nil
  | v :: l => simp [cleans] at hc; exact .cons (VR.of_clean v hc.1) (VRs.of_clean l hc.2)
end
/-- a value of one cell stays one -/
theorem VR.one {x v : Value} (h : VR M σ x v) (hx : x.oneCell' = true) : v.oneCell' = true := by
  cases h <;> first | rfl | assumption | (simp [Value.oneCell'] at hx)
theorem VR.cells {x v : Value} (h : VR M σ x v) : VRs M σ x.cells.toList v.cells.toList := by
  cases h with
  | agg h => exact h
  | opq i hi =>
    have : (σ i).cells = #[σ i] := by cases hs : σ i <;> simp_all [Value.cells, Value.oneCell']
    rw [this]; exact .cons (.opq i hi) .nil
  | any v hi =>
    have : v.cells = #[v] := by cases v <;> simp_all [Value.cells, Value.oneCell']
    rw [this]; exact .cons (.any v hi) .nil
  | bool b => exact .cons (.bool b) .nil
  | int k n => exact .cons (.int k n) .nil
  | float k n => exact .cons (.float k n) .nil
  | complex k m n => exact .cons (.complex k m n) .nil
  | str s => exact .cons (.str s) .nil
  | nilp => exact .cons .nilp .nil
  | ptr o h => exact .cons (.ptr o h) .nil
  | abs b o => exact .cons (.abs b o) .nil
  | nils l c => exact .cons (.nils l c) .nil
  | slice o l c h => exact .cons (.slice o l c h) .nil
  | grown o e l m c h a b d => exact .cons (.grown o e l m c h a b d) .nil
  | nilm => exact .cons .nilm .nil
  | map h => exact .cons (.map h) .nil
  | func f h h' => exact .cons (.func f h h') .nil
  | yield h => exact .cons (.yield h) .nil
  | nilf => exact .cons .nilf .nil
  | iface t h => exact .cons (.iface t h) .nil
  | nili => exact .cons .nili .nil
  | tuple h => exact .cons (.tuple h) .nil
end

/-! ### a trie of four branches -/
inductive T4 (α : Type) where
  | leaf
  | node (a b c d : T4 α)
  | val (v : α)
def T4.v {α : Type} (t : T4 α) : Option α := T4.casesOn t none (fun _ _ _ _ => none) (fun v => some v)
def T4.step {α : Type} (t : T4 α) (k : D4) : T4 α :=
  T4.casesOn t .leaf (fun a b c d => D4.casesOn k a b c d) (fun _ => .leaf)
def T4.put {α : Type} (t : T4 α) (k : D4) (x : T4 α) : T4 α :=
  T4.casesOn t (D4.casesOn k (.node x .leaf .leaf .leaf) (.node .leaf x .leaf .leaf) (.node .leaf .leaf x .leaf) (.node .leaf .leaf .leaf x)) (fun a b c d => D4.casesOn k (.node x b c d) (.node a x c d) (.node a b x d) (.node a b c x)) (fun _ => D4.casesOn k (.node x .leaf .leaf .leaf) (.node .leaf x .leaf .leaf) (.node .leaf .leaf x .leaf) (.node .leaf .leaf .leaf x))
def T4.set1 {α : Type} (t : T4 α) (d : D4) (v : α) : T4 α := t.put d (.val v)
def T4.set2 {α : Type} (t : T4 α) (c d : D4) (v : α) : T4 α := t.put c ((t.step c).set1 d v)
def T4.set3 {α : Type} (t : T4 α) (b c d : D4) (v : α) : T4 α := t.put b ((t.step b).set2 c d v)
def T4.set4 {α : Type} (t : T4 α) (a b c d : D4) (v : α) : T4 α := t.put a ((t.step a).set3 b c d v)
def T4.set5 {α : Type} (t : T4 α) (x a b c d : D4) (v : α) : T4 α := t.put x ((t.step x).set4 a b c d v)
def T4.set6 {α : Type} (t : T4 α) (y x a b c d : D4) (v : α) : T4 α := t.put y ((t.step y).set5 x a b c d v)
def T4.set7 {α : Type} (t : T4 α) (z y x a b c d : D4) (v : α) : T4 α := t.put z ((t.step z).set6 y x a b c d v)
def T4.set8 {α : Type} (t : T4 α) (u z y x a b c d : D4) (v : α) : T4 α := t.put u ((t.step u).set7 z y x a b c d v)
structure Tr (α : Type) where
  s : T4 α
  m : T4 α
  l : T4 α
def Tr.leaf {α : Type} : Tr α := ⟨.leaf, .leaf, .leaf⟩
def Tr.get {α : Type} (t : Tr α) (k : Key) : Option α :=
  Tr.casesOn t fun s m l => Key.casesOn k
    (fun a b c d => ((((s.step a).step b).step c).step d).v)
    (fun a b c d e f => ((((((m.step a).step b).step c).step d).step e).step f).v)
    (fun a b c d e f g h => ((((((((l.step a).step b).step c).step d).step e).step f).step g).step h).v)
def Tr.set {α : Type} (t : Tr α) (k : Key) (v : α) : Tr α :=
  Tr.casesOn t fun s m l => Key.casesOn k
    (fun a b c d => ⟨s.set4 a b c d v, m, l⟩)
    (fun a b c d e f => ⟨s, m.set6 a b c d e f v, l⟩)
    (fun a b c d e f g h => ⟨s, m, l.set8 a b c d e f g h v⟩)
def T4.getL {α : Type} : List D4 → T4 α → Option α
  | [], t => t.v
  | d :: l, t => getL l (t.step d)
def T4.setL {α : Type} : List D4 → T4 α → α → T4 α
  | [], _, v => .val v
  | d :: l, t, v => t.put d (setL l (t.step d) v)
theorem T4.step_put {α : Type} (t : T4 α) (d d' : D4) (x : T4 α) : (t.put d x).step d' = if d' = d then x else t.step d' := by
  cases t <;> cases d <;> cases d' <;> rfl
theorem T4.get_setL {α : Type} (v : α) : ∀ (l l' : List D4) (t : T4 α), l'.length = l.length → getL l' (setL l t v) = if l' = l then some v else getL l' t
  | [], [], t, _ => rfl
  | [], _ :: _, t, h => by simp at h
  | _ :: _, [], t, h => by simp at h
  | d :: l, d' :: l', t, h => by
    simp only [getL, setL, step_put]
    by_cases e : d' = d
    · subst e
      rw [if_pos rfl, get_setL v l l' _ (by simpa using h)]
      by_cases e2 : l' = l
      · subst e2; simp
      · simp [e2]
    · simp [e]
theorem Tr.get_leaf {α : Type} (k : Key) : (Tr.leaf : Tr α).get k = none := by cases k <;> rfl
theorem Tr.get_set {α : Type} (k : Key) (v : α) : ∀ (t : Tr α) (k' : Key), (t.set k v).get k' = if k' = k then some v else t.get k' := by
  rintro ⟨s, m, l⟩ k'
  cases k with
  | short a b c d =>
    cases k' with
    | short a' b' c' d' =>
      refine (T4.get_setL v [a, b, c, d] [a', b', c', d'] s rfl).trans ?_
      by_cases e : [a', b', c', d'] = [a, b, c, d]
      · rw [if_pos e]; simp at e; obtain ⟨rfl, rfl, rfl, rfl⟩ := e; rw [if_pos rfl]
      · rw [if_neg e, if_neg (fun h => e (by cases h; rfl))]; rfl
    | _ => rw [if_neg (by simp)]; rfl
  | mid a b c d e f =>
    cases k' with
    | mid a' b' c' d' e' f' =>
      refine (T4.get_setL v [a, b, c, d, e, f] [a', b', c', d', e', f'] m rfl).trans ?_
      by_cases q : [a', b', c', d', e', f'] = [a, b, c, d, e, f]
      · rw [if_pos q]; simp at q; obtain ⟨rfl, rfl, rfl, rfl, rfl, rfl⟩ := q; rw [if_pos rfl]
      · rw [if_neg q, if_neg (fun h => q (by cases h; rfl))]; rfl
    | _ => rw [if_neg (by simp)]; rfl
  | long a b c d e f g h =>
    cases k' with
    | long a' b' c' d' e' f' g' h' =>
      refine (T4.get_setL v [a, b, c, d, e, f, g, h] [a', b', c', d', e', f', g', h'] l rfl).trans ?_
      by_cases q : [a', b', c', d', e', f', g', h'] = [a, b, c, d, e, f, g, h]
      · rw [if_pos q]; simp at q; obtain ⟨rfl, rfl, rfl, rfl, rfl, rfl, rfl, rfl⟩ := q; rw [if_pos rfl]
      · rw [if_neg q, if_neg (fun h => q (by cases h; rfl))]; rfl
    | _ => rw [if_neg (by simp)]; rfl
theorem Tr.get_set_same {α : Type} (t : Tr α) (k : Key) (v : α) : (t.set k v).get k = some v := by simp [Tr.get_set]
theorem Tr.get_set_other {α : Type} (t : Tr α) {k k' : Key} (v : α) (h : k' ≠ k) : (t.set k v).get k' = t.get k' := by simp [Tr.get_set, h]

/-! ### numbers made plain at once -/
def forceN {α : Type} (n : Nat) (k : Nat → α) : α :=
  match n with
  | 0 => k 0
  | m + 1 => k (m + 1)
theorem forceN_eq {α : Type} (n : Nat) (k : Nat → α) : forceN n k = k n := by cases n <;> rfl
def forceI {α : Type} (n : Int) (k : Int → α) : α :=
  match n with
  | .ofNat m => forceN m fun r => k (.ofNat r)
  | .negSucc m => forceN m fun r => k (.negSucc r)
theorem forceI_eq {α : Type} (n : Int) (k : Int → α) : forceI n k = k n := by cases n <;> simp only [forceI, forceN_eq]
/-- a block of the evaluator's heap -/
inductive Blk where
  | cells (t : TypeId) (xs : List Value)
  | map (es : List MapEntry) (clock : Nat)
  | loop (st : LoopState) (pending : Option Code) (tm : Tr (Nat × Value)) (nt : Nat) (params : Array Tmp) (assign body : Code) (df : Nat)
  | marks (shut : Bool)
  | iter (m : Option Nat) (since : Nat) (seen : List Nat) (last : Nat)
  | dead
def Blk.live : Blk → Bool
  | .dead => false
  | _ => true
/-! ### what is known beside -/
inductive Fact where
  | bin (op : BinOp) (u v y : Value)
  | len (t : TypeId) (u y : Value)
  | conv (s d : TypeId) (u y : Value)
  | call (f : FuncId) (args : List Value) (y : Value)
  | un (op : UnOp) (u y : Value)
  | seq (t : TypeId) (x y : Value)
  | mx (hi : Bool) (x y r : Value)
  | same (f : FuncId)
  | mkNZ (f : FuncId) (e : TypeId)
  | ext (f : FuncId) (g : Array Value → Sem Value)
  | bld (t : TypeId)
  | st (f : FuncId) (args : List Value) (H : Tr Blk) (nx : Nat) (v : Value) (H' : Tr Blk) (nx' : Nat)
/-- a type of which a variable in the evaluator's heap has a block of its own -/
def isBld (t : TypeId) : List Fact → Bool
  | [] => false
  | .bld t' :: l => Nat.beq t t' || isBld t l
  | _ :: l => isBld t l
/-- facts about what stays open; rows that were there before and stay as they are -/
class Tab where
  table : List Fact
  globs : List (Nat × List Value)
end Go.Proofs.YtlpepmhpnmnpkaaDoor.Ev
