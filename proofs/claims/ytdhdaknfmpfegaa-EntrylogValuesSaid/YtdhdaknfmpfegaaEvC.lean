/-
  A checked evaluator, part A: values up to the numbers of blocks, a heap of blocks, and when a world bears it.
-/
import Derived.Test.YtdhdaknfmpfegaaKit
import Derived.OrdersHeld
import Derived.Laws.Cells
import Derived.Laws.Rows
section
set_option linter.unusedVariables false
set_option linter.unusedSimpArgs false
namespace Go.Proofs.Ytdhdaknfmpfegaa.Ev
open Go Go.RowKit

/-- where a block stands in the world: block b, from cell s on, and how many cells that block has -/
structure Place where
  b : Nat
  s : Nat
  n : Nat
inductive D4 where
  | d0 | d1 | d2 | d3
  deriving DecidableEq
/-- a block's, or a temporary's, number in digits -/
inductive Key where
  | short (a b c d : D4)
  | mid (a b c d e f : D4)
  | long (a b c d e f g h : D4)
  deriving DecidableEq
def dig (n : Nat) : D4 :=
  Nat.casesOn (Nat.mod n 4) .d0 fun m => Nat.casesOn m .d1 fun m => Nat.casesOn m .d2 fun _ => .d3
def key (n : Nat) : Key :=
  Bool.casesOn (Nat.ble n 255)
    (Bool.casesOn (Nat.ble n 4095)
      (.long (dig (Nat.div n 16384)) (dig (Nat.div n 4096)) (dig (Nat.div n 1024)) (dig (Nat.div n 256)) (dig (Nat.div n 64)) (dig (Nat.div n 16)) (dig (Nat.div n 4)) (dig n))
      (.mid (dig (Nat.div n 1024)) (dig (Nat.div n 256)) (dig (Nat.div n 64)) (dig (Nat.div n 16)) (dig (Nat.div n 4)) (dig n)))
    (.short (dig (Nat.div n 64)) (dig (Nat.div n 16)) (dig (Nat.div n 4)) (dig n))
abbrev Mp := Key → Option Place

mutual
/-- what a value of the evaluator stands for -/
inductive VR (M : Mp) (σ : Nat → Value) : Value → Value → Prop where
  | bool (b : Bool) : VR M σ (.bool b) (.bool b)
  | int (k : IntKind) (n : Int) : VR M σ (.int k n) (.int k n)
  | float (k : FloatKind) (n : Nat) : VR M σ (.float k n) (.float k n)
  | complex (k : FloatKind) (m n : Nat) : VR M σ (.complex k m n) (.complex k m n)
  | str (s : ByteArray) : VR M σ (.string s) (.string s)
  | nilp : VR M σ (.pointer none) (.pointer none)
  | ptr {i : Nat} (o : Nat) {p : Place} (h : M (key i) = some p) : VR M σ (.pointer (some ⟨i, o, none⟩)) (.pointer (some ⟨p.b, p.s + o, none⟩))
  | abs (b o : Nat) : VR M σ (.pointer (some ⟨b, o, some 0⟩)) (.pointer (some ⟨b, o, none⟩))
  | nils (l c : Nat) : VR M σ (.slice none l c) (.slice none l c)
  | slice {i : Nat} (o l c : Nat) {p : Place} (h : M (key i) = some p) : VR M σ (.slice (some ⟨i, o, none⟩) l c) (.slice (some ⟨p.b, p.s + o, none⟩) l c)
  | grown {i : Nat} (o e l m c : Nat) {p : Place} (h : M (key i) = some p) (hl : l ≤ m) (hm : m ≤ c) (hc : p.s + o + c * e ≤ p.n) :
      VR M σ (.slice (some ⟨i, o, some e⟩) l m) (.slice (some ⟨p.b, p.s + o, none⟩) l c)
  | nilm : VR M σ (.map none) (.map none)
  | map {i : Nat} {p : Place} (h : M (key i) = some p) : VR M σ (.map (some i)) (.map (some p.b))
  | opq (i : Nat) (h : (σ i).oneCell' = true) : VR M σ (.chan (some i)) (σ i)
  | any (v : Value) (h : v.oneCell' = true) : VR M σ (.chan none) v
  | func (f : FuncId) {xs ys us vs : List Value} (h : VRs M σ xs us) (h' : VRs M σ ys vs) : VR M σ (.func (.func f) ⟨xs⟩ ⟨ys⟩) (.func (.func f) ⟨us⟩ ⟨vs⟩)
  | yield {l : Nat} {p : Place} (h : M (key l) = some p) : VR M σ (.func (.yield l) ⟨[]⟩ ⟨[]⟩) (.func (.yield p.b) ⟨[]⟩ ⟨[]⟩)
  | nilf : VR M σ .nilFunc .nilFunc
  | iface (t : TypeId) {x v : Value} (h : VR M σ x v) : VR M σ (.iface t x) (.iface t v)
  | nili : VR M σ .nilIface .nilIface
  | agg {xs vs : List Value} (h : VRs M σ xs vs) : VR M σ (.agg ⟨xs⟩) (.agg ⟨vs⟩)
  | tuple {xs vs : List Value} (h : VRs M σ xs vs) : VR M σ (.tuple ⟨xs⟩) (.tuple ⟨vs⟩)
inductive VRs (M : Mp) (σ : Nat → Value) : List Value → List Value → Prop where
  | nil : VRs M σ [] []
  | cons {x v : Value} {xs vs : List Value} (h : VR M σ x v) (h' : VRs M σ xs vs) : VRs M σ (x :: xs) (v :: vs)
end

section
variable {M : Mp} {σ : Nat → Value}
theorem VRs.length {xs vs : List Value} (h : VRs M σ xs vs) : xs.length = vs.length := by
  match xs, vs, h with
  | _, _, .nil => rfl
  | _, _, .cons _ h' => simp [h'.length]
theorem VRs.get {xs vs : List Value} (h : VRs M σ xs vs) {j : Nat} {x : Value} (hj : xs[j]? = some x) : ∃ v, vs[j]? = some v ∧ VR M σ x v := by
  match xs, vs, h, j with
  | _, _, .nil, _ => simp at hj
  | _, _, .cons h0 _, 0 => simp at hj; subst hj; exact ⟨_, by simp, h0⟩
  | _, _, .cons _ h', j + 1 => simp at hj; obtain ⟨v, hv, hr⟩ := h'.get hj; exact ⟨v, by simpa using hv, hr⟩
theorem VRs.of_get : ∀ {xs vs : List Value}, xs.length = vs.length → (∀ (j : Nat) (x v : Value), xs[j]? = some x → vs[j]? = some v → VR M σ x v) → VRs M σ xs vs
  | [], [], _, _ => .nil
  | x :: xs, v :: vs, hl, h => .cons (h 0 x v rfl rfl) (VRs.of_get (by simpa using hl) fun j x v hx hv => h (j + 1) x v (by simpa using hx) (by simpa using hv))
  | [], _ :: _, hl, _ => by simp at hl
  | _ :: _, [], hl, _ => by simp at hl
theorem VRs.append : ∀ {xs vs ys us : List Value}, VRs M σ xs vs → VRs M σ ys us → VRs M σ (xs ++ ys) (vs ++ us)
  | _, _, _, _, .nil, k => k
  | _, _, _, _, .cons h h', k => .cons h (h'.append k)
theorem VRs.take {xs vs : List Value} (n : Nat) (h : VRs M σ xs vs) : VRs M σ (xs.take n) (vs.take n) := by
  match n, xs, vs, h with
  | 0, _, _, _ => exact .nil
  | n + 1, _, _, .nil => exact .nil
  | n + 1, _, _, .cons h h' => exact .cons h (h'.take n)
theorem VRs.drop {xs vs : List Value} (n : Nat) (h : VRs M σ xs vs) : VRs M σ (xs.drop n) (vs.drop n) := by
  match n, xs, vs, h with
  | 0, _, _, h => exact h
  | n + 1, _, _, .nil => exact .nil
  | n + 1, _, _, .cons _ h' => exact h'.drop n
theorem VRs.set {xs vs : List Value} (n : Nat) {x v : Value} (h : VRs M σ xs vs) (k : VR M σ x v) : VRs M σ (xs.set n x) (vs.set n v) := by
  match n, xs, vs, h with
  | _, _, _, .nil => exact .nil
  | 0, _, _, .cons _ h' => exact .cons k h'
  | n + 1, _, _, .cons h h' => exact .cons h (h'.set n k)
theorem VRs.replicate (n : Nat) {x v : Value} (k : VR M σ x v) : VRs M σ (List.replicate n x) (List.replicate n v) := by
  induction n with
  | zero => exact .nil
  | succ n ih => exact .cons k ih

/-- more blocks have their places -/
def Le (M M' : Mp) : Prop := ∀ k p, M k = some p → M' k = some p
theorem Le.refl (M : Mp) : Le M M := fun _ _ h => h
theorem Le.trans {A B C : Mp} (h : Le A B) (k : Le B C) : Le A C := fun i p e => k i p (h i p e)
mutual
theorem VR.mono {M' : Mp} (hl : Le M M') {x v : Value} (h : VR M σ x v) : VR M' σ x v := by
  match h with
  | .bool b => exact .bool b
  | .int k n => exact .int k n
  | .float k n => exact .float k n
  | .complex k m n => exact .complex k m n
  | .str s => exact .str s
  | .nilp => exact .nilp
  | .ptr o h => exact .ptr o (hl _ _ h)
  | .abs b o => exact .abs b o
  | .nils l c => exact .nils l c
  | .slice o l c h => exact .slice o l c (hl _ _ h)
  | .grown o e l m c h a b d => exact .grown o e l m c (hl _ _ h) a b d
  | .nilm => exact .nilm
  | .map h => exact .map (hl _ _ h)
  | .opq i h => exact .opq i h
  | .any v h => exact .any v h
  | .func f h h' => exact .func f (h.mono hl) (h'.mono hl)
  | .yield h => exact .yield (hl _ _ h)
  | .nilf => exact .nilf
  | .iface t h => exact .iface t (h.mono hl)
  | .nili => exact .nili
  | .agg h => exact .agg (h.mono hl)
  | .tuple h => exact .tuple (h.mono hl)
theorem VRs.mono {M' : Mp} (hl : Le M M') {xs vs : List Value} (h : VRs M σ xs vs) : VRs M' σ xs vs := by
  match h with
  | .nil => exact .nil
  | .cons h h' => exact .cons (h.mono hl) (h'.mono hl)
end

mutual
/-- a value without a block's number in it -/
def clean : Value → Bool
  | .bool _ | .int _ _ | .float _ _ | .complex _ _ _ | .string _ | .pointer none | .slice none _ _ | .map none | .nilFunc | .nilIface => true
  | .iface _ v => clean v
  | .agg ⟨l⟩ | .tuple ⟨l⟩ => cleans l
  | .func (.func _) ⟨l⟩ ⟨m⟩ => cleans l && cleans m
  | _ => false
def cleans : List Value → Bool
  | [] => true
  | v :: l => clean v && cleans l
end
mutual
theorem VR.eq_of_clean {x v : Value} (h : VR M σ x v) (hc : clean x = true) : v = x := by
  match h with
  | .bool _ | .int _ _ | .float _ _ | .complex _ _ _ | .str _ | .nilp | .nils _ _ | .nilm | .nilf | .nili => rfl
  | .ptr .. | .abs .. | .slice .. | .grown .. | .map .. | .opq .. | .any .. | .yield .. => simp [clean] at hc
  | .func f h h' => simp [clean] at hc; rw [h.eq_of_clean hc.1, h'.eq_of_clean hc.2]
  | .iface t h => simp [clean] at hc; rw [h.eq_of_clean hc]
  | .agg h => simp [clean] at hc; rw [h.eq_of_clean hc]
  | .tuple h => simp [clean] at hc; rw [h.eq_of_clean hc]
theorem VRs.eq_of_clean {xs vs : List Value} (h : VRs M σ xs vs) (hc : cleans xs = true) : vs = xs := by
  match h with
  | .nil => rfl
  | .cons h h' => simp [cleans] at hc; rw [h.eq_of_clean hc.1, h'.eq_of_clean hc.2]
end
mutual
theorem VR.of_clean (x : Value) (hc : clean x = true) : VR M σ x x := by
  match x with
  | .bool _ => exact .bool _
  | .int _ _ => exact .int _ _
  | .float _ _ => exact .float _ _
  | .complex _ _ _ => exact .complex _ _ _
  | .string _ => exact .str _
  | .pointer none => exact .nilp
  | .pointer (some _) => simp [clean] at hc
  | .slice none _ _ => exact .nils _ _
  | .slice (some _) _ _ => simp [clean] at hc
  | .map none => exact .nilm
  | .map (some _) => simp [clean] at hc
  | .chan _ => simp [clean] at hc
  | .nilFunc => exact .nilf
  | .nilIface => exact .nili
  | .iface _ v => simp [clean] at hc; exact .iface _ (VR.of_clean v hc)
  | .agg ⟨l⟩ => simp [clean] at hc; exact .agg (VRs.of_clean l hc)
  | .tuple ⟨l⟩ => simp [clean] at hc; exact .tuple (VRs.of_clean l hc)
  | .func (.func _) ⟨l⟩ ⟨m⟩ => simp [clean] at hc; exact .func _ (VRs.of_clean l hc.1) (VRs.of_clean m hc.2)
  | .func (.method _) _ _ => simp [clean] at hc
  | .func (.methodOf _ _) _ _ => simp [clean] at hc
  | .func (.via _ _ _ _) _ _ => simp [clean] at hc
  | .func (.yield _) _ _ => simp [clean] at hc
theorem VRs.of_clean (l : List Value) (hc : cleans l = true) : VRs M σ l l := by
  match l with
  | [] => exact .nil
  | v :: l => simp [cleans] at hc; exact .cons (VR.of_clean v hc.1) (VRs.of_clean l hc.2)
end
/-- a value of one cell stays one -/
theorem VR.one {x v : Value} (h : VR M σ x v) (hx : x.oneCell' = true) : v.oneCell' = true := by
  cases h <;> first | rfl | assumption | (simp [Value.oneCell'] at hx)
theorem VR.cells {x v : Value} (h : VR M σ x v) : VRs M σ x.cells.toList v.cells.toList := by
  cases h with
  | agg h => exact h
  | opq i hi =>
    have : (σ i).cells = #[σ i] := by cases hs : σ i <;> simp_all [Value.cells, Value.oneCell']
    rw [this]; exact .cons (.opq i hi) .nil
  | any v hi =>
    have : v.cells = #[v] := by cases v <;> simp_all [Value.cells, Value.oneCell']
    rw [this]; exact .cons (.any v hi) .nil
  | bool b => exact .cons (.bool b) .nil
  | int k n => exact .cons (.int k n) .nil
  | float k n => exact .cons (.float k n) .nil
  | complex k m n => exact .cons (.complex k m n) .nil
  | str s => exact .cons (.str s) .nil
  | nilp => exact .cons .nilp .nil
  | ptr o h => exact .cons (.ptr o h) .nil
  | abs b o => exact .cons (.abs b o) .nil
  | nils l c => exact .cons (.nils l c) .nil
  | slice o l c h => exact .cons (.slice o l c h) .nil
  | grown o e l m c h a b d => exact .cons (.grown o e l m c h a b d) .nil
  | nilm => exact .cons .nilm .nil
  | map h => exact .cons (.map h) .nil
  | func f h h' => exact .cons (.func f h h') .nil
  | yield h => exact .cons (.yield h) .nil
  | nilf => exact .cons .nilf .nil
  | iface t h => exact .cons (.iface t h) .nil
  | nili => exact .cons .nili .nil
  | tuple h => exact .cons (.tuple h) .nil
end

/-! ### a trie of four branches -/
inductive T4 (α : Type) where
  | leaf
  | node (a b c d : T4 α)
  | val (v : α)
def T4.v {α : Type} (t : T4 α) : Option α := T4.casesOn t none (fun _ _ _ _ => none) (fun v => some v)
def T4.step {α : Type} (t : T4 α) (k : D4) : T4 α :=
  T4.casesOn t .leaf (fun a b c d => D4.casesOn k a b c d) (fun _ => .leaf)
def T4.put {α : Type} (t : T4 α) (k : D4) (x : T4 α) : T4 α :=
  T4.casesOn t (D4.casesOn k (.node x .leaf .leaf .leaf) (.node .leaf x .leaf .leaf) (.node .leaf .leaf x .leaf) (.node .leaf .leaf .leaf x)) (fun a b c d => D4.casesOn k (.node x b c d) (.node a x c d) (.node a b x d) (.node a b c x)) (fun _ => D4.casesOn k (.node x .leaf .leaf .leaf) (.node .leaf x .leaf .leaf) (.node .leaf .leaf x .leaf) (.node .leaf .leaf .leaf x))
def T4.set1 {α : Type} (t : T4 α) (d : D4) (v : α) : T4 α := t.put d (.val v)
def T4.set2 {α : Type} (t : T4 α) (c d : D4) (v : α) : T4 α := t.put c ((t.step c).set1 d v)
def T4.set3 {α : Type} (t : T4 α) (b c d : D4) (v : α) : T4 α := t.put b ((t.step b).set2 c d v)
def T4.set4 {α : Type} (t : T4 α) (a b c d : D4) (v : α) : T4 α := t.put a ((t.step a).set3 b c d v)
def T4.set5 {α : Type} (t : T4 α) (x a b c d : D4) (v : α) : T4 α := t.put x ((t.step x).set4 a b c d v)
def T4.set6 {α : Type} (t : T4 α) (y x a b c d : D4) (v : α) : T4 α := t.put y ((t.step y).set5 x a b c d v)
def T4.set7 {α : Type} (t : T4 α) (z y x a b c d : D4) (v : α) : T4 α := t.put z ((t.step z).set6 y x a b c d v)
def T4.set8 {α : Type} (t : T4 α) (u z y x a b c d : D4) (v : α) : T4 α := t.put u ((t.step u).set7 z y x a b c d v)
structure Tr (α : Type) where
  s : T4 α
  m : T4 α
  l : T4 α
def Tr.leaf {α : Type} : Tr α := ⟨.leaf, .leaf, .leaf⟩
def Tr.get {α : Type} (t : Tr α) (k : Key) : Option α :=
  Tr.casesOn t fun s m l => Key.casesOn k
    (fun a b c d => ((((s.step a).step b).step c).step d).v)
    (fun a b c d e f => ((((((m.step a).step b).step c).step d).step e).step f).v)
    (fun a b c d e f g h => ((((((((l.step a).step b).step c).step d).step e).step f).step g).step h).v)
def Tr.set {α : Type} (t : Tr α) (k : Key) (v : α) : Tr α :=
  Tr.casesOn t fun s m l => Key.casesOn k
    (fun a b c d => ⟨s.set4 a b c d v, m, l⟩)
    (fun a b c d e f => ⟨s, m.set6 a b c d e f v, l⟩)
    (fun a b c d e f g h => ⟨s, m, l.set8 a b c d e f g h v⟩)
def T4.getL {α : Type} : List D4 → T4 α → Option α
  | [], t => t.v
  | d :: l, t => getL l (t.step d)
def T4.setL {α : Type} : List D4 → T4 α → α → T4 α
  | [], _, v => .val v
  | d :: l, t, v => t.put d (setL l (t.step d) v)
theorem T4.step_put {α : Type} (t : T4 α) (d d' : D4) (x : T4 α) : (t.put d x).step d' = if d' = d then x else t.step d' := by
  cases t <;> cases d <;> cases d' <;> rfl
theorem T4.get_setL {α : Type} (v : α) : ∀ (l l' : List D4) (t : T4 α), l'.length = l.length → getL l' (setL l t v) = if l' = l then some v else getL l' t
  | [], [], t, _ => rfl
  | [], _ :: _, t, h => by simp at h
  | _ :: _, [], t, h => by simp at h
  | d :: l, d' :: l', t, h => by
    simp only [getL, setL, step_put]
    by_cases e : d' = d
    · subst e
      rw [if_pos rfl, get_setL v l l' _ (by simpa using h)]
      by_cases e2 : l' = l
      · subst e2; simp
      · simp [e2]
    · simp [e]
theorem Tr.get_leaf {α : Type} (k : Key) : (Tr.leaf : Tr α).get k = none := by cases k <;> rfl
theorem Tr.get_set {α : Type} (k : Key) (v : α) : ∀ (t : Tr α) (k' : Key), (t.set k v).get k' = if k' = k then some v else t.get k' := by
  rintro ⟨s, m, l⟩ k'
  cases k with
  | short a b c d =>
    cases k' with
    | short a' b' c' d' =>
      refine (T4.get_setL v [a, b, c, d] [a', b', c', d'] s rfl).trans ?_
      by_cases e : [a', b', c', d'] = [a, b, c, d]
      · rw [if_pos e]; simp at e; obtain ⟨rfl, rfl, rfl, rfl⟩ := e; rw [if_pos rfl]
      · rw [if_neg e, if_neg (fun h => e (by cases h; rfl))]; rfl
    | _ => rw [if_neg (by simp)]; rfl
  | mid a b c d e f =>
    cases k' with
    | mid a' b' c' d' e' f' =>
      refine (T4.get_setL v [a, b, c, d, e, f] [a', b', c', d', e', f'] m rfl).trans ?_
      by_cases q : [a', b', c', d', e', f'] = [a, b, c, d, e, f]
      · rw [if_pos q]; simp at q; obtain ⟨rfl, rfl, rfl, rfl, rfl, rfl⟩ := q; rw [if_pos rfl]
      · rw [if_neg q, if_neg (fun h => q (by cases h; rfl))]; rfl
    | _ => rw [if_neg (by simp)]; rfl
  | long a b c d e f g h =>
    cases k' with
    | long a' b' c' d' e' f' g' h' =>
      refine (T4.get_setL v [a, b, c, d, e, f, g, h] [a', b', c', d', e', f', g', h'] l rfl).trans ?_
      by_cases q : [a', b', c', d', e', f', g', h'] = [a, b, c, d, e, f, g, h]
      · rw [if_pos q]; simp at q; obtain ⟨rfl, rfl, rfl, rfl, rfl, rfl, rfl, rfl⟩ := q; rw [if_pos rfl]
      · rw [if_neg q, if_neg (fun h => q (by cases h; rfl))]; rfl
    | _ => rw [if_neg (by simp)]; rfl
theorem Tr.get_set_same {α : Type} (t : Tr α) (k : Key) (v : α) : (t.set k v).get k = some v := by simp [Tr.get_set]
theorem Tr.get_set_other {α : Type} (t : Tr α) {k k' : Key} (v : α) (h : k' ≠ k) : (t.set k v).get k' = t.get k' := by simp [Tr.get_set, h]

/-! ### numbers made plain at once -/
def forceN {α : Type} (n : Nat) (k : Nat → α) : α :=
  match n with
  | 0 => k 0
  | m + 1 => k (m + 1)
theorem forceN_eq {α : Type} (n : Nat) (k : Nat → α) : forceN n k = k n := by cases n <;> rfl
def forceI {α : Type} (n : Int) (k : Int → α) : α :=
  match n with
  | .ofNat m => forceN m fun r => k (.ofNat r)
  | .negSucc m => forceN m fun r => k (.negSucc r)
theorem forceI_eq {α : Type} (n : Int) (k : Int → α) : forceI n k = k n := by cases n <;> simp only [forceI, forceN_eq]
/-- a block of the evaluator's heap -/
inductive Blk where
  | cells (t : TypeId) (xs : List Value)
  | map (es : List MapEntry) (clock : Nat)
  | loop (st : LoopState) (pending : Option Code) (tm : Tr (Nat × Value)) (nt : Nat) (params : Array Tmp) (assign body : Code) (df : Nat)
  | marks (shut : Bool)
  | iter (m : Option Nat) (since : Nat) (seen : List Nat) (last : Nat)
  | dead
def Blk.live : Blk → Bool
  | .dead => false
  | _ => true
/-! ### what is known beside -/
inductive Fact where
  | bin (op : BinOp) (u v y : Value)
  | len (t : TypeId) (u y : Value)
  | conv (s d : TypeId) (u y : Value)
  | call (f : FuncId) (args : List Value) (y : Value)
  | un (op : UnOp) (u y : Value)
  | seq (t : TypeId) (x y : Value)
  | mx (hi : Bool) (x y r : Value)
  | same (f : FuncId)
  | mkNZ (f : FuncId) (e : TypeId)
  | ext (f : FuncId) (g : Array Value → Sem Value)
  | bld (t : TypeId)
  | st (f : FuncId) (args : List Value) (H : Tr Blk) (nx : Nat) (v : Value) (H' : Tr Blk) (nx' : Nat)
/-- a type of which a variable in the evaluator's heap has a block of its own -/
def isBld (t : TypeId) : List Fact → Bool
  | [] => false
  | .bld t' :: l => Nat.beq t t' || isBld t l
  | _ :: l => isBld t l
/-- facts about what stays open; rows that were there before and stay as they are -/
class Tab where
  table : List Fact
  globs : List (Nat × List Value)
end Go.Proofs.Ytdhdaknfmpfegaa.Ev
end
section
set_option linter.unusedVariables false
set_option linter.unusedSectionVars false
set_option linter.unusedSimpArgs false
namespace Go.Proofs.Ytdhdaknfmpfegaa.Ev
open Go Go.RowKit
variable [Tab]

/-- the temporaries of a frame, by number -/
def TRv (M : Mp) (σ : Nat → Value) (nt : Nat) (tm : Tr (Nat × Value)) (ts : Array Value) : Prop :=
  ts.size = nt ∧ ∀ k t x, tm.get k = some (t, x) → k = key t ∧ t < nt ∧ VR M σ x (ts.getD t undef)
theorem TRv.mono {M M' : Mp} {σ : Nat → Value} {nt : Nat} {tm : Tr (Nat × Value)} {ts : Array Value} (hl : Le M M') (h : TRv M σ nt tm ts) : TRv M' σ nt tm ts :=
  ⟨h.1, fun k t x e => let ⟨h1, h2, h3⟩ := h.2 k t x e; ⟨h1, h2, h3.mono hl⟩⟩
/-- entries of a map -/
inductive ER (M : Mp) (σ : Nat → Value) : List MapEntry → List MapEntry → Prop where
  | nil : ER M σ [] []
  | cons {e f : MapEntry} {es fs : List MapEntry} (hk : f.key = e.key) (hv : VR M σ e.val f.val) (hb : f.born = e.born) (h : ER M σ es fs) : ER M σ (e :: es) (f :: fs)
theorem ER.mono {M M' : Mp} {σ : Nat → Value} (hl : Le M M') {es fs : List MapEntry} (h : ER M σ es fs) : ER M' σ es fs := by
  induction h with
  | nil => exact .nil
  | cons hk hv hb _ ih => exact .cons hk (hv.mono hl) hb ih
/-- what is frozen lies behind the row -/
def Unf (fr : Nat × Nat) (n : Nat) : Prop := fr.1 = fr.2 ∨ n ≤ fr.1
omit [Tab] in
theorem Unf.no {fr : Nat × Nat} {n : Nat} (h : Unf fr n) (j : Nat) (hj : j < n) : (decide (fr.1 ≤ j) && decide (j < fr.2)) = false := by
  rcases h with h | h
  · rw [h, Bool.and_eq_false_iff]
    rcases Nat.lt_or_ge j fr.2 with h1 | h1
    · exact .inl (by simpa using h1)
    · exact .inr (by simpa using h1)
  · rw [Bool.and_eq_false_iff]
    exact .inl (by simp; omega)
/-- where it begins -/
def Sd (t : TypeId) (s : Nat) : Prop := isBld t Tab.table = true → s = 0
def BR (M : Mp) (σ : Nat → Value) : Blk → Place → World → Prop
  | .cells t xs, p, w => ∃ (c : Array Value) (fr : Nat × Nat), w.heap[p.b]? = some (.cells c t fr) ∧ Unf fr c.size ∧ Sd t p.s ∧ c.size = p.n ∧ p.s + xs.length ≤ p.n ∧
      ∀ (j : Nat) (x : Value), xs[j]? = some x → ∃ v, c[p.s + j]? = some v ∧ VR M σ x v
  | .map es clock, p, w => ∃ fs : Array MapEntry, w.heap[p.b]? = some (.map fs clock) ∧ ER M σ es fs.toList
  | .loop st pe tm nt ps asg body df, p, w => ∃ r : Loop, w.heap[p.b]? = some (.loop r) ∧ r.state = st ∧ r.pending = pe ∧ TRv M σ nt tm r.tmps ∧ r.params = ps ∧ r.assign = asg ∧ r.body = body ∧ ∃ q, M (key df) = some q ∧ r.defers = q.b
  | .marks shut, p, w => w.heap[p.b]? = some (.deferred (match shut with | true => none | false => some []))
  | .iter m since seen last, p, w => p.s = 0 ∧ ∃ (mo : Option Nat) (sa : Array Nat), w.heap[p.b]? = some (.mapIter mo since sa last) ∧ sa.toList = seen ∧ (match m with | none => mo = none | some k => ∃ q, M (key k) = some q ∧ mo = some q.b)
  | .dead, _, _ => True
abbrev HP := Key → Option Blk
def upd (H : HP) (k : Key) (b : Blk) : HP := fun k' => if k' = k then some b else H k'
theorem upd_same (H : HP) (k : Key) (b : Blk) : upd H k b k = some b := by simp [upd]
theorem upd_other (H : HP) {k k' : Key} (b : Blk) (h : k' ≠ k) : upd H k b k' = H k' := by simp [upd, h]
theorem Tr.get_upd (t : Tr Blk) (k : Key) (b : Blk) : (t.set k b).get = upd t.get k b := by funext k'; rw [Tr.get_set, upd]
/-- a row that was there before -/
def GR (σ : Nat → Value) (x : Nat × List Value) (w : World) : Prop :=
  ∃ (c : Array Value) (t : TypeId) (fr : Nat × Nat), w.heap[x.1]? = some (.cells c t fr) ∧ ∀ (j : Nat) (y : Value), x.2[j]? = some y → ∃ v, c[j]? = some v ∧ VR (fun _ => none) σ y v
theorem GR.same {σ : Nat → Value} {x : Nat × List Value} {w w' : World} (hw : w'.heap[x.1]? = w.heap[x.1]?) (h : GR σ x w) : GR σ x w' := by
  obtain ⟨c, t, fr, h1, h2⟩ := h
  exact ⟨c, t, fr, hw.trans h1, h2⟩
theorem GR.lt {σ : Nat → Value} {x : Nat × List Value} {w : World} (h : GR σ x w) : x.1 < w.heap.size := by
  obtain ⟨c, t, fr, h1, h2⟩ := h
  exact (Array.getElem?_eq_some_iff.1 h1).1
/-- world w bears heap H -/
structure HR (M : Mp) (σ : Nat → Value) (H : HP) (w : World) : Prop where
  blk : ∀ k b, H k = some b → b.live = true → ∃ p, M k = some p ∧ BR M σ b p w
  inj : ∀ k k' b b' p p', H k = some b → b.live = true → H k' = some b' → b'.live = true → M k = some p → M k' = some p' → p.b = p'.b → k = k'
  dom : ∀ k p, M k = some p → ∃ b, H k = some b
  gl : ∀ x ∈ Tab.globs, GR σ x w ∧ ∀ k b p, H k = some b → b.live = true → M k = some p → p.b ≠ x.1
/-- what a step keeps -/
structure Stp (M : Mp) (H : HP) (w : World) (M' : Mp) (H' : HP) (w' : World) : Prop where
  le : Le M M'
  os : w'.os = w.os
  tape : w'.tape = w.tape
  output : w'.output = w.output
  size : w.heap.size ≤ w'.heap.size
  frame : ∀ j, j < w.heap.size → (∀ k b p, H k = some b → b.live = true → M k = some p → p.b ≠ j) → w'.heap[j]? = w.heap[j]?
  dead : ∀ k, H k = some .dead → H' k = some .dead
  fresh : ∀ k p, M' k = some p → M k = some p ∨ H k = none
  grow : ∀ k b, H k = some b → ∃ b', H' k = some b'
  own : ∀ k b p, H' k = some b → b.live = true → M' k = some p → w.heap.size ≤ p.b ∨ ∃ k0 b0 p0, H k0 = some b0 ∧ b0.live = true ∧ M k0 = some p0 ∧ p0.b = p.b

section
variable {M M' M'' : Mp} {σ : Nat → Value} {H H' H'' : HP} {w w' w'' : World}
theorem Stp.refl (M : Mp) (H : HP) (w : World) : Stp M H w M H w :=
  ⟨Le.refl _, rfl, rfl, rfl, Nat.le_refl _, fun _ _ _ => rfl, fun _ h => h, fun _ _ h => .inl h, fun _ b h => ⟨b, h⟩, fun k b p h l m => .inr ⟨k, b, p, h, l, m, rfl⟩⟩
theorem Stp.trans (h : Stp M H w M' H' w') (k : Stp M' H' w' M'' H'' w'') : Stp M H w M'' H'' w'' where
  le := h.le.trans k.le
  os := k.os.trans h.os
  tape := k.tape.trans h.tape
  output := k.output.trans h.output
  size := Nat.le_trans h.size k.size
  frame := fun j hj hno => by
    refine (k.frame j (Nat.lt_of_lt_of_le hj h.size) ?_).trans (h.frame j hj hno)
    intro k1 b1 p1 g1 l1 m1 e
    rcases h.own k1 b1 p1 g1 l1 m1 with hh | ⟨k0, b0, p0, g0, l0, m0, e0⟩
    · omega
    · exact hno k0 b0 p0 g0 l0 m0 (e0.trans e)
  dead := fun i hi => k.dead i (h.dead i hi)
  fresh := fun i p hp => by
    rcases k.fresh i p hp with h1 | h1
    · exact h.fresh i p h1
    · cases hi : H i with
      | none => exact .inr rfl
      | some b => obtain ⟨b', hb'⟩ := h.grow i b hi; rw [h1] at hb'; cases hb'
  grow := fun i b hi => let ⟨b', hb'⟩ := h.grow i b hi; k.grow i b' hb'
  own := fun k1 b1 p1 g1 l1 m1 => by
    rcases k.own k1 b1 p1 g1 l1 m1 with hh | ⟨k0, b0, p0, g0, l0, m0, e0⟩
    · exact .inl (Nat.le_trans h.size hh)
    · rcases h.own k0 b0 p0 g0 l0 m0 with hh | ⟨k2, b2, p2, g2, l2, m2, e2⟩
      · exact .inl (by omega)
      · exact .inr ⟨k2, b2, p2, g2, l2, m2, e2.trans e0⟩
/-- from the empty heap: nothing that was there has turned -/
theorem Stp.below {M : Mp} (h : Stp M (fun _ => none) w M' H' w') : Below w.heap.size w w' :=
  ⟨h.os, h.tape, h.output, h.size, fun j hj => h.frame j hj fun k b p hg => by cases hg⟩
theorem BR.mono {b : Blk} {p : Place} (hl : Le M M') (h : BR M σ b p w) : BR M' σ b p w := by
  cases b with
  | dead => trivial
  | marks shut => exact h
  | iter m since seen last =>
    obtain ⟨h0, mo, sa, h1, h2, h3⟩ := h
    refine ⟨h0, mo, sa, h1, h2, ?_⟩
    cases m with
    | none => exact h3
    | some k => obtain ⟨q, h4, h5⟩ := h3; exact ⟨q, hl _ _ h4, h5⟩
  | cells t xs =>
    obtain ⟨c, fr, h1, h0, hs, h2, h3, h4⟩ := h
    exact ⟨c, fr, h1, h0, hs, h2, h3, fun j x hx => let ⟨v, hv, hr⟩ := h4 j x hx; ⟨v, hv, hr.mono hl⟩⟩
  | map es clock => obtain ⟨fs, h1, h2⟩ := h; exact ⟨fs, h1, h2.mono hl⟩
  | loop st pe tm nt ps asg body df =>
    obtain ⟨r, h1, h2, h3, h4, h5, h6, h7, q, h8, h9⟩ := h
    exact ⟨r, h1, h2, h3, h4.mono hl, h5, h6, h7, q, hl _ _ h8, h9⟩
theorem BR.same {b : Blk} {p : Place} (hw : w'.heap[p.b]? = w.heap[p.b]?) (h : BR M σ b p w) : BR M σ b p w' := by
  cases b with
  | dead => trivial
  | marks shut => exact hw.trans h
  | iter m since seen last => obtain ⟨h0, mo, sa, h1, h2⟩ := h; exact ⟨h0, mo, sa, hw.trans h1, h2⟩
  | cells t xs =>
    obtain ⟨c, fr, h1, h2⟩ := h
    exact ⟨c, fr, hw.trans h1, h2⟩
  | map es clock => obtain ⟨fs, h1, h2⟩ := h; exact ⟨fs, hw.trans h1, h2⟩
  | loop st pe tm nt ps asg body df => obtain ⟨r, h1, h2⟩ := h; exact ⟨r, hw.trans h1, h2⟩
theorem BR.here {b : Blk} {p : Place} (hb : b.live = true) (h : BR M σ b p w) : ∃ o, w.heap[p.b]? = some o := by
  cases b with
  | dead => cases hb
  | marks shut => exact ⟨_, h⟩
  | iter m since seen last => obtain ⟨h0, mo, sa, h1, -⟩ := h; exact ⟨_, h1⟩
  | cells t xs => obtain ⟨c, fr, h1, -⟩ := h; exact ⟨_, h1⟩
  | map es clock => obtain ⟨fs, h1, -⟩ := h; exact ⟨_, h1⟩
  | loop st pe tm nt ps asg body df => obtain ⟨r, h1, -⟩ := h; exact ⟨_, h1⟩
theorem HR.place_lt (h : HR M σ H w) {k : Key} {b : Blk} {p : Place} (g : H k = some b) (l : b.live = true) (m : M k = some p) : p.b < w.heap.size := by
  obtain ⟨p', hp', hb⟩ := h.blk k b g l
  rw [m] at hp'; cases hp'
  obtain ⟨o, ho⟩ := hb.here l
  exact (Array.getElem?_eq_some_iff.1 ho).1
theorem HR.lt (h : HR M σ H w) {k : Key} {t : TypeId} {xs : List Value} {p : Place} (hg : H k = some (.cells t xs)) (hp : M k = some p) : p.b < w.heap.size := h.place_lt hg rfl hp
/-- what stands where a live block does -/
theorem HR.at (h : HR M σ H w) {k : Key} {b : Blk} {p : Place} (hg : H k = some b) (l : b.live = true) (hp : M k = some p) : BR M σ b p w := by
  obtain ⟨p', hp', hb⟩ := h.blk k b hg l
  rw [hp] at hp'; cases hp'
  exact hb
/-- the cells of a live block -/
theorem HR.cell (h : HR M σ H w) {k : Key} {t : TypeId} {xs : List Value} {p : Place} (hg : H k = some (.cells t xs)) (hp : M k = some p) {o : Nat} {x : Value} (hx : xs[o]? = some x) :
    ∃ v, w.cell? ⟨p.b, p.s + o, none⟩ = some v ∧ VR M σ x v := by
  obtain ⟨c, fr, h1, h0, hsd, h2, h3, h4⟩ := h.at hg rfl hp
  obtain ⟨v, hv, hr⟩ := h4 o x hx
  exact ⟨v, by simp [World.cell?, h1, hv], hr⟩
theorem HR.free (h : HR M σ H w) {k : Key} {t : TypeId} {xs : List Value} {p : Place} (hg : H k = some (.cells t xs)) (hp : M k = some p) {o : Nat} (ho : o < p.n) : w.frozen? ⟨p.b, o, none⟩ = false := by
  obtain ⟨c, fr, h1, h0, hsd, h2, h3, h4⟩ := h.at hg rfl hp
  have := h0.no o (by omega)
  obtain ⟨lo, hi⟩ := fr
  simp only [World.frozen?, h1]
  simpa using this
theorem HR.drew (h : HR M σ H w) : HR M σ H w.drew := ⟨fun k b hg l => let ⟨p, hp, hb⟩ := h.blk k b hg l; ⟨p, hp, hb.same (w := w) (w' := w.drew) rfl⟩, h.inj, h.dom, fun x hx => ⟨(h.gl x hx).1.same (w := w) (w' := w.drew) rfl, (h.gl x hx).2⟩⟩
theorem Stp.drew : Stp M H w M H w.drew := ⟨Le.refl _, rfl, rfl, rfl, Nat.le_refl _, fun _ _ _ => rfl, fun _ h => h, fun _ _ h => .inl h, fun _ b h => ⟨b, h⟩, fun k b p h l m => .inr ⟨k, b, p, h, l, m, rfl⟩⟩
/-- a world that differs nowhere that a live block stands -/
theorem HR.keep (h : HR M σ H w) (hw : ∀ k b p, H k = some b → b.live = true → M k = some p → w'.heap[p.b]? = w.heap[p.b]?) (hg : ∀ x ∈ Tab.globs, w'.heap[x.1]? = w.heap[x.1]?) : HR M σ H w' :=
  ⟨fun k b hg l => let ⟨p, hp, hb⟩ := h.blk k b hg l; ⟨p, hp, hb.same (hw k b p hg l hp)⟩, h.inj, h.dom, fun x hx => ⟨(h.gl x hx).1.same (hg x hx), (h.gl x hx).2⟩⟩

/-- one block is written -/
theorem HR.write (h : HR M σ H w) {k : Key} {b0 b : Blk} {p : Place} (hg : H k = some b0) (l0 : b0.live = true) (hp : M k = some p) (hoth : ∀ j, j ≠ p.b → w'.heap[j]? = w.heap[j]?) (hos : w'.os = w.os) (htp : w'.tape = w.tape) (hou : w'.output = w.output) (hsz : w'.heap.size = w.heap.size)
    (hl : b.live = true) (hb : BR M σ b p w') : HR M σ (upd H k b) w' ∧ Stp M H w M (upd H k b) w' := by
  have f : ∀ {k' b'}, upd H k b k' = some b' → b'.live = true → ∃ b0, H k' = some b0 ∧ b0.live = true := by
    intro k' b' g l
    by_cases hk : k' = k
    · subst hk; exact ⟨_, hg, l0⟩
    · rw [upd_other _ _ hk] at g; exact ⟨_, g, l⟩
  refine ⟨⟨?_, ?_, ?_, ?_⟩, ⟨Le.refl _, hos, htp, hou, by omega, ?_, ?_, fun _ _ h => .inl h, ?_, ?_⟩⟩
  · intro k' b' hg' l'
    by_cases hk : k' = k
    · subst hk
      rw [upd_same] at hg'; cases hg'
      exact ⟨p, hp, hb⟩
    · rw [upd_other _ _ hk] at hg'
      obtain ⟨q, hq, hb'⟩ := h.blk k' b' hg' l'
      refine ⟨q, hq, hb'.same (hoth _ fun e => hk (h.inj k' k b' _ q p hg' l' hg l0 hq hp e))⟩
  · intro k1 k2 b1 b2 p1 p2 g1 l1 g2 l2 m1 m2 e
    obtain ⟨b1', g1', l1'⟩ := f g1 l1
    obtain ⟨b2', g2', l2'⟩ := f g2 l2
    exact h.inj _ _ _ _ _ _ g1' l1' g2' l2' m1 m2 e
  · intro k' q hq
    by_cases hk : k' = k
    · subst hk; exact ⟨_, upd_same _ _ _⟩
    · rw [upd_other _ _ hk]; exact h.dom k' q hq
  · intro x hx
    refine ⟨(h.gl x hx).1.same (hoth _ fun e => (h.gl x hx).2 k b0 p hg l0 hp e.symm), fun k1 b1 p1 g1 l1 m1 => ?_⟩
    obtain ⟨b1', g1', l1'⟩ := f g1 l1
    exact (h.gl x hx).2 k1 b1' p1 g1' l1' m1
  · intro j hj hno
    exact hoth j fun e => hno k _ p hg l0 hp e.symm
  · intro k' hk'
    have e : k' ≠ k := by rintro rfl; rw [hg] at hk'; cases hk'; cases l0
    rw [upd_other _ _ e]; exact hk'
  · intro k' b' hb'
    by_cases e : k' = k
    · subst e; exact ⟨_, upd_same _ _ _⟩
    · rw [upd_other _ _ e]; exact ⟨b', hb'⟩
  · intro k' b' q g l m
    by_cases hk : k' = k
    · subst hk; exact .inr ⟨k', _, q, hg, l0, m, rfl⟩
    · rw [upd_other _ _ hk] at g; exact .inr ⟨k', b', q, g, l, m, rfl⟩
/-- one cell is written -/
theorem HR.set1 (h : HR M σ H w) {k : Key} {t : TypeId} {xs : List Value} {p : Place} (hg : H k = some (.cells t xs)) (hp : M k = some p) {o : Nat} (ho : o < xs.length) {x v : Value} (hr : VR M σ x v) :
    HR M σ (upd H k (.cells t (xs.set o x))) (w.setCell ⟨p.b, p.s + o, none⟩ v) ∧ Stp M H w M (upd H k (.cells t (xs.set o x))) (w.setCell ⟨p.b, p.s + o, none⟩ v) := by
  obtain ⟨c, fr, h1, h0, hsd, h2, h3, h4⟩ := h.at hg rfl hp
  have hlt := (Array.getElem?_eq_some_iff.1 h1).1
  have hblk : (w.setCell ⟨p.b, p.s + o, none⟩ v).heap[p.b]? = some (.cells (c.set (p.s + o) v (by omega)) t fr) := by
    obtain ⟨_, hk⟩ := Array.getElem?_eq_some_iff.1 h1
    show (w.heap.modify p.b _)[p.b]? = _
    rw [Array.getElem?_eq_getElem (by rw [Array.size_modify]; exact hlt), Array.getElem_modify_self, hk]
    have : p.s + o < c.size := by omega
    simp [Array.setIfInBounds, this]
  refine h.write hg rfl hp (fun j hj => Below.heap_setCell w _ v j hj) rfl rfl rfl (by simp) rfl ⟨_, fr, hblk, by simpa using h0, hsd, by simp [h2], by simpa using h3, fun j y hy => ?_⟩
  by_cases hj : j = o
  · subst hj
    rw [List.getElem?_set_self ho] at hy; cases hy
    exact ⟨v, by simp, hr⟩
  · rw [List.getElem?_set_ne (by omega)] at hy
    obtain ⟨u, hu, hr'⟩ := h4 j y hy
    exact ⟨u, by rw [Array.getElem?_set_ne _ (by omega)]; exact hu, hr'⟩
theorem HR.unplaced (h : HR M σ H w) {k : Key} (hk : H k = none) : M k = none := by
  cases hm : M k with
  | none => rfl
  | some p => obtain ⟨b, hb⟩ := h.dom k p hm; rw [hk] at hb; cases hb
def ins (M : Mp) (k : Key) (p : Place) : Mp := fun k' => if k' = k then some p else M k'
theorem ins_same (M : Mp) (k : Key) (p : Place) : ins M k p k = some p := by simp [ins]
theorem ins_le {k : Key} (hM : M k = none) (p : Place) : Le M (ins M k p) := fun k' q hq => by
  have hne : k' ≠ k := by rintro rfl; rw [hM] at hq; cases hq
  simp [ins, hne, hq]
/-- a block comes to stand somewhere -/
theorem HR.adopt (h : HR M σ H w) {k : Key} (hM : M k = none) {p : Place} (hno : ∀ k' b' q, H k' = some b' → b'.live = true → M k' = some q → q.b ≠ p.b) (hng : ∀ x ∈ Tab.globs, p.b ≠ x.1) {b : Blk} (hb : BR (ins M k p) σ b p w) :
    HR (ins M k p) σ (upd H k b) w := by
  have hle : Le M (ins M k p) := ins_le hM _
  refine ⟨?_, ?_, ?_, fun x hx => ⟨(h.gl x hx).1, fun k1 b1 p1 g1 l1 m1 => ?_⟩⟩
  · intro k' b' g l
    by_cases e : k' = k
    · subst e
      rw [upd_same] at g; cases g
      exact ⟨p, ins_same _ _ _, hb⟩
    · rw [upd_other _ _ e] at g
      obtain ⟨q, hq, hb'⟩ := h.blk k' b' g l
      exact ⟨q, hle _ _ hq, hb'.mono hle⟩
  · intro k1 k2 b1 b2 p1 p2 g1 l1 g2 l2 m1 m2 e
    by_cases e1 : k1 = k <;> by_cases e2 : k2 = k
    · exact e1.trans e2.symm
    · rw [upd_other _ _ e2] at g2
      simp only [ins, e1, if_true, Option.some.injEq] at m1
      simp only [ins, e2, if_false] at m2
      have := hno _ _ _ g2 l2 m2
      subst m1; exact absurd e.symm this
    · rw [upd_other _ _ e1] at g1
      simp only [ins, e2, if_true, Option.some.injEq] at m2
      simp only [ins, e1, if_false] at m1
      have := hno _ _ _ g1 l1 m1
      subst m2; exact absurd e this
    · rw [upd_other _ _ e1] at g1
      rw [upd_other _ _ e2] at g2
      simp only [ins, e1, if_false] at m1
      simp only [ins, e2, if_false] at m2
      exact h.inj _ _ _ _ _ _ g1 l1 g2 l2 m1 m2 e
  · intro k' q hq
    by_cases e : k' = k
    · subst e; exact ⟨_, upd_same _ _ _⟩
    · simp only [ins, e, if_false] at hq
      rw [upd_other _ _ e]; exact h.dom k' q hq
  · by_cases e : k1 = k
    · simp only [ins, e, if_true, Option.some.injEq] at m1
      subst m1; exact hng x hx
    · rw [upd_other _ _ e] at g1
      simp only [ins, e, if_false] at m1
      exact (h.gl x hx).2 k1 b1 p1 g1 l1 m1
/-- a block is made -/
theorem HR.make (h : HR M σ H w) {k : Key} (hM : M k = none) {b : Blk} {n : Nat} {o : Obj} (hb : BR (ins M k ⟨w.heap.size, 0, n⟩) σ b ⟨w.heap.size, 0, n⟩ (w.alloc o)) :
    HR (ins M k ⟨w.heap.size, 0, n⟩) σ (upd H k b) (w.alloc o) := by
  have h' : HR M σ H (w.alloc o) := h.keep (fun k' b' q g l m => Below.heap_alloc w o _ (h.place_lt g l m)) fun x hx => Below.heap_alloc w o _ (h.gl x hx).1.lt
  exact h'.adopt hM (fun k' b' q g l m => by have := h.place_lt g l m; show q.b ≠ w.heap.size; omega) (fun x hx => by have := (h.gl x hx).1.lt; show w.heap.size ≠ x.1; omega) hb
theorem heap_new (w : World) (o : Obj) : (w.alloc o).heap[w.heap.size]? = some o := (MapKept.heap_alloc w _).1
/-- a row of cells is made, which may be longer than what is known of it -/
theorem BR.row {M : Mp} {xs : List Value} {vs : Array Value} {t : TypeId} (hl : xs.length ≤ vs.size) (h : ∀ (j : Nat) (x : Value), xs[j]? = some x → ∃ v, vs[j]? = some v ∧ VR M σ x v) :
    BR M σ (.cells t xs) ⟨w.heap.size, 0, vs.size⟩ (w.alloc (.cells vs t)) :=
  ⟨vs, (0, 0), heap_new _ _, .inl rfl, fun _ => rfl, rfl, by simpa using hl, fun j x hx => by simpa using h j x hx⟩
theorem HR.new (h : HR M σ H w) {k : Key} (hM : M k = none) (t : TypeId) {xs vs : List Value} (hr : VRs M σ xs vs) :
    HR (ins M k ⟨w.heap.size, 0, vs.length⟩) σ (upd H k (.cells t xs)) (w.alloc (.cells vs.toArray t)) := by
  refine h.make hM ?_
  have := BR.row (M := ins M k ⟨w.heap.size, 0, vs.length⟩) (σ := σ) (w := w) (t := t) (xs := xs) (vs := vs.toArray) (by simp [hr.length]) fun j x hx => by
    obtain ⟨v, hv, hr'⟩ := hr.get hx
    exact ⟨v, by simpa using hv, hr'.mono (ins_le hM _)⟩
  simpa using this
theorem Stp.alloc {M0 : Mp} {H0 : HP} {w0 : World} (h : Stp M0 H0 w0 M H w) {k : Key} (hM : M k = none) (hk : H0 k = none) (b : Blk) (n : Nat) (o : Obj) :
    Stp M0 H0 w0 (ins M k ⟨w.heap.size, 0, n⟩) (upd H k b) (w.alloc o) where
  le := h.le.trans (ins_le hM _)
  os := h.os
  tape := h.tape
  output := h.output
  size := by have := h.size; simp; omega
  frame := fun j hj hno => (Below.heap_alloc w o j (Nat.lt_of_lt_of_le hj h.size)).trans (h.frame j hj hno)
  dead := fun k' hk' => by
    have e : k' ≠ k := by rintro rfl; rw [hk] at hk'; cases hk'
    rw [upd_other _ _ e]; exact h.dead k' hk'
  fresh := fun k' p hp => by
    by_cases e : k' = k
    · subst e; exact .inr hk
    · simp only [ins, e, if_false] at hp; exact h.fresh k' p hp
  grow := fun k' b' hb' => by
    have e : k' ≠ k := by rintro rfl; rw [hk] at hb'; cases hb'
    rw [upd_other _ _ e]; exact h.grow k' b' hb'
  own := fun k' b' q g l m => by
    by_cases e : k' = k
    · subst e
      simp [ins] at m; subst m; exact .inl h.size
    · rw [upd_other _ _ e] at g
      simp only [ins, e, if_false] at m
      exact h.own k' b' q g l m
/-- a block stands by while a step is made beside it -/
theorem HR.framed {k0 : Key} {b0 : Blk} (h : HR M σ (upd H k0 b0) w) (l0 : b0.live = true) (hd : H k0 = some .dead) (hs : Stp M H w M' H' w') (h' : HR M' σ H' w') :
    HR M' σ (upd H' k0 b0) w' ∧ Stp M (upd H k0 b0) w M' (upd H' k0 b0) w' := by
  have hd' := hs.dead k0 hd
  obtain ⟨p0, hp0, hb0⟩ := h.blk k0 b0 (upd_same _ _ _) l0
  have hnd : ∀ {k b}, H k = some b → b.live = true → k ≠ k0 := fun {k b} g l e => by subst e; rw [hd] at g; cases g; cases l
  have hnd' : ∀ {k b}, H' k = some b → b.live = true → k ≠ k0 := fun {k b} g l e => by subst e; rw [hd'] at g; cases g; cases l
  have hup : ∀ {k b}, H k = some b → b.live = true → upd H k0 b0 k = some b := fun {k b} g l => by rw [upd_other _ _ (hnd g l)]; exact g
  have hlt0 := h.place_lt (upd_same _ _ _) l0 hp0
  have hwin : ∀ k b p, H k = some b → b.live = true → M k = some p → p.b ≠ p0.b := fun k b p g l m e =>
    hnd g l (h.inj k k0 b b0 p p0 (hup g l) l (upd_same _ _ _) l0 m hp0 e)
  have hsame : w'.heap[p0.b]? = w.heap[p0.b]? := hs.frame p0.b hlt0 hwin
  have hp0' := hs.le _ _ hp0
  have hwin' : ∀ k b p, H' k = some b → b.live = true → M' k = some p → p.b ≠ p0.b := fun k b p g l m e => by
    rcases hs.own k b p g l m with hh | ⟨k1, b1, p1, g1, l1, m1, e1⟩
    · omega
    · exact hwin k1 b1 p1 g1 l1 m1 (e1.trans e)
  refine ⟨⟨?_, ?_, ?_, fun x hx => ⟨(h'.gl x hx).1, fun k b p g l m => ?_⟩⟩, ⟨hs.le, hs.os, hs.tape, hs.output, hs.size, ?_, ?_, ?_, ?_, ?_⟩⟩
  · intro k b g l
    by_cases e : k = k0
    · subst e
      rw [upd_same] at g; cases g
      exact ⟨p0, hp0', (hb0.mono hs.le).same hsame⟩
    · rw [upd_other _ _ e] at g; exact h'.blk k b g l
  · intro k1 k2 b1 b2 p1 p2 g1 l1 g2 l2 m1 m2 e
    by_cases e1 : k1 = k0 <;> by_cases e2 : k2 = k0
    · exact e1.trans e2.symm
    · rw [upd_other _ _ e2] at g2
      subst e1; rw [hp0'] at m1; cases m1
      exact absurd e.symm (hwin' k2 b2 p2 g2 l2 m2)
    · rw [upd_other _ _ e1] at g1
      subst e2; rw [hp0'] at m2; cases m2
      exact absurd e (hwin' k1 b1 p1 g1 l1 m1)
    · rw [upd_other _ _ e1] at g1
      rw [upd_other _ _ e2] at g2
      exact h'.inj _ _ _ _ _ _ g1 l1 g2 l2 m1 m2 e
  · intro k p hp
    by_cases e : k = k0
    · subst e; exact ⟨_, upd_same _ _ _⟩
    · rw [upd_other _ _ e]; exact h'.dom k p hp
  · by_cases e : k = k0
    · subst e
      rw [hp0'] at m; cases m
      exact (h.gl x hx).2 k b0 p0 (upd_same _ _ _) l0 hp0
    · rw [upd_other _ _ e] at g; exact (h'.gl x hx).2 k b p g l m
  · intro j hj hno
    exact hs.frame j hj fun k b p g l m => hno k b p (hup g l) l m
  · intro k hk
    by_cases e : k = k0
    · subst e; rw [upd_same] at hk; cases hk; cases l0
    · rw [upd_other _ _ e] at hk ⊢; exact hs.dead k hk
  · intro k p hp
    rcases hs.fresh k p hp with h1 | h1
    · exact .inl h1
    · refine .inr ?_
      have e : k ≠ k0 := by rintro rfl; rw [hd] at h1; cases h1
      rw [upd_other _ _ e]; exact h1
  · intro k b hb
    by_cases e : k = k0
    · subst e; exact ⟨_, upd_same _ _ _⟩
    · rw [upd_other _ _ e] at hb ⊢; exact hs.grow k b hb
  · intro k b q g l m
    by_cases e : k = k0
    · subst e
      rw [hp0'] at m; cases m
      exact .inr ⟨k, b0, p0, upd_same _ _ _, l0, hp0, rfl⟩
    · rw [upd_other _ _ e] at g
      rcases hs.own k b q g l m with hh | ⟨k1, b1, p1, g1, l1, m1, e1⟩
      · exact .inl hh
      · exact .inr ⟨k1, b1, p1, hup g1 l1, l1, m1, e1⟩
/-- a block is forgotten -/
theorem HR.forget {k0 : Key} {b0 : Blk} (h : HR M σ (upd H k0 b0) w) (hd : H k0 = some .dead) : HR M σ H w := by
  have hup : ∀ {k b}, H k = some b → b.live = true → upd H k0 b0 k = some b := fun {k b} g l => by
    rw [upd_other _ _ (fun e => by subst e; rw [hd] at g; cases g; cases l)]; exact g
  refine ⟨fun k b g l => h.blk k b (hup g l) l, fun k1 k2 b1 b2 p1 p2 g1 l1 g2 l2 m1 m2 e => h.inj k1 k2 b1 b2 p1 p2 (hup g1 l1) l1 (hup g2 l2) l2 m1 m2 e, fun k p hp => ?_, fun x hx => ⟨(h.gl x hx).1, fun k b p g l m => (h.gl x hx).2 k b p (hup g l) l m⟩⟩
  by_cases e : k = k0
  · subst e; exact ⟨_, hd⟩
  · obtain ⟨b, hb⟩ := h.dom k p hp; rw [upd_other _ _ e] at hb; exact ⟨b, hb⟩
end
end Go.Proofs.Ytdhdaknfmpfegaa.Ev
end
section
set_option linter.unusedVariables false
set_option linter.unusedSectionVars false
set_option linter.unusedSimpArgs false
namespace Go.Proofs.Ytdhdaknfmpfegaa.Ev
open Go Go.RowKit
variable [Tab]

/-- what a computation yields that asks nothing of the world -/
def still {α : Type} (P : Program) : Sem α → Option α
  | .pure a => some a
  | .program k => still P (k P)
  | .mark _ k => still P k
  | _ => none
theorem still_run {α : Type} {P : Program} (s : Sem α) : ∀ {a : α}, still P s = some a → ∀ w, s.run P w = .ok a w := by
  induction s with
  | pure a => intro b h w; simp [still] at h; subst h; rfl
  | program k ih => intro b h w; simp [still] at h; exact ih P h w
  | mark m k ih => intro b h w; simp [still] at h; exact ih h w
  | _ => intro b h; simp [still] at h
def evClean (P : Program) (s : Sem Value) : Option Value :=
  match still P s with
  | some r => match clean r with | true => some r | false => none
  | none => none

section
variable {P : Program} {M : Mp} {σ : Nat → Value} {H : Tr Blk} {w : World}
/-- a computation ends well -/
def Ok (P : Program) (M : Mp) (σ : Nat → Value) (H : HP) (w : World) (s : Sem Value) (y : Value) (H' : HP) : Prop :=
  ∃ u M' w', s.run P w = .ok u w' ∧ VR M' σ y u ∧ HR M' σ H' w' ∧ Stp M H w M' H' w'
theorem Ok.pure {H : HP} (hH : HR M σ H w) {s : Sem Value} {y u : Value} (h : s.run P w = .ok u w) (hr : VR M σ y u) : Ok P M σ H w s y H :=
  ⟨u, M, w, h, hr, hH, Stp.refl _ _ _⟩
theorem Ok.clean {H : HP} (hH : HR M σ H w) {s : Sem Value} {y : Value} (h : evClean P s = some y) : Ok P M σ H w s y H := by
  unfold evClean at h
  split at h
  · rename_i r hr
    split at h
    · rename_i hc
      cases h
      exact .pure hH (still_run s hr w) (VR.of_clean _ hc)
    · cases h
  · cases h

def aggT (P : Program) (t : TypeId) : Option Bool :=
  match P.underlying t with
  | some (.struct _) | some (.array _ _) => some true
  | some _ => some false
  | none => none
def sizeT (P : Program) (t : TypeId) : Option Nat :=
  match P.info? t with
  | some i => some i.size
  | none => none
omit [Tab] in
theorem run_underlying' {t : TypeId} {d : TypeDesc} (h : P.underlying t = some d) (w : World) : (underlying t).run P w = .ok d w := by
  simp [underlying, h]
omit [Tab] in
theorem run_isAgg' {t : TypeId} {b : Bool} (h : aggT P t = some b) (w : World) : (isAgg t).run P w = .ok b w := by
  unfold aggT at h
  cases hu : P.underlying t with
  | none => rw [hu] at h; cases h
  | some d =>
    rw [hu] at h
    cases d <;> simp at h <;> subst h <;> simp [isAgg, run_underlying' hu]
omit [Tab] in
theorem run_typeInfo' {t : TypeId} {i : TypeInfo} (h : P.info? t = some i) (w : World) : (typeInfo t).run P w = .ok i w := by
  simp [typeInfo, h]
omit [Tab] in
theorem run_sizeOf' {t : TypeId} {n : Nat} (h : sizeT P t = some n) (w : World) : (sizeOf t).run P w = .ok n w := by
  unfold sizeT at h
  split at h
  · rename_i i hi
    cases h
    simp [sizeOf, run_typeInfo' hi]
  · cases h

/-- n cells of a list from o on -/
def takeE {α : Type} : Nat → List α → Option (List α)
  | 0, _ => some []
  | _ + 1, [] => none
  | n + 1, x :: l => match takeE n l with | some r => some (x :: r) | none => none
theorem takeE_get {α : Type} : ∀ {n : Nat} {l r : List α}, takeE n l = some r → r.length = n ∧ ∀ j, j < n → r[j]? = l[j]?
  | 0, _, _, h => by simp [takeE] at h; subst h; simp
  | n + 1, [], _, h => by simp [takeE] at h
  | n + 1, x :: l, r, h => by
    simp only [takeE] at h
    split at h
    · rename_i r' hr'
      cases h
      obtain ⟨h1, h2⟩ := takeE_get hr'
      refine ⟨by simp [h1], fun j hj => ?_⟩
      match j with
      | 0 => rfl
      | j + 1 => simpa using h2 j (by omega)
    · cases h
def cellsE (H : Tr Blk) (i o n : Nat) : Option (List Value) :=
  match H.get (key i) with
  | some (.cells _ xs) => takeE n (xs.drop o)
  | _ => none
theorem cellsE_run (hH : HR M σ H.get w) {i o n : Nat} {ys : List Value} (h : cellsE H i o n = some ys) {p : Place} (hp : M (key i) = some p) :
    ∃ vs, vs.length = n ∧ VRs M σ ys vs ∧ (∀ j v, vs[j]? = some v → w.cell? ⟨p.b, p.s + o + j, none⟩ = some v) := by
  unfold cellsE at h
  split at h
  · rename_i t xs hg
    obtain ⟨hl, hj⟩ := takeE_get h
    have hcell : ∀ j, j < n → ∃ x v, ys[j]? = some x ∧ w.cell? ⟨p.b, p.s + o + j, none⟩ = some v ∧ VR M σ x v := fun j hjn => by
      have e := hj j hjn
      rw [List.getElem?_drop] at e
      have hx : ys[j]? = some (ys[j]'(by omega)) := List.getElem?_eq_getElem (by omega)
      rw [hx] at e
      obtain ⟨v, hv, hr⟩ := hH.cell hg hp e.symm
      exact ⟨_, v, hx, by rw [show p.s + o + j = p.s + (o + j) by omega]; exact hv, hr⟩
    refine ⟨(List.range n).map fun j => (w.cell? ⟨p.b, p.s + o + j, none⟩).getD undef, by simp, VRs.of_get (by simp [hl]) ?_, ?_⟩
    · intro j x v hx hv
      have hjn : j < n := by
        have := (List.getElem?_eq_some_iff.1 hx).1
        omega
      obtain ⟨x', v', hx', hv', hr⟩ := hcell j hjn
      rw [hx] at hx'; cases hx'
      simp [hjn, hv'] at hv; subst hv; exact hr
    · intro j v hv
      have hjn : j < n := by
        have := (List.getElem?_eq_some_iff.1 hv).1
        simpa using this
      obtain ⟨x', v', hx', hv', hr⟩ := hcell j hjn
      simp [hjn, hv'] at hv; subst hv; exact hv'
  · cases h
/-- a variable is loaded -/
def loadE (P : Program) (t : TypeId) (H : Tr Blk) (i o : Nat) : Option Value :=
  match aggT P t with
  | some true => match sizeT P t with
    | some n => match cellsE H i o n with | some l => some (.agg ⟨l⟩) | none => none
    | none => none
  | some false => match H.get (key i) with
    | some (.cells _ xs) => xs[o]?
    | _ => none
  | none => none
theorem addr_add (b o j : Nat) : (⟨b, o, none⟩ : Addr).add j = ⟨b, o + j, none⟩ := by
  unfold Addr.add
  split
  · subst_vars; rfl
  · rfl
theorem loadVar_run (hH : HR M σ H.get w) {t : TypeId} {i o : Nat} {y : Value} (h : loadE P t H i o = some y) {p : Place} (hp : M (key i) = some p) :
    ∃ u, (loadVar t ⟨p.b, p.s + o, none⟩).run P w = .ok u w ∧ VR M σ y u := by
  unfold loadE at h
  split at h
  · rename_i ha
    split at h
    · rename_i n hn
      split at h
      · rename_i l hl
        cases h
        obtain ⟨vs, h1, h2, h3⟩ := cellsE_run hH hl hp
        refine ⟨.agg vs.toArray, ?_, .agg h2⟩
        have hc := run_loadCells_list (P := P) w ⟨p.b, p.s + o, none⟩ vs (fun j v hv => by rw [addr_add]; exact h3 j v hv)
        rw [h1] at hc
        simp [loadVar, run_isAgg' ha, run_sizeOf' hn, hc]
      · cases h
    · cases h
  · rename_i ha
    split at h
    · rename_i t' xs hg
      obtain ⟨v, hv, hr⟩ := hH.cell hg hp h
      exact ⟨v, by simp [loadVar, run_isAgg' ha, hv], hr⟩
    · cases h
  · cases h
/-- a row that was there before -/
def globE (b : Nat) : List (Nat × List Value) → Option (List Value)
  | [] => none
  | (b', xs) :: l => match Nat.beq b b' with
    | true => some xs
    | false => globE b l
theorem globE_mem {b : Nat} {xs : List Value} : ∀ {l : List (Nat × List Value)}, globE b l = some xs → (b, xs) ∈ l
  | [], h => by cases h
  | (b', ys) :: l, h => by
    simp only [globE] at h
    split at h
    · rename_i hb; cases h; rw [Nat.eq_of_beq_eq_true hb]; exact List.mem_cons_self
    · exact List.mem_cons_of_mem _ (globE_mem h)
def loadG (P : Program) (t : TypeId) (b o : Nat) : Option Value :=
  match globE b Tab.globs with
  | none => none
  | some xs => match aggT P t with
    | some true => match sizeT P t with
      | some n => match takeE n (xs.drop o) with | some l => some (.agg ⟨l⟩) | none => none
      | none => none
    | some false => xs[o]?
    | none => none
theorem le_none (M : Mp) : Le (fun _ => none) M := fun _ _ h => by cases h
theorem loadG_run (hH : HR M σ H.get w) {t : TypeId} {b o : Nat} {y : Value} (h : loadG P t b o = some y) :
    ∃ u, (loadVar t ⟨b, o, none⟩).run P w = .ok u w ∧ VR M σ y u := by
  unfold loadG at h
  split at h
  · cases h
  · rename_i xs hxs
    obtain ⟨⟨c, t', fr, h1, h2⟩, -⟩ := hH.gl _ (globE_mem hxs)
    simp only at h1 h2
    split at h
    · rename_i ha
      split at h
      · rename_i n hn
        split at h
        · rename_i l hl
          cases h
          obtain ⟨hlen, hj⟩ := takeE_get hl
          have hget : ∀ j, j < n → ∃ v, w.cell? ⟨b, o + j, none⟩ = some v ∧ ∃ x, l[j]? = some x ∧ VR M σ x v := fun j hjn => by
            have e := hj j hjn
            rw [List.getElem?_drop] at e
            have hx : l[j]? = some (l[j]'(by omega)) := List.getElem?_eq_getElem (by omega)
            rw [hx] at e
            obtain ⟨v, hv, hr⟩ := h2 (o + j) _ e.symm
            exact ⟨v, by simp [World.cell?, h1, hv], _, hx, hr.mono (le_none M)⟩
          have hvs : VRs M σ l ((List.range n).map fun j => (w.cell? ⟨b, o + j, none⟩).getD undef) := by
            refine VRs.of_get (by simp [hlen]) fun j x v hx hv => ?_
            have hjn : j < n := by
              have := (List.getElem?_eq_some_iff.1 hx).1
              omega
            obtain ⟨v', hv', x', hx', hr⟩ := hget j hjn
            rw [hx] at hx'; cases hx'
            simp [hjn, hv'] at hv; subst hv; exact hr
          refine ⟨.agg ((List.range n).map fun j => (w.cell? ⟨b, o + j, none⟩).getD undef).toArray, ?_, .agg hvs⟩
          have hc := run_loadCells_list (P := P) w ⟨b, o, none⟩ ((List.range n).map fun j => (w.cell? ⟨b, o + j, none⟩).getD undef) (fun j v hv => by
            rw [addr_add]
            have hjn : j < n := by
              have := (List.getElem?_eq_some_iff.1 hv).1
              simpa using this
            obtain ⟨v', hv', -⟩ := hget j hjn
            simp [hjn, hv'] at hv; subst hv; exact hv')
          rw [List.length_map, List.length_range] at hc
          simp [loadVar, run_isAgg' ha, run_sizeOf' hn, hc]
        · cases h
      · cases h
    · rename_i ha
      obtain ⟨v, hv, hr⟩ := h2 o y h
      exact ⟨v, by simp [loadVar, run_isAgg' ha, World.cell?, h1, hv], hr.mono (le_none M)⟩
    · cases h
end
end Go.Proofs.Ytdhdaknfmpfegaa.Ev
end
