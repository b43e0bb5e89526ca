/-
  Links (layer 14): the law's collect.
-/
import Derived.Test.YtjcabdnjimcdgaaLnkR
import Derived.Maps.AppendAt
import Derived.Shelf.Abstract
set_option linter.unusedVariables false
set_option linter.unusedSimpArgs false
namespace Go.Proofs.Ytjcabdnjimcdgaa.Lnk
open Go Go.RowKit Kit Go.Shelf
attribute [local go_sem] Oper.semAt_some
/-- the blocks between are kept -/
def Mid (lo hi : Nat) (W W' : World) : Prop := ∀ b, lo ≤ b → b < hi → W'.heap[b]? = W.heap[b]?
theorem Mid.trans {lo hi : Nat} {A B C : World} (h : Mid lo hi A B) (k : Mid lo hi B C) : Mid lo hi A C := fun b h1 h2 => (k b h1 h2).trans (h b h1 h2)
theorem Mid.putObj {lo hi : Nat} {w : World} (hn : hi ≤ w.heap.size) (W : World) (l : Nat) (o o' : Obj) (hl : w.heap.size ≤ l) (_ : W.heap[l]? = some o) (_ : o.isCells = false) (_ : o.isWalk = false) : Mid lo hi W (W.putObj l o') :=
  fun b _ h2 => by simp [World.putObj, Array.getElem?_setIfInBounds]; intro h; omega
theorem cell_of_block {w w' : World} {a : Addr} (h : w'.heap[a.block]? = w.heap[a.block]?) : w'.cell? a = w.cell? a := by
  unfold World.cell?
  rw [h]
theorem Mid.ru {lo hi : Nat} {A B : World} {p : Option Addr} {xs : List Int} (h : Mid lo hi A B) (hp : ∀ y, p = some y → lo ≤ y.block) (hq : ∀ (i : Nat) (x : Int), xs[i]? = some x → ∀ y, p = some y → y.block < hi) (hs : A.heap.size ≤ B.heap.size ∨ ∀ y, p = some y → y.block < B.heap.size) (r : Ru A p xs) : Ru B p xs := fun i x hx => by
  obtain ⟨y, rfl, h1, h2⟩ := r i x hx
  refine ⟨y, rfl, ?_, ?_⟩
  · rcases hs with h | h
    · omega
    · exact h y rfl
  · rw [cell_of_block (h _ (by rw [add_block]; exact hp y rfl) (by rw [add_block]; exact hq i x hx y rfl))]
    exact h2
theorem own_lift {w : World} {B C k size : Nat} {e : TypeId} {v : Value} {xs : List Value} (h : w.ownsRow B e size v k xs) (hb : C ≤ B) : w.ownsRow C e size v k xs := by
  obtain ⟨h0, ⟨hv, hn⟩ | ⟨g, cap, cur, hv, hb', hg, hr⟩⟩ := h
  · exact ⟨h0, .inl ⟨hv, hn⟩⟩
  · exact ⟨h0, .inr ⟨g, cap, cur, hv, Nat.le_trans hb hb', hg, hr⟩⟩
theorem appended2 {W w1 : World} {n₀ B : Nat} {t e : TypeId} {size : Nat} {v v' : Value} {k m : Nat} {xs ys : List Value} {tmp : Obj}
    (hv : Boxed W B t v) (hte : t ≠ e) (hrow : W.ownsRow n₀ e size v k xs) (hn₀ : n₀ ≤ W.heap.size) (hB : B < n₀)
    (hown' : w1.ownsRow n₀ e size v' m ys) (hgrow : (W.alloc tmp).grownBy w1 v.ownBlock) :
    Boxed w1 B t v ∧ Boxed (w1.setCell ⟨B, 0, none⟩ v') B t v' ∧ (w1.setCell ⟨B, 0, none⟩ v').ownsRow n₀ e size v' m ys ∧ KeepsOthers W (w1.setCell ⟨B, 0, none⟩ v') ∧ Below B W (w1.setCell ⟨B, 0, none⟩ v') ∧ Mid (B + 1) n₀ W (w1.setCell ⟨B, 0, none⟩ v') := by
  obtain ⟨a1, a2, a3, a4, a5⟩ := hv.appended hte (own_lift hrow (Nat.le_of_lt hB)) (by omega) (Nat.le_refl B) (own_lift hown' (Nat.le_of_lt hB)) hgrow
  refine ⟨a1, a2, hown'.kept (grownBy_setCell' w1 B v') (.inr (a1.not_row hte hown').symm), a4, a5, fun b h1 h2 => ?_⟩
  have e1 := Below.heap_setCell w1 ⟨B, 0, none⟩ v' b (by show b ≠ B; omega)
  rw [e1, hgrow.block b (by simp; omega) ?_]
  · exact Below.heap_alloc _ _ _ (by omega)
  · intro ej
    rcases hrow.2 with ⟨rfl, _⟩ | ⟨g, cap, cur, rfl, hb, _, _⟩
    · simp [Value.ownBlock] at ej
    · obtain rfl : b = g := by simpa [Value.ownBlock] using ej
      omega
set_option maxRecDepth 100000 in
set_option maxHeartbeats 2000000 in
theorem collect_any {w : World} {c : Nat} {h : Int} {xs : List Int} (hlen : xs.length ≤ 5000)
    (hA : ∀ W, Below w.heap.size w W → Calls Try.prog 23 #[.pointer (some ⟨c, 0, none⟩), .int .i64 h] W fun e w' => It e w' W.heap.size xs ∧ Below W.heap.size W w') :
    Calls Try.prog 73 #[.pointer (some ⟨c, 0, none⟩), .int .i64 h] w fun e w' => Kl e w' w.heap.size xs ∧ Below w.heap.size w w' := by
  have HA := Lib.hid hA
  clear hA
  obtain ⟨i0, hi, hz0, hz1, hz2⟩ := u_parts
  refine (callsIn_wide (n := 6)).1 ?_
  refine callsIn_of_wp_marks Try.func73 rfl trivial ?_ rfl
  simp only [Try.ntmps73, List.size_toArray, List.length_cons, List.length_nil, Nat.reduceAdd, Nat.reduceSub, Array.replicate_succ, Array.replicate_zero, List.push_toArray, List.append_toArray, List.nil_append, List.cons_append]
  have hnil := fun (wx : World) (ts lb : Array Value) => run_eql_func_nil (P := Try.prog) wx 47 _ _ _ (.func 100) ts lb Try.underlying47
  gi_wp2
  have B0 := Lib.hid (box_below w #[.slice none 0 0] 39)
  have hw0 : w.heap.size < (w.alloc (.cells #[.slice none 0 0] 39)).heap.size := by simp
  have bO := Lib.hid (Boxed.new w 39 (.slice none 0 0))
  obtain ⟨V, hV⟩ : ∃ V, w.alloc (.cells #[.slice none 0 0] 39) = V := ⟨_, rfl⟩
  rw [hV] at B0 hw0 bO ⊢
  clear hV
  refine ⟨trivial, ?_⟩
  refine (callsIn_wide.2 (HA.out _ B0.out)).mono ?_
  rintro e V1 ⟨⟨g, p, cp, rfl, hg1, hg2, hcg, hru, hpf⟩, b1⟩
  have bO1 : Boxed V1 w.heap.size 39 (.slice none 0 0) := (b1.block _ hw0).trans bO.out
  have hw1 : w.heap.size < V1.heap.size := Nat.lt_of_lt_of_le hw0 b1.size
  have B1 := Lib.hid (tr B0.out b1)
  have hgw : w.heap.size < g := by omega
  have hb0 : Below w.heap.size w V1 := B1.out
  clear b1
  gi_wp2
  refine wpIn_rangeFunc_ownF (encs := fun x : Int => #[.int .u32 x]) (Kp := fun A B => Mid (w.heap.size + 1) V1.heap.size A B ∧ A.heap.size ≤ B.heap.size) (S := fun ys => ys = xs) (Sp := fun pre => pre <+: xs) (N := xs.length) rfl (by decide) (gf := 100) (lb := #[.pointer (some ⟨g, 0, none⟩)]) rfl trivial (enters_of Try.func100 (by kernel_rfl) rfl)
    (w0 := V1)
    (fun l J Jx W hW _ _ hY h0 => allseq_in (fun A B => Mid (w.heap.size + 1) V1.heap.size A B ∧ A.heap.size ≤ B.heap.size) l g p cp xs (by omega) J Jx
      (fun W1 W2 hh r => hh.1.ru (fun y hy => by have := hpf y hy; omega) (fun i x hx y hy => by obtain ⟨y', hy', h1, -⟩ := hru i x hx; rw [hy] at hy'; cases hy'; exact h1) (.inl hh.2) r)
      hY W ((hW.cell (p := ⟨g, 0, none⟩) hg2).trans hcg) (hru.below hW) h0)
    (fun h k => ⟨h.1.trans k.1, Nat.le_trans h.2 k.2⟩) (fun W l o o' h1 h2 h3 h4 => ⟨Mid.putObj (Nat.le_refl _) W l o o' h1 h2 h3 h4, by simp [World.putObj]⟩) (Below.refl _ _) (fun _ => rfl)
    (fun pre W => (∃ v, Boxed W w.heap.size 39 v ∧ W.ownsRow V1.heap.size 38 1 v pre.length (pre.map (Value.int .u32)) ∧ True) ∧ Below w.heap.size V1 W)
    (fun _ _ _ => False)
    (OwnFrom.and (Own.from (holdsRow_own V1.heap.size w.heap.size 39 38 1 (fun pre : List Int => pre.length) (fun pre : List Int => pre.map (Value.int .u32)) (fun _ _ => True)) _) (ownFrom_below (by omega) (by omega)))
    (fun _ _ _ _ _ hs _ _ => hs)
    ⟨⟨_, bO1, World.ownsRow_nil _ _ _ _, trivial⟩, Below.refl _ _⟩
    (fun x => { tmps := #[.pointer (some ⟨c, 0, none⟩), .int .i64 h, undef, undef, .slice none 0 0, .pointer (some ⟨w.heap.size, 0, none⟩), .func (.func 100) #[] #[.pointer (some ⟨g, 0, none⟩)], .int .u32 x, .pointer (some ⟨c, 0, none⟩), .int .i64 h, .func (.func 100) #[] #[.pointer (some ⟨g, 0, none⟩)], .func (.func 100) #[] #[.pointer (some ⟨g, 0, none⟩)], .bool false, undef, .func (.func 100) #[] #[.pointer (some ⟨g, 0, none⟩)], .int .u32 x,
      undef, undef, undef, undef, undef, undef, undef, undef], defers := [] }) ?assign ?body ?done ?stop
  case assign =>
    intro l x W K hK
    gi_wp2
    exact hK
  case body =>
    rintro l pre x W ⟨⟨v, hv, hrow, _⟩, hB⟩ hlt
    have hcc := hv.cell
    have hpl : pre.length < xs.length := hlt
    have hmore : ((pre.length + 1 : Nat) : Int) ≤ 5000 := by omega
    obtain ⟨va, vc, rfl⟩ : ∃ a c, v = .slice a pre.length c := by
      rcases own_cases hrow with ⟨rfl, rfl⟩ | ⟨g', cap', rfl, _⟩
      · exact ⟨none, 0, rfl⟩
      · exact ⟨_, _, rfl⟩
    gi_wp2_with (gi_at_builtin; refine wpListIn_append_own _ rfl _ _ 39 rfl V1.heap.size 38 i0 (.int .u32 0) 1 4 Try.underlying39 hi hz0 hz1 hz2 rfl (by decide) _ _ _ rfl (hrow.alloc _) ⟨W.heap.size, 0, none⟩ 1 1 [.int .u32 x] rfl rfl (cell_one_new _ _ _) (by simp [Value.oneCell']) (by unfold maxLen; omega) (by omega) (by have := hB.size; simp; omega) ?_; intro v' w1 hown' hgrow _; obtain ⟨g', cap', rfl⟩ := ownsRow_succ hown'; obtain ⟨hv1, hv2, hr2, hk2, hb2, hm2⟩ := appended2 hv (by decide) hrow (by have := hB.size; omega) (by omega) hown' hgrow; have hc1 := hv1.cell; have hf1 := hv1.frozen)
    exact ⟨hk2, ⟨hm2, hb2.size⟩, ⟨_, hv2, by simpa using hr2, trivial⟩, hB.trans hb2⟩
  case done =>
    rintro D ys W hD rfl ⟨⟨v, hv, hrow, _⟩, hB⟩ hK
    have hcc := hv.cell
    gi_wp2
    have hd2 : w.heap.size ≤ D := by omega
    refine ⟨by simp, .inl ⟨_, _, rfl, run_takeDeferred hK, ?_⟩⟩
    refine ⟨v, by simp [results, Try.results73, go_sem], ⟨v, rfl, ?_⟩, (hb0.trans hB).trans (belowK_b (w := w) (Nat.le_refl _) W D _ _ hd2 hK rfl rfl)⟩
    unfold Ks
    exact own_lift (ownsRow_putObj hrow _ hK rfl) (Nat.le_of_lt hw1)
  case stop =>
    rintro D c pre W _ _ h _
    exact h.elim
end Go.Proofs.Ytjcabdnjimcdgaa.Lnk
