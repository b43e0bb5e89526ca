/-
  Links (layer 14): All.
-/
import Derived.Test.YtggimkfepcgaoaaLnkM
import Derived.RangeFuncFrom
import Derived.RangeFuncNested
import Derived.RangeFuncBound
import Derived.RangeFuncCalls
import Derived.RangeFuncLeaves
import Derived.TacticsInMore
import Derived.LoopNIn
import Derived.LoopIn
import Derived.OwnWalkIn
import Derived.Maps.AppendAt
import Derived.Shelf.Abstract
import Derived.Shelf.RegionOpen
set_option linter.unusedVariables false
set_option linter.unusedSimpArgs false
section
namespace Go.Proofs.Ytggimkfepcgaoaa.Lnk
open Go Go.RowKit Kit
attribute [local go_sem] Oper.semAt_some
/-- an iterator over a row -/
def It (e : Ending) (w : World) (B : Nat) (xs : List Int) : Prop := ∃ g p cp, e = .returned (.func (.func 89) #[] #[.pointer (some ⟨g, 0, none⟩)]) ∧ B ≤ g ∧ g < w.heap.size ∧ w.cell? ⟨g, 0, none⟩ = some (.slice p xs.length cp) ∧ Ru w p xs ∧ ∀ y, p = some y → B ≤ y.block
set_option maxHeartbeats 1000000 in
/-- the iterator gives the row in its order -/
theorem allseq_in (Kp : World → World → Prop) (l B : Nat) (p : Option Addr) (cp : Nat) (xs : List Int) (hxs : xs.length ≤ 4194304) (J Jx : List Int → World → Prop)
    (hK : ∀ W W', Kp W W' → Ru W p xs → Ru W' p xs)
    (hY : ∀ pre x W, J pre W → pre.length < xs.length → YieldAt Fence.wide 4 Try.prog l #[.int .u32 x] W fun e W' =>
      (e = .returned (.bool true) ∧ J (pre ++ [x]) W' ∧ Kp W W') ∨ (e = .returned (.bool false) ∧ Jx (pre ++ [x]) W'))
    (W : World) (cB : W.cell? ⟨B, 0, none⟩ = some (.slice p xs.length cp)) (hr : Ru W p xs) (h0 : J [] W) :
    CallsIn Fence.wide 5 Try.prog 89 #[.func (.yield l) #[] #[], .pointer (some ⟨B, 0, none⟩)] W fun e W' => (∃ v, e = .returned v) ∧
      ((∃ ys, ys = xs ∧ J ys W') ∨ (∃ pre, pre <+: xs ∧ Jx pre W')) := by
  have HK := Lib.hid hK
  have HY := Lib.hid hY
  have HR := Lib.hid hr
  have HJ := Lib.hid h0
  obtain ⟨n, hn⟩ : ∃ n, xs.length = n := ⟨_, rfl⟩
  rw [hn] at cB hxs
  have HN := Lib.hid hn
  clear hK hY hr h0 hn
  refine callsIn_of_wp Try.func89 rfl trivial ?_ rfl
  simp only [Try.ntmps89, List.size_toArray, List.length_cons, List.length_nil, Nat.reduceAdd, Nat.reduceSub, Array.replicate_succ, Array.replicate_zero, List.push_toArray, List.append_toArray, List.nil_append, List.cons_append]
  gi_wp2
  gi_loopw [7] (fun i wr => ∃ k : Nat, k ≤ n ∧ i = .int .i64 (k : Int) ∧ J (xs.take k) wr ∧ Ru wr p xs) (fun i _ => n - (intOf i).toNat)
  case atStart => exact ⟨0, by omega, rfl, by simpa using HJ.out, HR.out⟩
  case round =>
    obtain ⟨k, hk, rfl, hJs, hru⟩ := hrel
    clear cB
    by_cases hlt : k < n
    · obtain ⟨x, hx⟩ : ∃ x, xs[k]? = some x := ⟨xs[k]'(by rw [HN.out]; omega), List.getElem?_eq_getElem _⟩
      obtain ⟨y, rfl, hyb, e0⟩ := hru k x hx
      have HRU := Lib.hid hru
      have htk : xs.take (k + 1) = xs.take k ++ [x] := by rw [List.take_add_one, hx]; rfl
      have HTK := Lib.hid htk
      have hlt' : (k : Int) < (n : Int) := by omega
      have k0 : (0 : Int) ≤ (k : Int) := by omega
      obtain ⟨fn, tmps, assign, body, hy, hR⟩ := HY.out (xs.take k) x wr hJs (by have := HN.out; rw [List.length_take]; omega)
      clear hJs hru htk hx hyb
      gi_wp2
      refine hR.mono ?_
      rintro e W3 (⟨rfl, hJ3, hk3⟩ | ⟨rfl, hJx3⟩)
      · gi_wp2
        go_roundw
        case rel => exact ⟨k + 1, by omega, by go_num, by rw [HTK.out]; exact hJ3, HK.out _ _ hk3 HRU.out⟩
        case measure => simp [intOf]; omega
      · gi_wp2
        refine bodyPost_ret (results_none rfl _ _ _) rfl ?_
        refine ⟨⟨_, rfl⟩, .inr ⟨xs.take k ++ [x], ?_, hJx3⟩⟩
        rw [← HTK.out]
        exact List.take_prefix _ _
    · obtain rfl : k = n := by omega
      gi_wp2
      go_end0
      exact ⟨⟨_, rfl⟩, .inl ⟨xs, rfl, by rwa [List.take_of_length_le (by rw [HN.out]; omega)] at hJs⟩⟩
theorem ks_from {w : World} {B n c : Nat} {p : Option Addr} {l : List Int} (h : Ks w B (.slice p n c) l) : ∀ y, p = some y → B ≤ y.block := by
  obtain ⟨h0, ⟨hv, hn⟩ | ⟨g, cap, cur, hv, hb', hg, hr⟩⟩ := h
  · cases hv; intro y hy; cases hy
  · cases hv; intro y hy; cases hy; exact hb'
theorem ks_set {w : World} {B b j : Nat} {v x : Value} {l : List Int} (h : Ks w B v l) (hb : b < B) : Ks (w.setCell ⟨b, j, none⟩ x) B v l := by
  obtain ⟨h0, ⟨hv, hn⟩ | ⟨g, cap, cur, hv, hb', hg, hr⟩⟩ := h
  · exact ⟨h0, .inl ⟨hv, hn⟩⟩
  · exact ⟨h0, .inr ⟨g, cap, cur, hv, hb', (Below.heap_setCell _ _ _ g (by show g ≠ b; omega)).trans hg, hr⟩⟩
set_option maxRecDepth 100000 in
theorem All_any {w : World} {c q r cq cr N : Nat} {F : Fd} {Ls : List (List Nat)} (H : Lo w c q r cq cr N F Ls) {h : Nat} {l : List Nat} (hl : Ls[h]? = some l) :
    Calls Try.prog 22 #[.pointer (some ⟨c, 0, none⟩), .int .i64 (h : Int)] w fun e w' => It e w' w.heap.size (ints l) ∧ Below w.heap.size w w' := by
  have hh := (List.getElem?_eq_some_iff.1 hl).1
  have HB := Lib.hid (fun (w' : World) (hb : Below w.heap.size w w') => checkHead_ok (H.below hb) hh)
  have HL := Lib.hid (fun (w' : World) (hb : Below w.heap.size w w') => list_any (H.below hb) hl)
  clear H hl hh
  go_enter Try.func22, Try.ntmps22
  go_wp2_with fail
  have B0 := Lib.hid (box_below w #[.slice none 0 0] 39)
  have hw0 : w.heap.size < (w.alloc (.cells #[.slice none 0 0] 39)).heap.size := by simp
  have hc0 : (w.alloc (.cells #[.slice none 0 0] 39)).heap[w.heap.size]? = some (.cells #[.slice none 0 0] 39 (0, 0)) := one_block w _ _
  obtain ⟨V, hV⟩ : ∃ V, w.alloc (.cells #[.slice none 0 0] 39) = V := ⟨_, rfl⟩
  rw [hV] at B0 hw0 hc0 ⊢
  have HC0 := Lib.hid hc0
  clear hV hc0
  refine (HB.out _ B0.out).mono ?_
  rintro e w1 ⟨rfl, rfl⟩
  go_wp2_with fail
  refine (HL.out _ B0.out).mono ?_
  rintro e w2 ⟨⟨v, rfl, ks⟩, b2⟩
  obtain ⟨p, cp, rfl, -⟩ := ks_ru ks
  have hc2 := (b2.block w.heap.size hw0).trans HC0.out
  have x0 : w2.cell? ⟨w.heap.size, 0, none⟩ = some (.slice none 0 0) := by simp [World.cell?, hc2]
  have x1 : w2.frozen? ⟨w.heap.size, 0, none⟩ = false := by simp [World.frozen?, hc2]
  have KS := Lib.hid (ks_set (j := 0) (x := .slice p (ints l).length cp) ks hw0)
  have hc3 := heap_set (j := 0) hc2 (.slice p (ints l).length cp)
  have HC3 := Lib.hid (show (w2.setCell ⟨w.heap.size, 0, none⟩ (.slice p (ints l).length cp)).cell? ⟨w.heap.size, 0, none⟩ = some (.slice p (ints l).length cp) from by simp [World.cell?, hc3])
  have B2 := Lib.hid (((tr B0.out b2).setCell (p := ⟨w.heap.size, 0, none⟩) (Nat.le_refl _) (.slice p (ints l).length cp)))
  have hs2 : w.heap.size < w2.heap.size := Nat.lt_of_lt_of_le hw0 b2.size
  clear ks b2 hc2 hc3
  go_wp2_with fail
  go_ret
  obtain ⟨p', cp', he', ru⟩ := ks_ru KS.out
  cases he'
  refine ⟨⟨w.heap.size, p, cp, rfl, Nat.le_refl _, by simpa using hs2, HC3.out, ru, fun y hy => Nat.le_trans (Nat.le_of_lt hw0) (ks_from KS.out y hy)⟩, B2.out⟩
set_option maxRecDepth 100000 in
theorem All_bad {w : World} {c q r cq cr N : Nat} {F : Fd} {Ls : List (List Nat)} (H : Lo w c q r cq cr N F Ls) {h : Int} (hh : ¬ (0 ≤ h ∧ h < (Ls.length : Int))) :
    Calls Try.prog 22 #[.pointer (some ⟨c, 0, none⟩), .int .i64 h] w fun e w' => It e w' w.heap.size [] ∧ Below w.heap.size w w' := by
  have HB := Lib.hid (fun (w' : World) (hb : Below w.heap.size w w') => checkHead_bad (H.below hb) hh)
  clear H hh
  go_enter Try.func22, Try.ntmps22
  go_wp2_with fail
  have B0 := Lib.hid (box_below w #[.slice none 0 0] 39)
  have hw0 : w.heap.size < (w.alloc (.cells #[.slice none 0 0] 39)).heap.size := by simp
  have hc0 : (w.alloc (.cells #[.slice none 0 0] 39)).heap[w.heap.size]? = some (.cells #[.slice none 0 0] 39 (0, 0)) := one_block w _ _
  obtain ⟨V, hV⟩ : ∃ V, w.alloc (.cells #[.slice none 0 0] 39) = V := ⟨_, rfl⟩
  rw [hV] at B0 hw0 hc0 ⊢
  have HC0 := Lib.hid hc0
  clear hV hc0
  refine (HB.out _ B0.out).mono ?_
  rintro e w1 ⟨rfl, rfl⟩
  go_wp2_with fail
  go_ret
  refine ⟨⟨w.heap.size, none, 0, rfl, Nat.le_refl _, by simpa using hw0, by have := HC0.out; simp [World.cell?, this], fun i x hx => by simp at hx, fun y hy => by cases hy⟩, B0.out⟩
end Go.Proofs.Ytggimkfepcgaoaa.Lnk
end
section
namespace Go.Proofs.Ytggimkfepcgaoaa.Lnk
open Go Go.RowKit Kit Go.Shelf
attribute [local go_sem] Oper.semAt_some
/-- the blocks between are kept -/
def Mid (lo hi : Nat) (W W' : World) : Prop := ∀ b, lo ≤ b → b < hi → W'.heap[b]? = W.heap[b]?
theorem Mid.trans {lo hi : Nat} {A B C : World} (h : Mid lo hi A B) (k : Mid lo hi B C) : Mid lo hi A C := fun b h1 h2 => (k b h1 h2).trans (h b h1 h2)
theorem Mid.putObj {lo hi : Nat} {w : World} (hn : hi ≤ w.heap.size) (W : World) (l : Nat) (o o' : Obj) (hl : w.heap.size ≤ l) (_ : W.heap[l]? = some o) (_ : o.isCells = false) (_ : o.isWalk = false) : Mid lo hi W (W.putObj l o') :=
  fun b _ h2 => by simp [World.putObj, Array.getElem?_setIfInBounds]; intro h; omega
theorem cell_of_block {w w' : World} {a : Addr} (h : w'.heap[a.block]? = w.heap[a.block]?) : w'.cell? a = w.cell? a := by
  unfold World.cell?
  rw [h]
theorem Mid.ru {lo hi : Nat} {A B : World} {p : Option Addr} {xs : List Int} (h : Mid lo hi A B) (hp : ∀ y, p = some y → lo ≤ y.block) (hq : ∀ (i : Nat) (x : Int), xs[i]? = some x → ∀ y, p = some y → y.block < hi) (hs : A.heap.size ≤ B.heap.size ∨ ∀ y, p = some y → y.block < B.heap.size) (r : Ru A p xs) : Ru B p xs := fun i x hx => by
  obtain ⟨y, rfl, h1, h2⟩ := r i x hx
  refine ⟨y, rfl, ?_, ?_⟩
  · rcases hs with h | h
    · omega
    · exact h y rfl
  · rw [cell_of_block (h _ (by rw [add_block]; exact hp y rfl) (by rw [add_block]; exact hq i x hx y rfl))]
    exact h2
theorem own_lift {w : World} {B C k size : Nat} {e : TypeId} {v : Value} {xs : List Value} (h : w.ownsRow B e size v k xs) (hb : C ≤ B) : w.ownsRow C e size v k xs := by
  obtain ⟨h0, ⟨hv, hn⟩ | ⟨g, cap, cur, hv, hb', hg, hr⟩⟩ := h
  · exact ⟨h0, .inl ⟨hv, hn⟩⟩
  · exact ⟨h0, .inr ⟨g, cap, cur, hv, Nat.le_trans hb hb', hg, hr⟩⟩
theorem appended2 {W w1 : World} {n₀ B : Nat} {t e : TypeId} {size : Nat} {v v' : Value} {k m : Nat} {xs ys : List Value} {tmp : Obj}
    (hv : Boxed W B t v) (hte : t ≠ e) (hrow : W.ownsRow n₀ e size v k xs) (hn₀ : n₀ ≤ W.heap.size) (hB : B < n₀)
    (hown' : w1.ownsRow n₀ e size v' m ys) (hgrow : (W.alloc tmp).grownBy w1 v.ownBlock) :
    Boxed w1 B t v ∧ Boxed (w1.setCell ⟨B, 0, none⟩ v') B t v' ∧ (w1.setCell ⟨B, 0, none⟩ v').ownsRow n₀ e size v' m ys ∧ KeepsOthers W (w1.setCell ⟨B, 0, none⟩ v') ∧ Below B W (w1.setCell ⟨B, 0, none⟩ v') ∧ Mid (B + 1) n₀ W (w1.setCell ⟨B, 0, none⟩ v') := by
  obtain ⟨a1, a2, a3, a4, a5⟩ := hv.appended hte (own_lift hrow (Nat.le_of_lt hB)) (by omega) (Nat.le_refl B) (own_lift hown' (Nat.le_of_lt hB)) hgrow
  refine ⟨a1, a2, hown'.kept (grownBy_setCell' w1 B v') (.inr (a1.not_row hte hown').symm), a4, a5, fun b h1 h2 => ?_⟩
  have e1 := Below.heap_setCell w1 ⟨B, 0, none⟩ v' b (by show b ≠ B; omega)
  rw [e1, hgrow.block b (by simp; omega) ?_]
  · exact Below.heap_alloc _ _ _ (by omega)
  · intro ej
    rcases hrow.2 with ⟨rfl, _⟩ | ⟨g, cap, cur, rfl, hb, _, _⟩
    · simp [Value.ownBlock] at ej
    · obtain rfl : b = g := by simpa [Value.ownBlock] using ej
      omega
set_option maxRecDepth 100000 in
set_option maxHeartbeats 2000000 in
theorem collect_any {w : World} {c : Nat} {h : Int} {xs : List Int} (hlen : xs.length ≤ 5000)
    (hA : ∀ W, Below w.heap.size w W → Calls Try.prog 22 #[.pointer (some ⟨c, 0, none⟩), .int .i64 h] W fun e w' => It e w' W.heap.size xs ∧ Below W.heap.size W w') :
    Calls Try.prog 62 #[.pointer (some ⟨c, 0, none⟩), .int .i64 h] w fun e w' => Kl e w' w.heap.size xs ∧ Below w.heap.size w w' := by
  have HA := Lib.hid hA
  clear hA
  obtain ⟨i0, hi, hz0, hz1, hz2⟩ := u_parts
  refine (callsIn_wide (n := 6)).1 ?_
  refine callsIn_of_wp_marks Try.func62 rfl trivial ?_ rfl
  simp only [Try.ntmps62, List.size_toArray, List.length_cons, List.length_nil, Nat.reduceAdd, Nat.reduceSub, Array.replicate_succ, Array.replicate_zero, List.push_toArray, List.append_toArray, List.nil_append, List.cons_append]
  have hnil := fun (wx : World) (ts lb : Array Value) => run_eql_func_nil (P := Try.prog) wx 47 _ _ _ (.func 89) ts lb Try.underlying47
  gi_wp2
  have B0 := Lib.hid (box_below w #[.slice none 0 0] 39)
  have hw0 : w.heap.size < (w.alloc (.cells #[.slice none 0 0] 39)).heap.size := by simp
  have bO := Lib.hid (Boxed.new w 39 (.slice none 0 0))
  obtain ⟨V, hV⟩ : ∃ V, w.alloc (.cells #[.slice none 0 0] 39) = V := ⟨_, rfl⟩
  rw [hV] at B0 hw0 bO ⊢
  clear hV
  refine ⟨trivial, ?_⟩
  refine (callsIn_wide.2 (HA.out _ B0.out)).mono ?_
  rintro e V1 ⟨⟨g, p, cp, rfl, hg1, hg2, hcg, hru, hpf⟩, b1⟩
  have bO1 : Boxed V1 w.heap.size 39 (.slice none 0 0) := (b1.block _ hw0).trans bO.out
  have hw1 : w.heap.size < V1.heap.size := Nat.lt_of_lt_of_le hw0 b1.size
  have B1 := Lib.hid (tr B0.out b1)
  have hgw : w.heap.size < g := by omega
  have hb0 : Below w.heap.size w V1 := B1.out
  clear b1
  gi_wp2
  refine wpIn_rangeFunc_ownF (encs := fun x : Int => #[.int .u32 x]) (Kp := fun A B => Mid (w.heap.size + 1) V1.heap.size A B ∧ A.heap.size ≤ B.heap.size) (S := fun ys => ys = xs) (Sp := fun pre => pre <+: xs) (N := xs.length) rfl (by decide) (gf := 89) (lb := #[.pointer (some ⟨g, 0, none⟩)]) rfl trivial (enters_of Try.func89 (by kernel_rfl) rfl)
    (w0 := V1)
    (fun l J Jx W hW _ _ hY h0 => allseq_in (fun A B => Mid (w.heap.size + 1) V1.heap.size A B ∧ A.heap.size ≤ B.heap.size) l g p cp xs (by omega) J Jx
      (fun W1 W2 hh r => hh.1.ru (fun y hy => by have := hpf y hy; omega) (fun i x hx y hy => by obtain ⟨y', hy', h1, -⟩ := hru i x hx; rw [hy] at hy'; cases hy'; exact h1) (.inl hh.2) r)
      hY W ((hW.cell (p := ⟨g, 0, none⟩) hg2).trans hcg) (hru.below hW) h0)
    (fun h k => ⟨h.1.trans k.1, Nat.le_trans h.2 k.2⟩) (fun W l o o' h1 h2 h3 h4 => ⟨Mid.putObj (Nat.le_refl _) W l o o' h1 h2 h3 h4, by simp [World.putObj]⟩) (Below.refl _ _) (fun _ => rfl)
    (fun pre W => (∃ v, Boxed W w.heap.size 39 v ∧ W.ownsRow V1.heap.size 38 1 v pre.length (pre.map (Value.int .u32)) ∧ True) ∧ Below w.heap.size V1 W)
    (fun _ _ _ => False)
    (OwnFrom.and (Own.from (holdsRow_own V1.heap.size w.heap.size 39 38 1 (fun pre : List Int => pre.length) (fun pre : List Int => pre.map (Value.int .u32)) (fun _ _ => True)) _) (ownFrom_below (by omega) (by omega)))
    (fun _ _ _ _ _ hs _ _ => hs)
    ⟨⟨_, bO1, World.ownsRow_nil _ _ _ _, trivial⟩, Below.refl _ _⟩
    (fun x => { tmps := #[.pointer (some ⟨c, 0, none⟩), .int .i64 h, undef, undef, .slice none 0 0, .pointer (some ⟨w.heap.size, 0, none⟩), .func (.func 89) #[] #[.pointer (some ⟨g, 0, none⟩)], .int .u32 x, .pointer (some ⟨c, 0, none⟩), .int .i64 h, .func (.func 89) #[] #[.pointer (some ⟨g, 0, none⟩)], .func (.func 89) #[] #[.pointer (some ⟨g, 0, none⟩)], .bool false, undef, .func (.func 89) #[] #[.pointer (some ⟨g, 0, none⟩)], .int .u32 x,
      undef, undef, undef, undef, undef, undef, undef, undef], defers := [] }) ?assign ?body ?done ?stop
  case assign =>
    intro l x W K hK
    gi_wp2
    exact hK
  case body =>
    rintro l pre x W ⟨⟨v, hv, hrow, _⟩, hB⟩ hlt
    have hcc := hv.cell
    have hpl : pre.length < xs.length := hlt
    have hmore : ((pre.length + 1 : Nat) : Int) ≤ 5000 := by omega
    obtain ⟨va, vc, rfl⟩ : ∃ a c, v = .slice a pre.length c := by
      rcases own_cases hrow with ⟨rfl, rfl⟩ | ⟨g', cap', rfl, _⟩
      · exact ⟨none, 0, rfl⟩
      · exact ⟨_, _, rfl⟩
    gi_wp2_with (gi_at_builtin; refine wpListIn_append_own _ rfl _ _ 39 rfl V1.heap.size 38 i0 (.int .u32 0) 1 4 Try.underlying39 hi hz0 hz1 hz2 rfl (by decide) _ _ _ rfl (hrow.alloc _) ⟨W.heap.size, 0, none⟩ 1 1 [.int .u32 x] rfl rfl (cell_one_new _ _ _) (by simp [Value.oneCell']) (by unfold maxLen; omega) (by omega) (by have := hB.size; simp; omega) ?_; intro v' w1 hown' hgrow _; obtain ⟨g', cap', rfl⟩ := ownsRow_succ hown'; obtain ⟨hv1, hv2, hr2, hk2, hb2, hm2⟩ := appended2 hv (by decide) hrow (by have := hB.size; omega) (by omega) hown' hgrow; have hc1 := hv1.cell; have hf1 := hv1.frozen)
    exact ⟨hk2, ⟨hm2, hb2.size⟩, ⟨_, hv2, by simpa using hr2, trivial⟩, hB.trans hb2⟩
  case done =>
    rintro D ys W hD rfl ⟨⟨v, hv, hrow, _⟩, hB⟩ hK
    have hcc := hv.cell
    gi_wp2
    have hd2 : w.heap.size ≤ D := by omega
    refine ⟨by simp, .inl ⟨_, _, rfl, run_takeDeferred hK, ?_⟩⟩
    refine ⟨v, by simp [results, Try.results62, go_sem], ⟨v, rfl, ?_⟩, (hb0.trans hB).trans (belowK_b (w := w) (Nat.le_refl _) W D _ _ hd2 hK rfl rfl)⟩
    unfold Ks
    exact own_lift (ownsRow_putObj hrow _ hK rfl) (Nat.le_of_lt hw1)
  case stop =>
    rintro D c pre W _ _ h _
    exact h.elim
end Go.Proofs.Ytggimkfepcgaoaa.Lnk
end
section
namespace Go.Proofs.Ytggimkfepcgaoaa.Lnk
open Go Go.RowKit Kit Go.Shelf
attribute [local go_sem] Oper.semAt_some
set_option maxHeartbeats 1000000 in
/-- the iterator gives the row in its order; each element is the next one -/
theorem allseq2_in (Kp : World → World → Prop) (l B : Nat) (p : Option Addr) (cp : Nat) (xs : List Int) (hxs : xs.length ≤ 4194304) (J Jx : List Int → World → Prop)
    (hK : ∀ W W', Kp W W' → Ru W p xs → Ru W' p xs)
    (hY : ∀ pre x W, J pre W → xs[pre.length]? = some x → YieldAt Fence.wide 4 Try.prog l #[.int .u32 x] W fun e W' =>
      (e = .returned (.bool true) ∧ J (pre ++ [x]) W' ∧ Kp W W') ∨ (e = .returned (.bool false) ∧ Jx (pre ++ [x]) W'))
    (W : World) (cB : W.cell? ⟨B, 0, none⟩ = some (.slice p xs.length cp)) (hr : Ru W p xs) (h0 : J [] W) :
    CallsIn Fence.wide 5 Try.prog 89 #[.func (.yield l) #[] #[], .pointer (some ⟨B, 0, none⟩)] W fun e W' => (∃ v, e = .returned v) ∧
      ((∃ ys, ys = xs ∧ J ys W') ∨ (∃ pre, pre <+: xs ∧ Jx pre W')) := by
  have HK := Lib.hid hK
  have HY := Lib.hid hY
  have HR := Lib.hid hr
  have HJ := Lib.hid h0
  obtain ⟨n, hn⟩ : ∃ n, xs.length = n := ⟨_, rfl⟩
  rw [hn] at cB hxs
  have HN := Lib.hid hn
  clear hK hY hr h0 hn
  refine callsIn_of_wp Try.func89 rfl trivial ?_ rfl
  simp only [Try.ntmps89, List.size_toArray, List.length_cons, List.length_nil, Nat.reduceAdd, Nat.reduceSub, Array.replicate_succ, Array.replicate_zero, List.push_toArray, List.append_toArray, List.nil_append, List.cons_append]
  gi_wp2
  gi_loopw [7] (fun i wr => ∃ k : Nat, k ≤ n ∧ i = .int .i64 (k : Int) ∧ J (xs.take k) wr ∧ Ru wr p xs) (fun i _ => n - (intOf i).toNat)
  case atStart => exact ⟨0, by omega, rfl, by simpa using HJ.out, HR.out⟩
  case round =>
    obtain ⟨k, hk, rfl, hJs, hru⟩ := hrel
    clear cB
    by_cases hlt : k < n
    · obtain ⟨x, hx⟩ : ∃ x, xs[k]? = some x := ⟨xs[k]'(by rw [HN.out]; omega), List.getElem?_eq_getElem _⟩
      obtain ⟨y, rfl, hyb, e0⟩ := hru k x hx
      have HRU := Lib.hid hru
      have htk : xs.take (k + 1) = xs.take k ++ [x] := by rw [List.take_add_one, hx]; rfl
      have HTK := Lib.hid htk
      have hlt' : (k : Int) < (n : Int) := by omega
      have k0 : (0 : Int) ≤ (k : Int) := by omega
      obtain ⟨fn, tmps, assign, body, hy, hR⟩ := HY.out (xs.take k) x wr hJs (by rw [List.length_take, Nat.min_eq_left (by have := HN.out; omega)]; exact hx)
      clear hJs hru htk hx hyb
      gi_wp2
      refine hR.mono ?_
      rintro e W3 (⟨rfl, hJ3, hk3⟩ | ⟨rfl, hJx3⟩)
      · gi_wp2
        go_roundw
        case rel => exact ⟨k + 1, by omega, by go_num, by rw [HTK.out]; exact hJ3, HK.out _ _ hk3 HRU.out⟩
        case measure => simp [intOf]; omega
      · gi_wp2
        refine bodyPost_ret (results_none rfl _ _ _) rfl ?_
        refine ⟨⟨_, rfl⟩, .inr ⟨xs.take k ++ [x], ?_, hJx3⟩⟩
        rw [← HTK.out]
        exact List.take_prefix _ _
    · obtain rfl : k = n := by omega
      gi_wp2
      go_end0
      exact ⟨⟨_, rfl⟩, .inl ⟨xs, rfl, by rwa [List.take_of_length_le (by rw [HN.out]; omega)] at hJs⟩⟩
/-- an element of a row -/
abbrev El (xs : List Int) : Type := {x : Int // x ∈ xs}
def vals {xs : List Int} (l : List (El xs)) : List Int := l.map fun x => x.val
theorem vals_snoc {xs : List Int} (l : List (El xs)) (x : El xs) : vals (l ++ [x]) = vals l ++ [x.val] := by unfold vals; simp
theorem vals_len {xs : List Int} (l : List (El xs)) : (vals l).length = l.length := by unfold vals; simp
theorem allsub_in (Kp : World → World → Prop) (l B : Nat) (p : Option Addr) (cp : Nat) (xs : List Int) (hxs : xs.length ≤ 4194304) (J Jx : List (El xs) → World → Prop)
    (hK : ∀ W W', Kp W W' → Ru W p xs → Ru W' p xs)
    (hY : ∀ (pre : List (El xs)) (x : El xs) W, J pre W → pre.length < xs.length → YieldAt Fence.wide 4 Try.prog l #[.int .u32 x.val] W fun e W' =>
      (e = .returned (.bool true) ∧ J (pre ++ [x]) W' ∧ Kp W W') ∨ (e = .returned (.bool false) ∧ Jx (pre ++ [x]) W'))
    (W : World) (cB : W.cell? ⟨B, 0, none⟩ = some (.slice p xs.length cp)) (hr : Ru W p xs) (h0 : J [] W) :
    CallsIn Fence.wide 5 Try.prog 89 #[.func (.yield l) #[] #[], .pointer (some ⟨B, 0, none⟩)] W fun e W' => (∃ v, e = .returned v) ∧
      ((∃ ys : List (El xs), vals ys = xs ∧ J ys W') ∨ (∃ pre : List (El xs), vals pre <+: xs ∧ Jx pre W')) := by
  refine (allseq2_in Kp l B p cp xs hxs (fun pre W => ∃ q : List (El xs), vals q = pre ∧ J q W) (fun pre W => ∃ q : List (El xs), vals q = pre ∧ Jx q W) hK (fun pre x W hJ hx => ?_) W cB hr ⟨[], rfl, h0⟩).mono ?_
  · obtain ⟨q, hq, hJ⟩ := hJ
    have hlt := (List.getElem?_eq_some_iff.1 hx).1
    obtain ⟨fn, tmps, assign, body, hy, hR⟩ := hY q ⟨x, List.mem_of_getElem? hx⟩ W hJ (by rw [← hq, vals_len] at hlt; exact hlt)
    refine ⟨fn, tmps, assign, body, hy, hR.mono fun e W' h => ?_⟩
    rcases h with ⟨h1, h2, h3⟩ | ⟨h1, h2⟩
    · exact .inl ⟨h1, ⟨_, by rw [vals_snoc, hq], h2⟩, h3⟩
    · exact .inr ⟨h1, ⟨_, by rw [vals_snoc, hq], h2⟩⟩
  · rintro e W' ⟨h1, ⟨ys, rfl, q, h2, h3⟩ | ⟨pre, hp, q, h2, h3⟩⟩
    · exact ⟨h1, .inl ⟨q, h2, h3⟩⟩
    · exact ⟨h1, .inr ⟨q, by rw [h2]; exact hp, h3⟩⟩
end Go.Proofs.Ytggimkfepcgaoaa.Lnk
end
