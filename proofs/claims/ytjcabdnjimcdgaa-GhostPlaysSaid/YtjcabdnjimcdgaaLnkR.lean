/-
  Links (layer 14): All.
-/
import Derived.Test.YtjcabdnjimcdgaaLnkQ
import Derived.RangeFuncFrom
import Derived.RangeFuncNested
import Derived.RangeFuncBound
import Derived.RangeFuncCalls
import Derived.RangeFuncLeaves
import Derived.TacticsInMore
import Derived.LoopNIn
import Derived.LoopIn
import Derived.OwnWalkIn
set_option linter.unusedVariables false
set_option linter.unusedSimpArgs false
namespace Go.Proofs.Ytjcabdnjimcdgaa.Lnk
open Go Go.RowKit Kit
attribute [local go_sem] Oper.semAt_some
/-- an iterator over a row -/
def It (e : Ending) (w : World) (B : Nat) (xs : List Int) : Prop := ∃ g p cp, e = .returned (.func (.func 100) #[] #[.pointer (some ⟨g, 0, none⟩)]) ∧ B ≤ g ∧ g < w.heap.size ∧ w.cell? ⟨g, 0, none⟩ = some (.slice p xs.length cp) ∧ Ru w p xs ∧ ∀ y, p = some y → B ≤ y.block
set_option maxHeartbeats 1000000 in
/-- the iterator gives the row in its order -/
theorem allseq_in (Kp : World → World → Prop) (l B : Nat) (p : Option Addr) (cp : Nat) (xs : List Int) (hxs : xs.length ≤ 4194304) (J Jx : List Int → World → Prop)
    (hK : ∀ W W', Kp W W' → Ru W p xs → Ru W' p xs)
    (hY : ∀ pre x W, J pre W → pre.length < xs.length → YieldAt Fence.wide 4 Try.prog l #[.int .u32 x] W fun e W' =>
      (e = .returned (.bool true) ∧ J (pre ++ [x]) W' ∧ Kp W W') ∨ (e = .returned (.bool false) ∧ Jx (pre ++ [x]) W'))
    (W : World) (cB : W.cell? ⟨B, 0, none⟩ = some (.slice p xs.length cp)) (hr : Ru W p xs) (h0 : J [] W) :
    CallsIn Fence.wide 5 Try.prog 100 #[.func (.yield l) #[] #[], .pointer (some ⟨B, 0, none⟩)] W fun e W' => (∃ v, e = .returned v) ∧
      ((∃ ys, ys = xs ∧ J ys W') ∨ (∃ pre, pre <+: xs ∧ Jx pre W')) := by
  have HK := Lib.hid hK
  have HY := Lib.hid hY
  have HR := Lib.hid hr
  have HJ := Lib.hid h0
  obtain ⟨n, hn⟩ : ∃ n, xs.length = n := ⟨_, rfl⟩
  rw [hn] at cB hxs
  have HN := Lib.hid hn
  clear hK hY hr h0 hn
  refine callsIn_of_wp Try.func100 rfl trivial ?_ rfl
  simp only [Try.ntmps100, List.size_toArray, List.length_cons, List.length_nil, Nat.reduceAdd, Nat.reduceSub, Array.replicate_succ, Array.replicate_zero, List.push_toArray, List.append_toArray, List.nil_append, List.cons_append]
  gi_wp2
  gi_loopw [7] (fun i wr => ∃ k : Nat, k ≤ n ∧ i = .int .i64 (k : Int) ∧ J (xs.take k) wr ∧ Ru wr p xs) (fun i _ => n - (intOf i).toNat)
  case atStart => exact ⟨0, by omega, rfl, by simpa using HJ.out, HR.out⟩
  case round =>
    obtain ⟨k, hk, rfl, hJs, hru⟩ := hrel
    clear cB
    by_cases hlt : k < n
    · obtain ⟨x, hx⟩ : ∃ x, xs[k]? = some x := ⟨xs[k]'(by rw [HN.out]; omega), List.getElem?_eq_getElem _⟩
      obtain ⟨y, rfl, hyb, e0⟩ := hru k x hx
      have HRU := Lib.hid hru
      have htk : xs.take (k + 1) = xs.take k ++ [x] := by rw [List.take_add_one, hx]; rfl
      have HTK := Lib.hid htk
      have hlt' : (k : Int) < (n : Int) := by omega
      have k0 : (0 : Int) ≤ (k : Int) := by omega
      obtain ⟨fn, tmps, assign, body, hy, hR⟩ := HY.out (xs.take k) x wr hJs (by have := HN.out; rw [List.length_take]; omega)
      clear hJs hru htk hx hyb
      gi_wp2
      refine hR.mono ?_
      rintro e W3 (⟨rfl, hJ3, hk3⟩ | ⟨rfl, hJx3⟩)
      · gi_wp2
        go_roundw
        case rel => exact ⟨k + 1, by omega, by go_num, by rw [HTK.out]; exact hJ3, HK.out _ _ hk3 HRU.out⟩
        case measure => simp [intOf]; omega
      · gi_wp2
        refine bodyPost_ret (results_none rfl _ _ _) rfl ?_
        refine ⟨⟨_, rfl⟩, .inr ⟨xs.take k ++ [x], ?_, hJx3⟩⟩
        rw [← HTK.out]
        exact List.take_prefix _ _
    · obtain rfl : k = n := by omega
      gi_wp2
      go_end0
      exact ⟨⟨_, rfl⟩, .inl ⟨xs, rfl, by rwa [List.take_of_length_le (by rw [HN.out]; omega)] at hJs⟩⟩
theorem ks_from {w : World} {B n c : Nat} {p : Option Addr} {l : List Int} (h : Ks w B (.slice p n c) l) : ∀ y, p = some y → B ≤ y.block := by
  obtain ⟨h0, ⟨hv, hn⟩ | ⟨g, cap, cur, hv, hb', hg, hr⟩⟩ := h
  · cases hv; intro y hy; cases hy
  · cases hv; intro y hy; cases hy; exact hb'
theorem ks_set {w : World} {B b j : Nat} {v x : Value} {l : List Int} (h : Ks w B v l) (hb : b < B) : Ks (w.setCell ⟨b, j, none⟩ x) B v l := by
  obtain ⟨h0, ⟨hv, hn⟩ | ⟨g, cap, cur, hv, hb', hg, hr⟩⟩ := h
  · exact ⟨h0, .inl ⟨hv, hn⟩⟩
  · exact ⟨h0, .inr ⟨g, cap, cur, hv, hb', (Below.heap_setCell _ _ _ g (by show g ≠ b; omega)).trans hg, hr⟩⟩
set_option maxRecDepth 100000 in
theorem All_any {w : World} {c q r cq cr N : Nat} {F : Fd} {Ls : List (List Nat)} (H : Lo w c q r cq cr N F Ls) {h : Nat} {l : List Nat} (hl : Ls[h]? = some l) :
    Calls Try.prog 23 #[.pointer (some ⟨c, 0, none⟩), .int .i64 (h : Int)] w fun e w' => It e w' w.heap.size (ints l) ∧ Below w.heap.size w w' := by
  have hh := (List.getElem?_eq_some_iff.1 hl).1
  have HB := Lib.hid (fun (w' : World) (hb : Below w.heap.size w w') => checkHead_ok (H.below hb) hh)
  have HL := Lib.hid (fun (w' : World) (hb : Below w.heap.size w w') => list_any (H.below hb) hl)
  clear H hl hh
  go_enter Try.func23, Try.ntmps23
  go_wp2_with fail
  have B0 := Lib.hid (box_below w #[.slice none 0 0] 39)
  have hw0 : w.heap.size < (w.alloc (.cells #[.slice none 0 0] 39)).heap.size := by simp
  have hc0 : (w.alloc (.cells #[.slice none 0 0] 39)).heap[w.heap.size]? = some (.cells #[.slice none 0 0] 39 (0, 0)) := one_block w _ _
  obtain ⟨V, hV⟩ : ∃ V, w.alloc (.cells #[.slice none 0 0] 39) = V := ⟨_, rfl⟩
  rw [hV] at B0 hw0 hc0 ⊢
  have HC0 := Lib.hid hc0
  clear hV hc0
  refine (HB.out _ B0.out).mono ?_
  rintro e w1 ⟨rfl, rfl⟩
  go_wp2_with fail
  refine (HL.out _ B0.out).mono ?_
  rintro e w2 ⟨⟨v, rfl, ks⟩, b2⟩
  obtain ⟨p, cp, rfl, -⟩ := ks_ru ks
  have hc2 := (b2.block w.heap.size hw0).trans HC0.out
  have x0 : w2.cell? ⟨w.heap.size, 0, none⟩ = some (.slice none 0 0) := by simp [World.cell?, hc2]
  have x1 : w2.frozen? ⟨w.heap.size, 0, none⟩ = false := by simp [World.frozen?, hc2]
  have KS := Lib.hid (ks_set (j := 0) (x := .slice p (ints l).length cp) ks hw0)
  have hc3 := heap_set (j := 0) hc2 (.slice p (ints l).length cp)
  have HC3 := Lib.hid (show (w2.setCell ⟨w.heap.size, 0, none⟩ (.slice p (ints l).length cp)).cell? ⟨w.heap.size, 0, none⟩ = some (.slice p (ints l).length cp) from by simp [World.cell?, hc3])
  have B2 := Lib.hid (((tr B0.out b2).setCell (p := ⟨w.heap.size, 0, none⟩) (Nat.le_refl _) (.slice p (ints l).length cp)))
  have hs2 : w.heap.size < w2.heap.size := Nat.lt_of_lt_of_le hw0 b2.size
  clear ks b2 hc2 hc3
  go_wp2_with fail
  go_ret
  obtain ⟨p', cp', he', ru⟩ := ks_ru KS.out
  cases he'
  refine ⟨⟨w.heap.size, p, cp, rfl, Nat.le_refl _, by simpa using hs2, HC3.out, ru, fun y hy => Nat.le_trans (Nat.le_of_lt hw0) (ks_from KS.out y hy)⟩, B2.out⟩
set_option maxRecDepth 100000 in
theorem All_bad {w : World} {c q r cq cr N : Nat} {F : Fd} {Ls : List (List Nat)} (H : Lo w c q r cq cr N F Ls) {h : Int} (hh : ¬ (0 ≤ h ∧ h < (Ls.length : Int))) :
    Calls Try.prog 23 #[.pointer (some ⟨c, 0, none⟩), .int .i64 h] w fun e w' => It e w' w.heap.size [] ∧ Below w.heap.size w w' := by
  have HB := Lib.hid (fun (w' : World) (hb : Below w.heap.size w w') => checkHead_bad (H.below hb) hh)
  clear H hh
  go_enter Try.func23, Try.ntmps23
  go_wp2_with fail
  have B0 := Lib.hid (box_below w #[.slice none 0 0] 39)
  have hw0 : w.heap.size < (w.alloc (.cells #[.slice none 0 0] 39)).heap.size := by simp
  have hc0 : (w.alloc (.cells #[.slice none 0 0] 39)).heap[w.heap.size]? = some (.cells #[.slice none 0 0] 39 (0, 0)) := one_block w _ _
  obtain ⟨V, hV⟩ : ∃ V, w.alloc (.cells #[.slice none 0 0] 39) = V := ⟨_, rfl⟩
  rw [hV] at B0 hw0 hc0 ⊢
  have HC0 := Lib.hid hc0
  clear hV hc0
  refine (HB.out _ B0.out).mono ?_
  rintro e w1 ⟨rfl, rfl⟩
  go_wp2_with fail
  go_ret
  refine ⟨⟨w.heap.size, none, 0, rfl, Nat.le_refl _, by simpa using hw0, by have := HC0.out; simp [World.cell?, this], fun i x hx => by simp at hx, fun y hy => by cases hy⟩, B0.out⟩
end Go.Proofs.Ytjcabdnjimcdgaa.Lnk
