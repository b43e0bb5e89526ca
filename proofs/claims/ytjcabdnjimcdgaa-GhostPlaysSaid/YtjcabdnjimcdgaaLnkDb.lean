/-
  Links (layer 14): the iterator, its elements known to be some of the row's.
-/
import Derived.Test.YtjcabdnjimcdgaaLnkS
import Derived.RangeFuncCalls
import Derived.Shelf.RegionOpen
set_option linter.unusedVariables false
set_option linter.unusedSimpArgs false
namespace Go.Proofs.Ytjcabdnjimcdgaa.Lnk
open Go Go.RowKit Kit Go.Shelf
attribute [local go_sem] Oper.semAt_some
set_option maxHeartbeats 1000000 in
/-- the iterator gives the row in its order; each element is the next one -/
theorem allseq2_in (Kp : World → World → Prop) (l B : Nat) (p : Option Addr) (cp : Nat) (xs : List Int) (hxs : xs.length ≤ 4194304) (J Jx : List Int → World → Prop)
    (hK : ∀ W W', Kp W W' → Ru W p xs → Ru W' p xs)
    (hY : ∀ pre x W, J pre W → xs[pre.length]? = some x → YieldAt Fence.wide 4 Try.prog l #[.int .u32 x] W fun e W' =>
      (e = .returned (.bool true) ∧ J (pre ++ [x]) W' ∧ Kp W W') ∨ (e = .returned (.bool false) ∧ Jx (pre ++ [x]) W'))
    (W : World) (cB : W.cell? ⟨B, 0, none⟩ = some (.slice p xs.length cp)) (hr : Ru W p xs) (h0 : J [] W) :
    CallsIn Fence.wide 5 Try.prog 100 #[.func (.yield l) #[] #[], .pointer (some ⟨B, 0, none⟩)] W fun e W' => (∃ v, e = .returned v) ∧
      ((∃ ys, ys = xs ∧ J ys W') ∨ (∃ pre, pre <+: xs ∧ Jx pre W')) := by
  have HK := Lib.hid hK
  have HY := Lib.hid hY
  have HR := Lib.hid hr
  have HJ := Lib.hid h0
  obtain ⟨n, hn⟩ : ∃ n, xs.length = n := ⟨_, rfl⟩
  rw [hn] at cB hxs
  have HN := Lib.hid hn
  clear hK hY hr h0 hn
  refine callsIn_of_wp Try.func100 rfl trivial ?_ rfl
  simp only [Try.ntmps100, List.size_toArray, List.length_cons, List.length_nil, Nat.reduceAdd, Nat.reduceSub, Array.replicate_succ, Array.replicate_zero, List.push_toArray, List.append_toArray, List.nil_append, List.cons_append]
  gi_wp2
  gi_loopw [7] (fun i wr => ∃ k : Nat, k ≤ n ∧ i = .int .i64 (k : Int) ∧ J (xs.take k) wr ∧ Ru wr p xs) (fun i _ => n - (intOf i).toNat)
  case atStart => exact ⟨0, by omega, rfl, by simpa using HJ.out, HR.out⟩
  case round =>
    obtain ⟨k, hk, rfl, hJs, hru⟩ := hrel
    clear cB
    by_cases hlt : k < n
    · obtain ⟨x, hx⟩ : ∃ x, xs[k]? = some x := ⟨xs[k]'(by rw [HN.out]; omega), List.getElem?_eq_getElem _⟩
      obtain ⟨y, rfl, hyb, e0⟩ := hru k x hx
      have HRU := Lib.hid hru
      have htk : xs.take (k + 1) = xs.take k ++ [x] := by rw [List.take_add_one, hx]; rfl
      have HTK := Lib.hid htk
      have hlt' : (k : Int) < (n : Int) := by omega
      have k0 : (0 : Int) ≤ (k : Int) := by omega
      obtain ⟨fn, tmps, assign, body, hy, hR⟩ := HY.out (xs.take k) x wr hJs (by rw [List.length_take, Nat.min_eq_left (by have := HN.out; omega)]; exact hx)
      clear hJs hru htk hx hyb
      gi_wp2
      refine hR.mono ?_
      rintro e W3 (⟨rfl, hJ3, hk3⟩ | ⟨rfl, hJx3⟩)
      · gi_wp2
        go_roundw
        case rel => exact ⟨k + 1, by omega, by go_num, by rw [HTK.out]; exact hJ3, HK.out _ _ hk3 HRU.out⟩
        case measure => simp [intOf]; omega
      · gi_wp2
        refine bodyPost_ret (results_none rfl _ _ _) rfl ?_
        refine ⟨⟨_, rfl⟩, .inr ⟨xs.take k ++ [x], ?_, hJx3⟩⟩
        rw [← HTK.out]
        exact List.take_prefix _ _
    · obtain rfl : k = n := by omega
      gi_wp2
      go_end0
      exact ⟨⟨_, rfl⟩, .inl ⟨xs, rfl, by rwa [List.take_of_length_le (by rw [HN.out]; omega)] at hJs⟩⟩
/-- an element of a row -/
abbrev El (xs : List Int) : Type := {x : Int // x ∈ xs}
def vals {xs : List Int} (l : List (El xs)) : List Int := l.map fun x => x.val
theorem vals_snoc {xs : List Int} (l : List (El xs)) (x : El xs) : vals (l ++ [x]) = vals l ++ [x.val] := by unfold vals; simp
theorem vals_len {xs : List Int} (l : List (El xs)) : (vals l).length = l.length := by unfold vals; simp
theorem allsub_in (Kp : World → World → Prop) (l B : Nat) (p : Option Addr) (cp : Nat) (xs : List Int) (hxs : xs.length ≤ 4194304) (J Jx : List (El xs) → World → Prop)
    (hK : ∀ W W', Kp W W' → Ru W p xs → Ru W' p xs)
    (hY : ∀ (pre : List (El xs)) (x : El xs) W, J pre W → pre.length < xs.length → YieldAt Fence.wide 4 Try.prog l #[.int .u32 x.val] W fun e W' =>
      (e = .returned (.bool true) ∧ J (pre ++ [x]) W' ∧ Kp W W') ∨ (e = .returned (.bool false) ∧ Jx (pre ++ [x]) W'))
    (W : World) (cB : W.cell? ⟨B, 0, none⟩ = some (.slice p xs.length cp)) (hr : Ru W p xs) (h0 : J [] W) :
    CallsIn Fence.wide 5 Try.prog 100 #[.func (.yield l) #[] #[], .pointer (some ⟨B, 0, none⟩)] W fun e W' => (∃ v, e = .returned v) ∧
      ((∃ ys : List (El xs), vals ys = xs ∧ J ys W') ∨ (∃ pre : List (El xs), vals pre <+: xs ∧ Jx pre W')) := by
  refine (allseq2_in Kp l B p cp xs hxs (fun pre W => ∃ q : List (El xs), vals q = pre ∧ J q W) (fun pre W => ∃ q : List (El xs), vals q = pre ∧ Jx q W) hK (fun pre x W hJ hx => ?_) W cB hr ⟨[], rfl, h0⟩).mono ?_
  · obtain ⟨q, hq, hJ⟩ := hJ
    have hlt := (List.getElem?_eq_some_iff.1 hx).1
    obtain ⟨fn, tmps, assign, body, hy, hR⟩ := hY q ⟨x, List.mem_of_getElem? hx⟩ W hJ (by rw [← hq, vals_len] at hlt; exact hlt)
    refine ⟨fn, tmps, assign, body, hy, hR.mono fun e W' h => ?_⟩
    rcases h with ⟨h1, h2, h3⟩ | ⟨h1, h2⟩
    · exact .inl ⟨h1, ⟨_, by rw [vals_snoc, hq], h2⟩, h3⟩
    · exact .inr ⟨h1, ⟨_, by rw [vals_snoc, hq], h2⟩⟩
  · rintro e W' ⟨h1, ⟨ys, rfl, q, h2, h3⟩ | ⟨pre, hp, q, h2, h3⟩⟩
    · exact ⟨h1, .inl ⟨q, h2, h3⟩⟩
    · exact ⟨h1, .inr ⟨q, by rw [h2]; exact hp, h3⟩⟩
end Go.Proofs.Ytjcabdnjimcdgaa.Lnk
