/-
  Plain LRU lists (layer 15): last, of the law LruHolds.
-/
import Derived.Test.YtajkcockeccdoaaLruH
import Derived.Test.YtajkcockeccdoaaLruM
import Derived.Test.YtajkcockeccdoaaLnkDa
set_option linter.unusedVariables false
set_option linter.unusedSimpArgs false
namespace Go.Proofs.Ytajkcockeccdoaa.Lru
open Go Go.RowKit Kit Go.Shelf Lnk
set_option maxRecDepth 100000 in
set_option maxHeartbeats 4000000 in
theorem last_any {w : World} {p : Option Addr} {n c most : Nat} {xs : List Nat} (hl : xs.length = n) (hn : n ≤ 1000) (hm : most ≤ 1000) (r : Ru w p (ints xs)) :
    Calls Try.prog 52 #[.slice p n c, .int .i64 (most : Int)] w fun e w' => Kl e w' w.heap.size (ints (lastG most xs.reverse [])) ∧ Below w.heap.size w w' := by
  have HR := Lib.hid (fun (v : World) (hb : Below w.heap.size w v) => r.below hb)
  have HL := Lib.hid hl
  have wn : IntKind.i64.wrap ((n : Int) - 1) = (n : Int) - 1 := IntWalk.i64_in ((n : Int) - 1) (by omega)
  clear hl r
  go_enter Try.func52, Try.ntmps52
  go_wp2_with fail
  obtain ⟨i0, hi0, hz0, hz1, hz2⟩ := u_parts
  go_loopw [5, 6] (fun out i wr => ∃ (k m : Nat) (acc : List Nat) (q : Option Addr) (kk : Nat), k ≤ n ∧ i = .int .i64 ((k : Int) - 1) ∧ out = .slice q m kk ∧ acc.length = m ∧ Ks wr w.heap.size (.slice q m kk) (ints acc) ∧ m ≤ most ∧ lastG most (xs.take k).reverse acc = lastG most xs.reverse [] ∧ Below w.heap.size w wr) (fun _ i _ => (intOf i + 1).toNat)
  case atStart => exact ⟨n, 0, [], none, 0, Nat.le_refl _, rfl, rfl, rfl, World.ownsRow_nil _ _ _ _, Nat.zero_le _, by rw [List.take_of_length_le (Nat.le_of_eq HL.out)], Below.refl _ _⟩
  case round =>
    obtain ⟨k, m, acc, q, kk, hk, rfl, rfl, hacc, hks, hmm, hG, hB⟩ := hrel
    have HACC := Lib.hid hacc
    have HKS := Lib.hid hks
    have HG := Lib.hid hG
    have HB := Lib.hid hB
    clear hacc hks hG hB
    cases k with
    | zero =>
      have c1 : ¬ (0 : Int) ≤ ((0 : Nat) : Int) - 1 := by omega
      have HE := Lib.hid (show acc = lastG most xs.reverse [] from HG.out)
      go_wp2_with fail
      go_ret
      rw [← HE.out]
      exact ⟨⟨_, rfl, HKS.out⟩, HB.out⟩
    | succ j =>
      have hj : ((j + 1 : Nat) : Int) - 1 = (j : Int) := by omega
      rw [hj]
      have c1 : (0 : Int) ≤ (j : Int) := by omega
      obtain ⟨x, hx⟩ : ∃ x, xs[j]? = some x := ⟨xs[j]'(by rw [HL.out]; omega), List.getElem?_eq_getElem _⟩
      have HT := Lib.hid (show (xs.take (j + 1)).reverse = x :: (xs.take j).reverse from by rw [List.take_add_one, hx]; simp)
      by_cases hlt : m < most
      · have c2 : (m : Int) < (most : Int) := by omega
        have c3 : (j : Int) < (n : Int) := by omega
        have wj : IntKind.i64.wrap ((j : Int) - 1) = (j : Int) - 1 := IntWalk.i64_in ((j : Int) - 1) (by omega)
        obtain ⟨y, rfl, hyb, e0⟩ := HR.out _ HB.out j (x : Int) (Lnk.ints_at hx)
        have hst : lastG most (xs.take (j + 1)).reverse acc = lastG most (xs.take j).reverse (if x ∈ acc then acc else x :: acc) := by
          rw [HT.out]
          show (if acc.length < most then _ else _) = _
          rw [if_pos (by rw [HACC.out]; exact hlt)]
        have HST := Lib.hid (hst.symm.trans HG.out)
        have hrow : Ru wr q (ints acc) := by
          obtain ⟨q', c', h1, h2⟩ := ks_ru HKS.out
          cases h1
          exact h2
        have HF := Lib.hid (rfind_any (c := kk) HACC.out (by omega) hrow x)
        have HRW := Lib.hid hrow
        clear hx hyb hst hrow hlt
        by_cases hm' : x ∈ acc
        · rw [show findR acc x = ((acc.idxOf x : Nat) : Int) from if_pos hm'] at HF
          rw [if_pos hm'] at HST
          obtain ⟨f, hf⟩ : ∃ f, acc.idxOf x = f := ⟨_, rfl⟩
          rw [hf] at HF
          have f1 : ¬ (f : Int) < 0 := by omega
          obtain ⟨z, hz⟩ : ∃ z : Int, (x : Int) = z := ⟨_, rfl⟩
          rw [hz] at HF e0
          clear hf hm' hz
          go_wp2_with fail
          refine HF.out.mono ?_
          rintro e u1 ⟨rfl, rfl⟩
          go_wp2_with fail
          go_roundw
          case rel => exact ⟨j, m, acc, q, kk, by omega, rfl, rfl, HACC.out, HKS.out, hmm, HST.out, HB.out⟩
          case measure => simp [intOf] <;> omega
        · rw [show findR acc x = -1 from if_neg hm'] at HF
          rw [if_neg hm'] at HST
          obtain ⟨z, hz⟩ : ∃ z : Int, (x : Int) = z := ⟨_, rfl⟩
          have HZ := Lib.hid hz
          rw [hz] at HF e0
          clear hm' hz
          have HLN := Lib.hid (show ((ints acc).map (Value.int .u32)).length = m from by rw [List.length_map, ints_len, HACC.out])
          go_wp2_with fail
          refine HF.out.mono ?_
          rintro e u1 ⟨rfl, rfl⟩
          have O1 := Lib.hid (one_own wr (.int .u32 z) 38)
          have R1 := Lib.hid (HRW.out.below (box_below wr #[.int .u32 z] 38))
          go_wp2_with (at_builtin; refine wpList_appG rfl (.tmp 31) (.tmp 32) 39 rfl wr.heap.size 38 i0 (.int .u32 0) 4 Try.underlying39 hi0 hz0 hz1 hz2 rfl _ 1 [.int .u32 z] rfl O1.out _ m kk _ rfl HLN.out R1.out.rg (u32_one _) (by omega) (by omega) (by simp) ?_; intro v3 w3 o3 b3 s3; obtain ⟨q3, k3, rfl, _, _⟩ := own_rg o3; have B3 := Lib.hid b3; have O3 := Lib.hid o3; clear o3 b3)
          go_roundw
          case rel =>
            have hs : w.heap.size ≤ wr.heap.size := HB.out.size
            have hlen : (x :: acc).length = 1 + m := by rw [List.length_cons, HACC.out]; omega
            have K3 : Ks w3 wr.heap.size (.slice q3 (1 + m) k3) (ints (x :: acc)) := by
              unfold Ks
              rw [ints_len, hlen, show (ints (x :: acc)).map (Value.int .u32) = [.int .u32 z] ++ (ints acc).map (Value.int .u32) by rw [← HZ.out]; rfl]
              exact O3.out
            exact ⟨j, 1 + m, x :: acc, q3, k3, by omega, rfl, rfl, hlen, K3.lift hs, by omega, HST.out, HB.out.trans ((((box_below wr _ _).trans (B3.out)).mono hs))⟩
          case measure => simp [intOf] <;> omega
      · have c2 : ¬ (m : Int) < (most : Int) := by omega
        have HE := Lib.hid (show acc = lastG most xs.reverse [] from by
          rw [← HG.out, HT.out]
          show _ = (if acc.length < most then _ else _)
          rw [if_neg (by rw [HACC.out]; exact hlt)])
        clear hlt
        go_wp2_with fail
        go_ret
        rw [← HE.out]
        exact ⟨⟨_, rfl, HKS.out⟩, HB.out⟩
end Go.Proofs.Ytajkcockeccdoaa.Lru
