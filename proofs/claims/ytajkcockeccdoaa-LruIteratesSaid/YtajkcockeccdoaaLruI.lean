/-
  Plain LRU lists (layer 15): the reference's Remove and Use.
-/
import Derived.Test.YtajkcockeccdoaaLruH
set_option linter.unusedVariables false
set_option linter.unusedSimpArgs false
namespace Go.Proofs.Ytajkcockeccdoaa.Lru
open Go Go.RowKit Kit Go.Shelf Lnk
theorem take_drop_erase {l : List Nat} {x i : Nat} (hi : l.idxOf x = i) (hm : x ∈ l) : l.take i ++ l.drop (i + 1) = l.erase x := by
  rw [List.erase_eq_eraseIdx_of_idxOf hi, List.eraseIdx_eq_take_drop_succ]
set_option maxRecDepth 100000 in
theorem rrem15_any {w : World} {p : Option Addr} {n c : Nat} {l : List Nat} (hl : l.length = n) (hn : n ≤ 100000) (hc : n ≤ c) (r : Ru w p (ints l)) (x : Nat) (hx : x < 4294967296) (hbl : ∀ y ∈ l, y < 4194304) :
    Calls Try.prog 55 #[.slice p n c, .int .u32 (x : Int)] w fun e w' => Rr e w' w.heap.size p l (l.erase x) (remC l x) ∧ Below w.heap.size w w' := by
  have HF := Lib.hid (fun (v : World) (hb : Below w.heap.size w v) => rfind_any (c := c) hl (by omega) (r.below hb) x)
  by_cases h : x < 4194304
  · have h1 : decide ((4194304 : Int) ≤ (x : Int)) = false := decide_eq_false (by omega)
    by_cases hm : x ∈ l
    · have ha : remC l x = 0 := by unfold remC; rw [if_pos h, if_pos hm]
      have hf : findR l x = ((l.idxOf x : Nat) : Int) := if_pos hm
      have hlt : l.idxOf x < n := by rw [← hl]; exact List.idxOf_lt_length_of_mem hm
      rw [hf] at HF
      rw [ha]
      obtain ⟨i, hi⟩ : ∃ i, l.idxOf x = i := ⟨_, rfl⟩
      rw [hi] at HF hlt
      have HW := Lib.hid (without_any hl hn hc r hlt)
      rw [take_drop_erase hi hm] at HW
      have HLE := Lib.hid (show (l.erase x).length = n - 1 from by rw [List.length_erase_of_mem hm, hl])
      obtain ⟨z, hz⟩ : ∃ z : Int, (x : Int) = z := ⟨_, rfl⟩
      rw [hz] at HF h1 ⊢
      have hlt2 : decide ((i : Int) < 0) = false := decide_eq_false (by omega)
      clear hz h hx hm ha hf hi r hl hc hlt
      go_enter Try.func55, Try.ntmps55
      go_wp2_with fail
      refine (HF.out _ (Below.refl _ _)).mono ?_
      rintro e w1 ⟨rfl, rfl⟩
      go_wp2_with fail
      refine HW.out.mono ?_
      rintro e w1 ⟨⟨v, rfl, k1⟩, b1⟩
      obtain ⟨q, cq, rfl, _⟩ := ks_ru k1
      rw [ints_len, HLE.out] at k1 ⊢
      have K1 := Lib.hid k1
      have B1 := Lib.hid b1
      clear k1 b1
      go_wp2_with fail
      go_ret2
      exact ⟨rr_new K1.out HLE.out, B1.out⟩
    · have ha : remC l x = 9 := by unfold remC; rw [if_pos h, if_neg hm]
      have hf : findR l x = -1 := if_neg hm
      rw [hf] at HF
      rw [ha, List.erase_of_not_mem hm]
      have HR := Lib.hid (show Ru w p (ints l) ∧ l.length = n ∧ n ≤ c from ⟨r, hl, hc⟩)
      obtain ⟨z, hz⟩ : ∃ z : Int, (x : Int) = z := ⟨_, rfl⟩
      rw [hz] at HF h1 ⊢
      clear hz h hx hm ha hf r hl hc
      go_enter Try.func55, Try.ntmps55
      go_wp2_with fail
      refine (HF.out _ (Below.refl _ _)).mono ?_
      rintro e w1 ⟨rfl, rfl⟩
      go_wp2_with fail
      go_ret2
      obtain ⟨r0, hl0, hc0⟩ := HR.out
      subst hl0
      exact ⟨⟨p, c, rfl, r0, hc0, .inl ⟨rfl, rfl⟩⟩, Below.refl _ _⟩
  · have h1 : decide ((4194304 : Int) ≤ (x : Int)) = true := decide_eq_true (by omega)
    have ha : remC l x = 2 := by unfold remC; rw [if_neg h]
    rw [ha, List.erase_of_not_mem fun k => h (hbl x k)]
    have HR := Lib.hid (show Ru w p (ints l) ∧ l.length = n ∧ n ≤ c from ⟨r, hl, hc⟩)
    obtain ⟨z, hz⟩ : ∃ z : Int, (x : Int) = z := ⟨_, rfl⟩
    rw [hz] at h1 ⊢
    clear hz h hx ha r hl hc HF hbl
    go_enter Try.func55, Try.ntmps55
    go_wp2_with fail
    go_ret2
    obtain ⟨r0, hl0, hc0⟩ := HR.out
    subst hl0
    exact ⟨⟨p, c, rfl, r0, hc0, .inl ⟨rfl, rfl⟩⟩, Below.refl _ _⟩
theorem add_erase {l : List Nat} {x : Nat} (hn : l.Nodup) (h : x < 4194304) (hm : x ∈ l) : addL (l.erase x) x = useL l x ∧ addC (l.erase x) x = 0 := by
  have h1 : x ∉ l.erase x := fun k => (List.Nodup.mem_erase_iff hn).1 k |>.1 rfl
  exact ⟨by unfold addL useL; rw [if_pos ⟨h, h1⟩, if_pos hm], by unfold addC; rw [if_pos h, if_neg h1]⟩
set_option maxRecDepth 100000 in
theorem ruse15_any {w : World} {p : Option Addr} {n c : Nat} {l : List Nat} (hl : l.length = n) (hn : n ≤ 100000) (hc : n ≤ c) (r : Ru w p (ints l)) (x : Nat) (hx : x < 4294967296) (hbl : ∀ y ∈ l, y < 4194304) (hnd : l.Nodup) :
    Calls Try.prog 54 #[.slice p n c, .int .u32 (x : Int)] w fun e w' => Rr e w' w.heap.size p l (useL l x) (remC l x) ∧ Below w.heap.size w w' := by
  have HM := Lib.hid (rrem15_any hl hn hc r x hx hbl)
  by_cases hm : x ∈ l
  · have h4 := hbl x hm
    have hz0 : remC l x = 0 := by unfold remC; rw [if_pos h4, if_pos hm]
    have HAE := Lib.hid (add_erase hnd h4 hm)
    have HLE := Lib.hid (show (l.erase x).length = n - 1 from by rw [List.length_erase_of_mem hm, hl])
    have HX := Lib.hid hx
    rw [hz0] at HM ⊢
    obtain ⟨z, hz⟩ : ∃ z : Int, (x : Int) = z := ⟨_, rfl⟩
    have HZ := Lib.hid hz
    rw [hz] at HM ⊢
    clear hm h4 hz0 hx hbl hnd r hz hl
    go_enter Try.func54, Try.ntmps54
    go_wp2_with fail
    refine HM.out.mono ?_
    rintro e w1 ⟨⟨p', c', rfl, r1, hc1, hp1⟩, b1⟩
    rw [HLE.out] at hc1 ⊢
    have HA := Lib.hid (radd15_any HLE.out (by omega) hc1 r1 x HX.out)
    rw [HAE.out.1, HAE.out.2, HZ.out] at HA
    have B1 := Lib.hid b1
    have HP1 := Lib.hid hp1
    clear b1 r1 hp1 hc1
    go_wp2_with fail
    refine HA.out.mono ?_
    rintro e w2 ⟨⟨p2, c2, rfl, r2, hc2, hp2⟩, b2⟩
    have HR := Lib.hid (show Ru w2 p2 (ints (useL l x)) ∧ (useL l x).length ≤ c2 ∧ ((p2 = p ∧ useL l x = l) ∨ ∀ y, p2 = some y → w.heap.size ≤ y.block) from ⟨r2, hc2, by
      rcases hp2 with ⟨rfl, h2⟩ | h2
      · rcases HP1.out with ⟨rfl, h3⟩ | h3
        · exact .inl ⟨rfl, h2.trans h3⟩
        · exact .inr h3
      · exact .inr fun y hy => Nat.le_trans B1.out.size (h2 y hy)⟩)
    have B2 := Lib.hid (tr B1.out b2)
    clear b2 r2 hp2 hc2
    go_wp2_with fail
    go_ret2
    exact ⟨⟨p2, c2, rfl, HR.out⟩, B2.out⟩
  · have ha : ∃ z, remC l x = z ∧ (z == 0) = false ∧ (z != 0) = true ∧ ¬ z = 0 := by
      unfold remC
      rw [if_neg hm]
      split
      · exact ⟨9, rfl, by decide, by decide, by decide⟩
      · exact ⟨2, rfl, by decide, by decide, by decide⟩
    obtain ⟨z1, hz1, hz2, hz3, hz4⟩ := ha
    have hu : useL l x = l := if_neg hm
    rw [hz1, List.erase_of_not_mem hm] at HM
    rw [hz1, hu]
    have HR := Lib.hid (show Ru w p (ints l) ∧ l.length = n ∧ n ≤ c from ⟨r, hl, hc⟩)
    obtain ⟨z, hz⟩ : ∃ z : Int, (x : Int) = z := ⟨_, rfl⟩
    rw [hz] at HM ⊢
    clear hz hm hu hz1 hbl hx r hl hc hnd
    go_enter Try.func54, Try.ntmps54
    go_wp2_with fail
    refine HM.out.mono ?_
    rintro e w1 ⟨⟨p', c', rfl, r1, hc1, hp1⟩, b1⟩
    have B1 := Lib.hid b1
    clear b1 r1 hp1 hc1
    go_wp2_with fail
    go_ret2
    obtain ⟨r0, hl0, hc0⟩ := HR.out
    subst hl0
    exact ⟨⟨p, c, rfl, r0.below B1.out, hc0, .inl ⟨rfl, rfl⟩⟩, B1.out⟩
end Go.Proofs.Ytajkcockeccdoaa.Lru
