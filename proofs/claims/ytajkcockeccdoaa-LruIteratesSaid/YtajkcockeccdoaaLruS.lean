/-
  Plain LRU lists (layer 15): the reference's Renumber.
-/
import Derived.Test.YtajkcockeccdoaaLruE
import Derived.Test.YtajkcockeccdoaaLruH
set_option linter.unusedVariables false
set_option linter.unusedSimpArgs false
namespace Go.Proofs.Ytajkcockeccdoaa.Lru
open Go Go.RowKit Kit Go.Shelf Lnk
/-- the list and the code that Renumber leaves -/
def rnL (T l : List Nat) : List Nat := (rnum T l []).getD l
def rnC (T l : List Nat) : Int := if (rnum T l []).isSome then 0 else 2
theorem rn_some {T l x : List Nat} (h : rnum T l [] = some x) : rnL T l = x ∧ rnC T l = 0 := by unfold rnL rnC; rw [h]; exact ⟨rfl, rfl⟩
theorem rn_none {T l : List Nat} (h : rnum T l [] = none) : rnL T l = l ∧ rnC T l = 2 := by unfold rnL rnC; rw [h]; exact ⟨rfl, rfl⟩
theorem drop_cons {l : List Nat} {k s : Nat} (h : l[k]? = some s) : l.drop k = s :: l.drop (k + 1) := by
  obtain ⟨h1, h2⟩ := List.getElem?_eq_some_iff.1 h
  rw [List.drop_eq_getElem_cons h1, h2]
set_option maxRecDepth 100000 in
set_option maxHeartbeats 4000000 in
theorem rren15_any {w : World} {p pt : Option Addr} {n c M ct : Nat} {l T : List Nat} (hl : l.length = n) (hn : n ≤ 100000) (hc : n ≤ c) (r : Ru w p (ints l)) (hlw : ∀ x ∈ l, x < 4294967296)
    (hT : T.length = M) (hM : M ≤ 1000000) (rT : Ru w pt (ints T)) (hw : ∀ x ∈ T, x < 4294967296) :
    Calls Try.prog 100 #[.slice p n c, .slice pt M ct] w fun e w' => Rr e w' w.heap.size p l (rnL T l) (rnC T l) ∧ Below w.heap.size w w' := by
  have HR := Lib.hid (fun (v : World) (hb : Below w.heap.size w v) => r.below hb)
  have HT := Lib.hid (fun (v : World) (hb : Below w.heap.size w v) => rT.below hb)
  have HL := Lib.hid hl
  have HLT := Lib.hid hT
  have HW := Lib.hid hw
  have HLW := Lib.hid hlw
  have HC := Lib.hid hc
  clear hl r hT rT hw hlw hc
  go_enter Try.func100, Try.ntmps100
  go_wp2_with fail
  go_loopw [6, 7] (fun out i wr => ∃ (k m : Nat) (acc : List Nat) (q : Option Addr) (kk : Nat), k ≤ n ∧ i = .int .i64 (k : Int) ∧ out = .slice q m kk ∧ acc.length = m ∧ m ≤ k ∧ m ≤ kk ∧ Ru wr q (ints acc) ∧ (∀ y, q = some y → w.heap.size ≤ y.block) ∧ rnum T (l.drop k) acc = rnum T l [] ∧ Below w.heap.size w wr) (fun _ i _ => n - (intOf i).toNat)
  case atStart => exact ⟨0, 0, [], none, 0, Nat.zero_le _, rfl, rfl, rfl, Nat.le_refl _, Nat.le_refl _, (fun i x hx => by simp [ints] at hx), (fun y hy => by cases hy), rfl, Below.refl _ _⟩
  case round =>
    obtain ⟨k, m, acc, q, kk, hk, rfl, rfl, hacc, hmk, hmkk, hru, hq, hG, hB⟩ := hrel
    have HACC := Lib.hid hacc
    have HRU := Lib.hid hru
    have HQ := Lib.hid hq
    have HG := Lib.hid hG
    have HB := Lib.hid hB
    have HMK := Lib.hid hmk
    have HMKK := Lib.hid hmkk
    clear hacc hru hq hG hB hmk hmkk
    by_cases hlt : k < n
    · obtain ⟨s, hs⟩ : ∃ s, l[k]? = some s := ⟨l[k]'(by rw [HL.out]; exact hlt), List.getElem?_eq_getElem _⟩
      obtain ⟨y, rfl, hyb, e0⟩ := HR.out _ HB.out k (s : Int) (Lnk.ints_at hs)
      have d1 : (k : Int) < (n : Int) := by omega
      have d0 : (0 : Int) ≤ (k : Int) := by omega
      have s32 := HLW.out s (List.mem_of_getElem? hs)
      have ws : IntKind.i64.wrap (s : Int) = (s : Int) := IntWalk.i64_in (s : Int) (by omega)
      have HD := Lib.hid (drop_cons hs)
      have wk := IntWalk.i64_in ((k : Int) + 1) (by omega)
      clear hs hyb hlt
      by_cases hM' : s < M
      · have d2 : ¬ (M : Int) ≤ (s : Int) := by omega
        have d3 : (s : Int) < (M : Int) := by omega
        have d4 : (0 : Int) ≤ (s : Int) := by omega
        obtain ⟨t, ht⟩ : ∃ t, T[s]? = some t := ⟨T[s]'(by rw [HLT.out]; exact hM'), List.getElem?_eq_getElem _⟩
        obtain ⟨yt, rfl, hytb, e1⟩ := HT.out _ HB.out s (t : Int) (Lnk.ints_at ht)
        have t32 := HW.out t (List.mem_of_getElem? ht)
        have HA := Lib.hid (radd15_any (c := kk) HACC.out (by have := HMK.out; omega) HMKK.out HRU.out t t32)
        have HSTEP := Lib.hid (show rnum T (s :: l.drop (k + 1)) acc = if t < 4194304 ∧ t ∉ acc then rnum T (l.drop (k + 1)) (acc ++ [t]) else none from by simp only [rnum, ht])
        clear ht hytb hM'
        by_cases hgo : t < 4194304 ∧ t ∉ acc
        · have ha : addC acc t = 0 := by unfold addC; rw [if_pos hgo.1, if_neg hgo.2]
          have hb : addL acc t = acc ++ [t] := if_pos hgo
          rw [ha, hb] at HA
          have HN := Lib.hid (show rnum T (l.drop (k + 1)) (acc ++ [t]) = rnum T l [] from by rw [← HG.out, HD.out, HSTEP.out, if_pos hgo])
          obtain ⟨z, hz⟩ : ∃ z : Int, (t : Int) = z := ⟨_, rfl⟩
          rw [hz] at e1 HA
          clear hz ha hb hgo t32 HSTEP
          go_wp2_with fail
          refine HA.out.mono ?_
          rintro e w1 ⟨⟨q', c', rfl, r1, hc1, hp1⟩, b1⟩
          have R1 := Lib.hid (show Ru w1 q' (ints (acc ++ [t])) ∧ (acc ++ [t]).length ≤ c' ∧ (∀ y, q' = some y → w.heap.size ≤ y.block) from ⟨r1, hc1, by
            rcases hp1 with ⟨rfl, hp1⟩ | hp1
            · exact HQ.out
            · exact fun y hy => Nat.le_trans HB.out.size (hp1 y hy)⟩)
          have B1 := Lib.hid (tr HB.out b1)
          have HLN := Lib.hid (show (acc ++ [t]).length = m + 1 from by rw [List.length_append, HACC.out]; rfl)
          clear r1 hc1 hp1 b1
          rw [HLN.out]
          go_wp2_with fail
          go_roundw
          case rel => exact ⟨k + 1, m + 1, acc ++ [t], q', c', by omega, by go_num, rfl, HLN.out, by have := HMK.out; omega, by have := R1.out.2.1; rw [HLN.out] at this; exact this, R1.out.1, R1.out.2.2, HN.out, B1.out⟩
          case measure => simp [intOf] <;> omega
        · have hz : ∃ z, addC acc t = z ∧ (z == 0) = false ∧ (z != 0) = true ∧ ¬ z = 0 := by
            unfold addC
            by_cases h1 : t < 4194304
            · rw [if_pos h1, if_pos (Classical.byContradiction fun h2 => hgo ⟨h1, h2⟩)]
              exact ⟨11, rfl, by decide, by decide, by decide⟩
            · rw [if_neg h1]
              exact ⟨2, rfl, by decide, by decide, by decide⟩
          obtain ⟨z1, hz1, hz2, hz3, hz4⟩ := hz
          rw [hz1] at HA
          have HN := Lib.hid (rn_none (show rnum T l [] = none from by rw [← HG.out, HD.out, HSTEP.out, if_neg hgo]))
          obtain ⟨z, hz⟩ : ∃ z : Int, (t : Int) = z := ⟨_, rfl⟩
          rw [hz] at e1 HA
          clear hz hz1 hgo t32 HSTEP
          go_wp2_with fail
          refine HA.out.mono ?_
          rintro e w1 ⟨⟨q', c', rfl, r1, hc1, hp1⟩, b1⟩
          have B1 := Lib.hid (tr HB.out b1)
          clear r1 hc1 hp1 b1
          go_wp2_with fail
          go_ret2
          rw [HN.out.1, HN.out.2]
          exact ⟨⟨_, c, by rw [HL.out]; rfl, HR.out _ B1.out, by rw [HL.out]; exact HC.out, .inl ⟨rfl, rfl⟩⟩, B1.out⟩
      · have d2 : (M : Int) ≤ (s : Int) := by omega
        have HN := Lib.hid (rn_none (show rnum T l [] = none from by
          rw [← HG.out, HD.out]
          simp only [rnum]
          rw [List.getElem?_eq_none (by rw [HLT.out]; omega)]))
        clear hM'
        go_wp2_with fail
        go_ret2
        rw [HN.out.1, HN.out.2]
        exact ⟨⟨_, c, by rw [HL.out]; rfl, HR.out _ HB.out, by rw [HL.out]; exact HC.out, .inl ⟨rfl, rfl⟩⟩, HB.out⟩
    · have d1 : ¬ (k : Int) < (n : Int) := by omega
      have HN := Lib.hid (rn_some (show rnum T l [] = some acc from by rw [← HG.out, List.drop_eq_nil_of_le (by rw [HL.out]; omega)]; rfl))
      clear hlt
      go_wp2_with fail
      go_ret2
      rw [HN.out.1, HN.out.2]
      exact ⟨⟨q, kk, by rw [HACC.out]; rfl, HRU.out, by rw [HACC.out]; exact HMKK.out, .inr HQ.out⟩, HB.out⟩
end Go.Proofs.Ytajkcockeccdoaa.Lru
