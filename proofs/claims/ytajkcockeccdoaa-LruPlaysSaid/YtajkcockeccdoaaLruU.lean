/-
  Plain LRU lists (layer 15): step, of the law LruPlays.
-/
import Derived.Test.YtajkcockeccdoaaLruT
set_option linter.unusedVariables false
set_option linter.unusedSimpArgs false
namespace Go.Proofs.Ytajkcockeccdoaa.Lru
open Go Go.RowKit Kit Go.Shelf Lnk
/-- the slots after a call -/
def stepL (l : List Nat) (wh : Int) (s : Nat) (T : List Nat) : List Nat :=
  if wh = 0 then addL l s else if wh = 1 then useL l s else if wh = 2 then l.erase s else if wh = 3 then rnL T l else l
section
variable {w v : World} {o b : Nat} {l m : List Nat} {p : Option Addr} {ob : Obj}
theorem Lb.base (h : Hid (Lb w v o l p m b ob)) : Below w.heap.size w v := by
  obtain ⟨c, r, s, cq, cr, N, F, h1, h2, h3, h4, h5, h6, h7⟩ := h.out
  exact h7
theorem Lb.radd (h : Hid (Lb w v o l p m b ob)) (n c x : Nat) (z : Int) (m' : List Nat) (k : Nat) (hm : m.length = n) (hn : n ≤ 100000) (hc : n ≤ c) (hx : x < 4294967296) (hz : addC m x = z) (hl : addL m x = m') (hk : m'.length = k) : Calls Try.prog 44 #[.slice p n c, .int .u32 (x : Int)] v fun e w' => ∃ p' c', e = .returned (.tuple #[.slice p' k c', .int .i64 z]) ∧ Hid (Lb w w' o l p' m' b ob) ∧ k ≤ c' := by
  subst hz hl
  exact (radd15_any hm hn hc (Lb.ru h) x hx).mono fun e w' ⟨a, b⟩ => Lb.rr h hk a b
theorem Lb.ruse (h : Hid (Lb w v o l p m b ob)) (n c x : Nat) (z : Int) (m' : List Nat) (k : Nat) (hm : m.length = n) (hn : n ≤ 100000) (hc : n ≤ c) (hx : x < 4294967296) (hbl : ∀ y ∈ m, y < 4194304) (hnd : m.Nodup) (hz : remC m x = z) (hl : useL m x = m') (hk : m'.length = k) : Calls Try.prog 54 #[.slice p n c, .int .u32 (x : Int)] v fun e w' => ∃ p' c', e = .returned (.tuple #[.slice p' k c', .int .i64 z]) ∧ Hid (Lb w w' o l p' m' b ob) ∧ k ≤ c' := by
  subst hz hl
  exact (ruse15_any hm hn hc (Lb.ru h) x hx hbl hnd).mono fun e w' ⟨a, b⟩ => Lb.rr h hk a b
theorem Lb.rrem (h : Hid (Lb w v o l p m b ob)) (n c x : Nat) (z : Int) (m' : List Nat) (k : Nat) (hm : m.length = n) (hn : n ≤ 100000) (hc : n ≤ c) (hx : x < 4294967296) (hbl : ∀ y ∈ m, y < 4194304) (hz : remC m x = z) (hl : m.erase x = m') (hk : m'.length = k) : Calls Try.prog 55 #[.slice p n c, .int .u32 (x : Int)] v fun e w' => ∃ p' c', e = .returned (.tuple #[.slice p' k c', .int .i64 z]) ∧ Hid (Lb w w' o l p' m' b ob) ∧ k ≤ c' := by
  subst hz hl
  exact (rrem15_any hm hn hc (Lb.ru h) x hx hbl).mono fun e w' ⟨a, b⟩ => Lb.rr h hk a b
theorem Lb.rren (h : Hid (Lb w v o l p m b ob)) (n c : Nat) {T : List Nat} {pt : Option Addr} (M ct : Nat) (z : Int) (m' : List Nat) (k : Nat) (hm : m.length = n) (hn : n ≤ 100000) (hc : n ≤ c) (hbl : ∀ y ∈ m, y < 4194304) (hT : T.length = M) (hM : M ≤ 1000000) (rT : Ru v pt (ints T)) (hw : ∀ x ∈ T, x < 4294967296) (hz : rnC T m = z) (hl : rnL T m = m') (hk : m'.length = k) : Calls Try.prog 100 #[.slice p n c, .slice pt M ct] v fun e w' => ∃ p' c', e = .returned (.tuple #[.slice p' k c', .int .i64 z]) ∧ Hid (Lb w w' o l p' m' b ob) ∧ k ≤ c' ∧ Hid (Ru w' pt (ints T)) := by
  subst hz hl
  exact (rren15_any hm hn hc (Lb.ru h) (fun x hx => by have := hbl x hx; omega) hT hM rT hw).mono fun e w' ⟨a, b⟩ => by
    obtain ⟨p', c', h1, h2, h3⟩ := Lb.rr h hk a b
    exact ⟨p', c', h1, h2, h3, Lib.hid (rT.below b)⟩
end
set_option maxRecDepth 100000 in
set_option maxHeartbeats 4000000 in
theorem step15 {w v : World} {o n c M ct s : Nat} {l T : List Nat} {p pt : Option Addr} {wh : Int} (h : Hid (Lst w v o l p l)) (hl : l.length = n) (hn : n ≤ 1000) (hc : n ≤ c) (hbl : ∀ y ∈ l, y < 4194304) (hnd : l.Nodup)
    (hs : s < 4294967296) (hT : T.length = M) (hM : M ≤ 200) (hMc : M ≤ ct) (r : Ru w pt (ints T)) (hw : ∀ x ∈ T, x < 4294967296) (l' : List Nat) (k : Nat) (hl' : stepL l wh s T = l') (hk : l'.length = k) :
    Calls Try.prog 42 #[.pointer (some ⟨o, 0, none⟩), .slice p n c, .agg #[.int .i64 wh, .int .u32 (s : Int), .slice pt M ct]] v fun e w' => ∃ o' p' c', e = .returned (.tuple #[.pointer (some ⟨o', 0, none⟩), .slice p' k c', .bool true]) ∧ Hid (Lst w w' o' l' p' l') ∧ k ≤ c' := by
  have H0 := Lst.box h (.cells #[.int .i64 wh, .int .u32 (s : Int), .slice pt M ct] 73) (MapKept.heap_alloc v _).1 (by go_grown)
  have RW := Lib.hid r
  have R0 := Lib.hid (r.below (Lb.base H0))
  have HA := Lib.hid (show l.length = n ∧ n ≤ 1000 ∧ n ≤ c ∧ (∀ y ∈ l, y < 4194304) ∧ l.Nodup ∧ s < 4294967296 ∧ T.length = M ∧ M ≤ 200 ∧ M ≤ ct ∧ (∀ x ∈ T, x < 4294967296) ∧ l'.length = k from ⟨hl, hn, hc, hbl, hnd, hs, hT, hM, hMc, hw, hk⟩)
  obtain ⟨z, hz⟩ : ∃ z : Int, (s : Int) = z := ⟨_, rfl⟩
  have HZ := Lib.hid hz
  rw [hz] at H0 R0 ⊢
  clear h hl hn hc hbl hnd hs hT hM hMc r hw hk hz
  by_cases c0 : wh = 0
  · subst c0
    have HL := Lib.hid (show addL l s = l' from hl')
    clear hl'
    obtain ⟨cd, hcd⟩ : ∃ cd, addC l s = cd := ⟨_, rfl⟩
    have HC := Lib.hid hcd
    clear hcd R0
    go_enter Try.func42, Try.ntmps42
    go_wp2_with fail
    have K0 := Lb.radd H0 n c s cd l' k HA.out.1 (by have := HA.out.2.1; omega) HA.out.2.2.1 HA.out.2.2.2.2.2.1 HC.out HL.out HA.out.2.2.2.2.2.2.2.2.2.2
    rw [HZ.out] at K0
    refine K0.mono ?_
    clear K0
    rintro e w1 ⟨p', c', rfl, H1, hk⟩
    clear H0
    have e1 : w1.cell? ⟨v.heap.size, 1, none⟩ = some (.int .u32 z) := Lb.cell H1 rfl 1 _ rfl
    go_wp2_with fail
    have K1 := Lb.add H1 s cd l' HA.out.2.2.2.2.2.1 HC.out HL.out
    rw [HZ.out] at K1
    refine K1.mono ?_
    clear K1
    rintro e w2 ⟨rfl, H2⟩
    clear e1 H1
    go_wp2_with fail
    go_ret3
    exact ⟨o, p', c', rfl, Lb.lst H2, hk⟩
  have q0 : (wh == 0) = false := beq_eq_false_iff_ne.2 c0
  by_cases c1 : wh = 1
  · subst c1
    have HL := Lib.hid (show useL l s = l' from hl')
    clear hl'
    obtain ⟨cd, hcd⟩ : ∃ cd, remC l s = cd := ⟨_, rfl⟩
    have HC := Lib.hid hcd
    clear hcd R0 c0
    go_enter Try.func42, Try.ntmps42
    go_wp2_with fail
    have K0 := Lb.ruse H0 n c s cd l' k HA.out.1 (by have := HA.out.2.1; omega) HA.out.2.2.1 HA.out.2.2.2.2.2.1 HA.out.2.2.2.1 HA.out.2.2.2.2.1 HC.out HL.out HA.out.2.2.2.2.2.2.2.2.2.2
    rw [HZ.out] at K0
    refine K0.mono ?_
    clear K0
    rintro e w1 ⟨p', c', rfl, H1, hk⟩
    clear H0
    have e1 : w1.cell? ⟨v.heap.size, 1, none⟩ = some (.int .u32 z) := Lb.cell H1 rfl 1 _ rfl
    go_wp2_with fail
    have K1 := Lb.use H1 s cd l' HA.out.2.2.2.2.2.1 HC.out HL.out
    rw [HZ.out] at K1
    refine K1.mono ?_
    clear K1
    rintro e w2 ⟨rfl, H2⟩
    clear e1 H1
    go_wp2_with fail
    go_ret3
    exact ⟨o, p', c', rfl, Lb.lst H2, hk⟩
  have q1 : (wh == 1) = false := beq_eq_false_iff_ne.2 c1
  by_cases c2 : wh = 2
  · subst c2
    have HL := Lib.hid (show l.erase s = l' from hl')
    clear hl'
    obtain ⟨cd, hcd⟩ : ∃ cd, remC l s = cd := ⟨_, rfl⟩
    have HC := Lib.hid hcd
    clear hcd R0 c0 c1
    go_enter Try.func42, Try.ntmps42
    go_wp2_with fail
    have K0 := Lb.rrem H0 n c s cd l' k HA.out.1 (by have := HA.out.2.1; omega) HA.out.2.2.1 HA.out.2.2.2.2.2.1 HA.out.2.2.2.1 HC.out HL.out HA.out.2.2.2.2.2.2.2.2.2.2
    rw [HZ.out] at K0
    refine K0.mono ?_
    clear K0
    rintro e w1 ⟨p', c', rfl, H1, hk⟩
    clear H0
    have e1 : w1.cell? ⟨v.heap.size, 1, none⟩ = some (.int .u32 z) := Lb.cell H1 rfl 1 _ rfl
    go_wp2_with fail
    have K1 := Lb.rem H1 s cd l' HA.out.2.2.2.2.2.1 HC.out HL.out
    rw [HZ.out] at K1
    refine K1.mono ?_
    clear K1
    rintro e w2 ⟨rfl, H2⟩
    clear e1 H1
    go_wp2_with fail
    go_ret3
    exact ⟨o, p', c', rfl, Lb.lst H2, hk⟩
  have q2 : (wh == 2) = false := beq_eq_false_iff_ne.2 c2
  by_cases c3 : wh = 3
  · subst c3
    have HL := Lib.hid (show rnL T l = l' from hl')
    clear hl' c0 c1 c2 q0 q1 q2
    obtain ⟨cd, hcd⟩ : ∃ cd, rnC T l = cd := ⟨_, rfl⟩
    have HC := Lib.hid hcd
    clear hcd
    go_enter Try.func42, Try.ntmps42
    go_wp2_with fail
    refine (Lb.rren H0 n c M ct cd l' k HA.out.1 (by have := HA.out.2.1; omega) HA.out.2.2.1 HA.out.2.2.2.1 HA.out.2.2.2.2.2.2.1 (by have := HA.out.2.2.2.2.2.2.2.1; omega) R0.out HA.out.2.2.2.2.2.2.2.2.2.1 HC.out HL.out HA.out.2.2.2.2.2.2.2.2.2.2).mono ?_
    rintro e w1 ⟨p', c', rfl, H1, hk, R1⟩
    clear H0 R0
    have e2 : w1.cell? ⟨v.heap.size, 2, none⟩ = some (.slice pt M ct) := Lb.cell H1 rfl 2 _ rfl
    obtain ⟨i0, hi0, hz0, hz1, hz2⟩ := u_parts
    have HLN := Lib.hid (show ((ints T).map (Value.int .u32)).length = M from by rw [List.length_map, ints_len, HA.out.2.2.2.2.2.2.1])
    have HM := Lib.hid (show M ≤ 200 ∧ M ≤ ct from ⟨HA.out.2.2.2.2.2.2.2.1, HA.out.2.2.2.2.2.2.2.2.1⟩)
    go_wp2_with (at_builtin; refine wpList_appG rfl (.const (.slice none 0 0)) (.tmp 84) 39 rfl w1.heap.size 38 i0 (.int .u32 0) 4 Try.underlying39 hi0 hz0 hz1 hz2 rfl _ 0 [] rfl (World.ownsRow_nil _ _ _ _) _ M ct _ rfl HLN.out R1.out.rg (u32_one _) (by have := HM.out; omega) (by have := HM.out; omega) (Nat.le_refl _) ?_; intro v2 w2 o2 b2 s2; rw [Nat.zero_add] at o2; obtain ⟨q2, k2, rfl, _, _⟩ := own_rg o2; have B2 := Lib.hid b2; have O2 := Lib.hid o2; have S2 := Lib.hid s2; clear o2 b2 s2)
    have HT := Lib.hid (show T.length = M from HA.out.2.2.2.2.2.2.1)
    have hKS : Ks w2 w1.heap.size (.slice q2 M k2) (ints T) := by
      unfold Ks
      rw [ints_len, HT.out]
      exact O2.out
    obtain ⟨W2, RO⟩ := Lb.own H1 B2.out hKS HT.out
    clear hKS O2 B2 S2 H1 e2 R1 hi0 hz0 hz1 hz2 HLN
    refine (Lw.ren W2 k2 RO HT.out (by have := HM.out; omega) HA.out.2.2.2.2.2.2.2.2.2.1 cd l' HC.out HL.out).mono ?_
    rintro e w3 ⟨rfl, W3, RO3⟩
    have e3 : w3.cell? ⟨v.heap.size, 2, none⟩ = some (.slice pt M ct) := Lb.cell (Lw.lb W3) rfl 2 _ rfl
    have R3 := Lib.hid (RW.out.below (Lb.base (Lw.lb W3)))
    clear W2 RO
    go_wp2_with fail
    have hlt : (ints T).length = M := by rw [ints_len, HT.out]
    refine (same15_any (c1 := k2) (c2 := ct) hlt hlt RO3.out R3.out (by have := HM.out; omega) (by have := HM.out; omega)).mono ?_
    rintro e w4 ⟨⟨t, rfl, ht⟩, b4⟩
    obtain rfl : t = true := ht.2 rfl
    have W4 := Lw.below W3 b4
    clear ht b4 W3 RO3 R3 e3 hlt
    go_wp2_with fail
    go_loopw [19] (fun i wr => ∃ j : Nat, j ≤ M ∧ i = .int .i64 (j : Int) ∧ Hid (Lw w wr o l' p' l' v.heap.size (.cells #[.int .i64 3, .int .u32 z, .slice pt M ct] 73 (0, 0)) q2 M)) (fun i _ => M - (intOf i).toNat)
    case atStart => exact ⟨0, Nat.zero_le _, rfl, W4⟩
    case round =>
      obtain ⟨j, hj, rfl, WJ⟩ := hrel
      clear W4
      by_cases hjl : j < M
      · obtain ⟨g, z0, hq, hg0, hg, hcl, hfz, hset⟩ := Lw.at_ WJ hjl
        subst hq
        have HS := Lib.hid hset
        have HM5 := Lib.hid HM
        have j0 : (0 : Int) ≤ (j : Int) := by omega
        have j1 : (j : Int) < (M : Int) := by omega
        have wj := IntWalk.i64_in ((j : Int) + 1) (by have := HM.out; omega)
        clear hset
        go_wp2_with fail
        go_roundw
        case rel => exact ⟨j + 1, by omega, by go_num, HS.out _⟩
        case measure => simp [intOf] <;> omega
      · have j1 : ¬ (j : Int) < (M : Int) := by omega
        go_wp2_with fail
        go_ret3
        exact ⟨o, p', c', rfl, Lb.lst (Lw.lb WJ), hk⟩
  have q3 : (wh == 3) = false := beq_eq_false_iff_ne.2 c3
  have HL := Lib.hid (show l = l' from by rw [← hl']; unfold stepL; rw [if_neg c0, if_neg c1, if_neg c2, if_neg c3])
  clear hl' R0
  go_enter Try.func42, Try.ntmps42
  go_wp2_with fail
  have H1 := Lb.lst H0
  clear H0
  refine (Lst.copy H1).mono ?_
  rintro e w1 ⟨o', rfl, C1⟩
  clear H1
  go_wp2_with fail
  refine (Cp.add C1 77 (by decide)).mono ?_
  rintro e w2 ⟨z2, l2, rfl, C2⟩
  clear C1
  go_wp2_with fail
  refine (Cp.use C2 0 (by decide)).mono ?_
  rintro e w3 ⟨z3, l3, rfl, C3⟩
  clear C2
  go_wp2_with fail
  refine (Cp.rem C3 1 (by decide)).mono ?_
  rintro e w4 ⟨z4, l4, rfl, C4⟩
  clear C3
  go_wp2_with fail
  go_ret3
  have hln := HA.out.2.2.2.2.2.2.2.2.2.2
  have hcc := HA.out.2.2.1
  have hl0 := HA.out.1
  have hll := HL.out
  subst hll
  obtain rfl : n = k := hl0.symm.trans hln
  exact ⟨o', p, c, rfl, Cp.lst C4, hcc⟩
end Go.Proofs.Ytajkcockeccdoaa.Lru
