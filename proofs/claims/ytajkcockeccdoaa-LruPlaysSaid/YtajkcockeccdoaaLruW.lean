/-
  Plain LRU lists (layer 15): LruPlays.
-/
import Derived.Test.YtajkcockeccdoaaLruU
import Derived.Test.YtajkcockeccdoaaLruV
set_option linter.unusedVariables false
set_option linter.unusedSimpArgs false
namespace Go.Proofs.Ytajkcockeccdoaa.Lru
open Go Go.RowKit Kit Go.Shelf Lnk
theorem rnum_inv {T : List Nat} : ∀ {l acc x : List Nat}, rnum T l acc = some x → x.length = acc.length + l.length ∧ (acc.Nodup → x.Nodup) ∧ ((∀ y ∈ acc, y < 4194304) → ∀ y ∈ x, y < 4194304)
  | [], acc, x, h => by cases h; exact ⟨rfl, id, id⟩
  | s :: l, acc, x, h => by
    simp only [rnum] at h
    split at h
    · cases h
    · split at h
      · rename_i t _ hg
        obtain ⟨h1, h2, h3⟩ := rnum_inv h
        refine ⟨by rw [h1]; simp; omega, fun hn => h2 (List.nodup_append.2 ⟨hn, by simp, fun a ha b hb => by simp at hb; subst hb; exact fun e => hg.2 (e ▸ ha)⟩), fun hb => h3 fun y hy => ?_⟩
        rcases List.mem_append.1 hy with hy | hy
        · exact hb y hy
        · simp at hy; subst hy; exact hg.1
      · cases h
theorem step_inv {l T : List Nat} {wh : Int} {s : Nat} (hn : l.Nodup) (hb : ∀ y ∈ l, y < 4194304) : (stepL l wh s T).length ≤ l.length + 1 ∧ (stepL l wh s T).Nodup ∧ ∀ y ∈ stepL l wh s T, y < 4194304 := by
  unfold stepL
  split
  · unfold addL
    split
    · rename_i hg
      refine ⟨by simp, List.nodup_append.2 ⟨hn, by simp, fun a ha b hb => by simp at hb; subst hb; exact fun e => hg.2 (e ▸ ha)⟩, fun y hy => ?_⟩
      rcases List.mem_append.1 hy with hy | hy
      · exact hb y hy
      · simp at hy; subst hy; exact hg.1
    · exact ⟨by omega, hn, hb⟩
  · split
    · unfold useL
      split
      · rename_i hm
        have he : (l.erase s).Nodup := hn.erase s
        refine ⟨by simp [List.length_erase_of_mem hm] <;> omega, List.nodup_append.2 ⟨he, by simp, fun a ha b hb => by simp at hb; subst hb; exact fun e => by subst e; exact (List.Nodup.mem_erase_iff hn).1 ha |>.1 rfl⟩, fun y hy => ?_⟩
        rcases List.mem_append.1 hy with hy | hy
        · exact hb y (List.mem_of_mem_erase hy)
        · simp at hy; subst hy; exact hb _ hm
      · exact ⟨by omega, hn, hb⟩
    · split
      · exact ⟨by have := List.length_erase_le (l := l) (a := s); omega, hn.erase s, fun y hy => hb y (List.mem_of_mem_erase hy)⟩
      · split
        · unfold rnL
          cases hx : rnum T l [] with
          | none => exact ⟨by simp, hn, hb⟩
          | some x =>
            obtain ⟨h1, h2, h3⟩ := rnum_inv hx
            exact ⟨by simp [h1], h2 List.nodup_nil, h3 fun y hy => by cases hy⟩
        · exact ⟨by omega, hn, hb⟩
theorem Lst.baseB {w v : World} {o : Nat} {l m : List Nat} {p : Option Addr} (h : Hid (Lst w v o l p m)) : Below w.heap.size w v := by
  obtain ⟨_, _, _, _, _, _, _, h1, h2, h3, h4, h5⟩ := h.out
  exact h5
set_option maxRecDepth 100000 in
set_option maxHeartbeats 4000000 in
theorem lplays15 {w : World} {a : Option Addr} {m ca : Nat} (H : Acl w a m) (hm : m ≤ 9223372036854775807)
    (HKN : ∀ v, Below w.heap.size w v → Calls Try.prog 40 #[] v fun e w' => e = .returned (.bool true) ∧ Below v.heap.size v w') :
    Calls Try.prog 8 #[.slice a m ca] w fun e w' => e = .returned (.bool true) ∧ Below w.heap.size w w' := by
  have HK := Lib.hid HKN
  have HF := Lib.hid (few15_any (ca := ca) H hm)
  have HA := Lib.hid H
  clear H HKN
  go_enter Try.func8, Try.ntmps8
  go_wp2_with fail
  refine HF.out.mono ?_
  rintro e w1 ⟨⟨b, rfl, hb⟩, rfl⟩
  cases b with
  | false =>
    go_wp2_with fail
    refine (HK.out _ (Below.refl _ _)).mono ?_
    rintro e w1 ⟨rfl, b1⟩
    have B1 := Lib.hid b1
    clear b1
    go_wp2_with fail
    go_ret
    exact ⟨rfl, B1.out⟩
  | true =>
    have HB := Lib.hid (hb rfl)
    clear hb HF
    go_wp2_with fail
    refine (Lst.new w).mono ?_
    rintro e w1 ⟨o0, rfl, L0⟩
    go_wp2_with fail
    go_loopw [3, 4, 5] (fun lp mp i wr => ∃ (k n : Nat) (l : List Nat) (o : Nat) (p : Option Addr) (c : Nat), k ≤ m ∧ i = .int .i64 (k : Int) ∧ lp = .pointer (some ⟨o, 0, none⟩) ∧ mp = .slice p n c ∧ n ≤ c ∧ Hid (l.length = n ∧ n ≤ k ∧ l.Nodup ∧ ∀ y ∈ l, y < 4194304) ∧ Hid (Lst w wr o l p l)) (fun _ _ i _ => m - (intOf i).toNat)
    case atStart => exact ⟨0, 0, [], o0, none, 0, Nat.zero_le _, rfl, rfl, rfl, Nat.le_refl _, Lib.hid ⟨rfl, Nat.le_refl _, List.nodup_nil, fun y hy => by cases hy⟩, L0⟩
    case round =>
      obtain ⟨k, n, l, o, p, c, hk, rfl, rfl, rfl, hc, HI, L⟩ := hrel
      clear L0
      by_cases hlt : k < m
      · obtain ⟨wh, s, pt, M, ct, T, hAc⟩ := HA.out k hlt
        have hM := HB.out.2 k hlt _ _ _ _ _ _ hAc
        have hm40 := HB.out.1
        have d0 : (0 : Int) ≤ (k : Int) := by omega
        have d1 : (k : Int) < (m : Int) := by omega
        have wk := IntWalk.i64_in ((k : Int) + 1) (by omega)
        have hAc2 := hAc.below (Lst.baseB L)
        obtain ⟨x, rfl, hx, f0, f1, f2, s32, hr, hT, hMc, hw⟩ := hAc
        obtain ⟨x2, hx2, _, e0, e1, e2, _⟩ := hAc2
        cases hx2
        obtain ⟨l', hl'⟩ : ∃ l', stepL l wh s T = l' := ⟨_, rfl⟩
        obtain ⟨n', hn'⟩ : ∃ n', l'.length = n' := ⟨_, rfl⟩
        have hinv := step_inv (T := T) (wh := wh) (s := s) HI.out.2.2.1 HI.out.2.2.2
        rw [hl', hn', HI.out.1] at hinv
        have HI2 := Lib.hid (show l'.length = n' ∧ n' ≤ k + 1 ∧ l'.Nodup ∧ ∀ y ∈ l', y < 4194304 from ⟨hn', by have := HI.out.2.1; omega, hinv.2⟩)
        have HS := Lib.hid (step15 (c := c) (ct := ct) L HI.out.1 (by have := HI.out.2.1; omega) hc HI.out.2.2.2 HI.out.2.2.1 s32 hT hM hMc hr hw l' n' hl' hn')
        have HSS := Lib.hid (show s < 4294967296 ∧ n' ≤ 5000 from ⟨s32, by have := HI2.out.2.1; omega⟩)
        have HF1 := Lib.hid f1
        have HX := Lib.hid hx
        obtain ⟨z, hz⟩ : ∃ z : Int, (s : Int) = z := ⟨_, rfl⟩
        have HZ := Lib.hid hz
        rw [hz] at HS e1 HF1
        clear hl' hn' hinv hT hMc hr hw hM f0 f1 f2 s32 hz hx
        go_wp2_with fail
        refine HS.out.mono ?_
        rintro e w2 ⟨o', p', c', rfl, L2, hc2⟩
        clear HS L e0 e1 e2
        have e1 : w2.cell? ⟨(x.add (k * 3)).block, (x.add (k * 3)).off + 1, none⟩ = some (.int .u32 z) := ((Lst.baseB L2).cell (p := ⟨(x.add (k * 3)).block, (x.add (k * 3)).off + 1, none⟩) (by show (x.add (k * 3)).block < _; rw [add_block]; exact HX.out)).trans HF1.out
        have KI := Lib.hid (Lst.is_ L2 n' c' s HI2.out.1 HSS.out.2 HSS.out.1)
        rw [HZ.out] at KI
        go_wp2_with fail
        refine KI.out.mono ?_
        rintro e w3 ⟨rfl, L3⟩
        clear KI L2 e1
        go_wp2_with fail
        go_roundw
        case rel => exact ⟨k + 1, n', l', o', p', c', by omega, by go_num, rfl, rfl, hc2, HI2, L3⟩
        case measure => simp [intOf] <;> omega
      · have d1 : ¬ (k : Int) < (m : Int) := by omega
        have B1 := Lib.hid (Lst.baseB L)
        go_wp2_with fail
        refine (HK.out _ B1.out).mono ?_
        rintro e w2 ⟨rfl, b2⟩
        have B2 := Lib.hid (tr B1.out b2)
        clear b2
        go_wp2_with fail
        go_ret
        exact ⟨rfl, B2.out⟩
end Go.Proofs.Ytajkcockeccdoaa.Lru
