/-
  Counts of package load (layer 38): the law LoadCounts.
-/
import Derived.Test.YtjkjcmhlbimeaaaDoorLdcB
import Derived.Test.YtjkjcmhlbimeaaaDoorApp
import Derived.Lib.AppendZeros
set_option linter.unusedVariables false
set_option linter.unusedSimpArgs false
namespace Go.Proofs.YtjkjcmhlbimeaaaDoor.Ldc
open Go Go.RowKit Kit
set_option maxRecDepth 100000 in
theorem rcounts_bad {w : World} {p : Option Addr} {m c : Nat} {k : Int} (code : Int) (h : (4096 < (m : Int) ∧ code = 5) ∨ (¬ 4096 < (m : Int) ∧ (k < 1 ∨ (¬ k < 1 ∧ 4096 < k)) ∧ code = 2)) :
    Calls Tryd.prog 19 #[.slice p m c, .int .i64 k] w fun e w' => e = .returned (.tuple #[.slice none 0 0, .int .i64 code]) ∧ Below w.heap.size w w' := by
  rcases h with ⟨h1, rfl⟩ | ⟨h1, h2 | ⟨h2, h3⟩, rfl⟩
  all_goals (
    go_enter Tryd.func19, Tryd.ntmps19
    go_wp2_with fail
    go_ret2
    exact ⟨rfl, Below.refl _ _⟩)
set_option maxRecDepth 100000 in
theorem counts_bad {w : World} {p : Option Addr} {m c : Nat} {k : Int} (code : Int) (h : (4096 < (m : Int) ∧ code = 5) ∨ (¬ 4096 < (m : Int) ∧ (k < 1 ∨ (¬ k < 1 ∧ 4096 < k)) ∧ code = 2)) :
    Calls Tryd.prog 18 #[.slice p m c, .int .i64 k] w fun e w' => e = .returned (.tuple #[.slice none 0 0, .int .i64 code]) ∧ Below w.heap.size w w' := by
  rcases h with ⟨h1, rfl⟩ | ⟨h1, h2, rfl⟩
  · go_enter Tryd.func18, Tryd.ntmps18
    go_wp2_with fail
    go_ret2
    exact ⟨rfl, Below.refl _ _⟩
  · have HW := Lib.hid (fun v => within_any k 1 4096 v)
    rw [decide_eq_false (show ¬ (1 ≤ k ∧ k ≤ 4096) by omega)] at HW
    clear h2
    go_enter Tryd.func18, Tryd.ntmps18
    go_wp2_with fail
    refine (HW.out _).mono ?_
    rintro e w1 ⟨rfl, rfl⟩
    go_wp2_with fail
    go_ret2
    exact ⟨rfl, Below.refl _ _⟩
/-- both ways to count agree, and so does the comparison -/
theorem pair_any {W : World} {p : Option Addr} {m c : Nat} {k : Int} {l : List Int} (hr : m ≤ 4096 → Ru W p l ∧ l.length = m) :
    ∃ code : Int, (0 ≤ code ∧ code ≤ 5) ∧ ∃ P : World → Value → Prop, (∀ v v' x, P v x → Below v.heap.size v v' → P v' x) ∧
      (∀ v, Below W.heap.size W v → Calls Tryd.prog 18 #[.slice p m c, .int .i64 k] v fun e w' => (∃ x, e = .returned (.tuple #[x, .int .i64 code]) ∧ P w' x) ∧ Below v.heap.size v w') ∧
      (∀ v, Below W.heap.size W v → Calls Tryd.prog 19 #[.slice p m c, .int .i64 k] v fun e w' => (∃ x, e = .returned (.tuple #[x, .int .i64 code]) ∧ P w' x) ∧ Below v.heap.size v w') ∧
      (∀ v x y, P v x → P v y → Calls Tryd.prog 20 #[x, y] v fun e w' => e = .returned (.bool true) ∧ Below v.heap.size v w') := by
  by_cases hbad : 4096 < (m : Int) ∨ k < 1 ∨ 4096 < k
  · obtain ⟨code, h⟩ : ∃ code : Int, ((4096 < (m : Int) ∧ code = 5) ∨ (¬ 4096 < (m : Int) ∧ (k < 1 ∨ (¬ k < 1 ∧ 4096 < k)) ∧ code = 2)) := by
      by_cases h1 : 4096 < (m : Int)
      · exact ⟨5, .inl ⟨h1, rfl⟩⟩
      · exact ⟨2, .inr ⟨h1, by omega, rfl⟩⟩
    refine ⟨code, by omega, fun _ x => x = .slice none 0 0, fun _ _ _ h _ => h, fun v _ => (counts_bad code h).mono ?_, fun v _ => (rcounts_bad code h).mono ?_, ?_⟩
    · rintro e w' ⟨rfl, hb⟩; exact ⟨⟨_, rfl, rfl⟩, hb⟩
    · rintro e w' ⟨rfl, hb⟩; exact ⟨⟨_, rfl, rfl⟩, hb⟩
    · rintro v x y rfl rfl; exact ints_nil v
  · obtain ⟨K, rfl⟩ : ∃ K : Nat, k = (K : Int) := ⟨k.toNat, by omega⟩
    obtain ⟨hr, hm⟩ := hr (by omega)
    by_cases hall : ∀ x ∈ l, x < (K : Int)
    · refine ⟨0, by omega, fun v x => ∃ g, x = .slice (some ⟨g, 0, none⟩) K K ∧ Row v g K 3 (fun k => .int .i64 ((ct l l.length k : Nat) : Int)), ?_, fun v hb => (counts_any (hr.below hb) hm (by omega) (by omega) (by omega)).mono ?_, fun v hb => (rcounts_any (hr.below hb) hm (by omega) (by omega) (by omega)).mono ?_, ?_⟩
      · rintro v v' x ⟨g, rfl, h⟩ hb; exact ⟨g, rfl, h.below hb⟩
      · rintro e w' ⟨⟨_, g, rfl, h⟩ | ⟨⟨x, hx, hn⟩, _⟩, hb⟩
        · exact ⟨⟨_, rfl, g, rfl, h⟩, hb⟩
        · exact absurd (hall x hx) hn
      · rintro e w' ⟨⟨_, g, rfl, h⟩ | ⟨⟨x, hx, hn⟩, _⟩, hb⟩
        · exact ⟨⟨_, rfl, g, rfl, h⟩, hb⟩
        · exact absurd (hall x hx) hn
      · rintro v x y ⟨g, rfl, h⟩ ⟨g', rfl, h'⟩
        exact ints_any h h' (by omega)
    · refine ⟨3, by omega, fun _ x => x = .slice none 0 0, fun _ _ _ h _ => h, fun v hb => (counts_any (hr.below hb) hm (by omega) (by omega) (by omega)).mono ?_, fun v hb => (rcounts_any (hr.below hb) hm (by omega) (by omega) (by omega)).mono ?_, ?_⟩
      · rintro e w' ⟨⟨h, _⟩ | ⟨_, rfl⟩, hb⟩
        · exact absurd h hall
        · exact ⟨⟨_, rfl, rfl⟩, hb⟩
      · rintro e w' ⟨⟨h, _⟩ | ⟨_, rfl⟩, hb⟩
        · exact absurd h hall
        · exact ⟨⟨_, rfl, rfl⟩, hb⟩
      · rintro v x y rfl rfl; exact ints_nil v
set_option maxRecDepth 100000 in
set_option maxHeartbeats 2000000 in
theorem lcounts_any {W : World} {p : Option Addr} {m c : Nat} {k lg : Int} {l : List Int} (hr : Ru W p l) (hm : l.length = m)
    (HKN : ∀ w1, Below W.heap.size W w1 → Calls Tryd.prog 14 #[] w1 fun e w' => e = .returned (.bool true) ∧ Below w1.heap.size w1 w') :
    Calls Tryd.prog 4 #[.slice p m c, .int .i64 k, .int .u8 lg] W fun e w' => e = .returned (.bool true) ∧ Below W.heap.size W w' := by
  have HK := Lib.hid HKN
  have HR := Lib.hid hr
  have HM := Lib.hid hm
  clear hr hm HKN
  by_cases hbig : 300 < (m : Int)
  · go_enter Tryd.func4, Tryd.ntmps4
    go_wp2_with fail
    refine (HK.out _ (Below.refl _ _)).mono ?_
    rintro e w1 ⟨rfl, b1⟩
    have B1 := Lib.hid b1
    clear b1
    go_wp2_with fail
    go_ret
    exact ⟨rfl, B1.out⟩
  · by_cases h7 : lg = 7
    · subst h7
      have wm := IntWalk.i64_in (4097 - (m : Int)) (by omega)
      obtain ⟨M, hM⟩ : ∃ M : Nat, M = 4097 - m := ⟨_, rfl⟩
      obtain ⟨i0, hi0, hzz⟩ := Option.map_eq_some_iff.1 (show (Tryd.prog.info? 86).map (fun i => (i.zero, i.size, i.bytes)) = some (some (.int .u32 0), 1, 4) by kernel_rfl)
      simp only [Prod.mk.injEq] at hzz
      obtain ⟨hz0, hz1, hz2⟩ := hzz
      have HRG := Lib.hid (show App.Rg W p (l.map (Value.int .u32)) from fun i v hv => by
        rw [List.getElem?_map] at hv
        cases hx : l[i]? with
        | none => rw [hx] at hv; cases hv
        | some x =>
          rw [hx] at hv
          cases hv
          obtain ⟨y, a, b, c, _⟩ := HR.out i x hx
          exact ⟨y, a, b, c⟩)
      have HZE := Lib.hid (fun (v : World) (hb : W.heap.size ≤ v.heap.size) (x : Value) (xs : List Value) (ty : TypeId) (ho : v.ownsRow W.heap.size 86 1 x m xs) => App.run_append_zeros v 28 3 ty 86 i0 (.int .u32 0) (by kernel_rfl) (by kernel_rfl) hi0 hz0 hz1 rfl rfl (by rw [hz2]; decide) W.heap.size hb x m xs ho M (by omega) (by omega))
      have hMi : ((M : Nat) : Int) = 4097 - (m : Int) := by omega
      rw [hMi, show m + M = 4097 by omega] at HZE
      go_enter Tryd.func4, Tryd.ntmps4
      go_wp2_with (at_builtin; first
        | (refine App.wpList_appG rfl _ _ 28 rfl W.heap.size 86 i0 (.int .u32 0) 4 (by kernel_rfl) hi0 hz0 hz1 hz2 rfl (.slice none 0 0) 0 [] rfl (World.ownsRow_nil _ _ _ _) p m c (l.map (Value.int .u32)) rfl (by rw [List.length_map]; exact HM.out) HRG.out (by intro u hu; obtain ⟨x, _, rfl⟩ := List.mem_map.1 hu; rfl) (by omega) (by omega) (Nat.le_refl _) ?_; intro v1 w1 hown1 hb1 hs1; rw [Nat.zero_add, List.nil_append] at hown1; obtain ⟨q1, k1, rfl, _, _⟩ := App.own_form hown1; have HO1 := Lib.hid hown1; have HB1 := Lib.hid hb1; clear hown1 hb1)
        | (obtain ⟨q2, k2, w2, hr2, hb2⟩ := HZE.out w1 hs1 _ _ _ HO1.out; have HB2 := Lib.hid (HB1.out.trans hb2); clear hb2; refine Lib.wpList_append_run _ rfl _ _ _ _ rfl _ _ rfl rfl _ _ hr2 ?_; clear hr2))
      obtain ⟨code, hc, P, p1, p2, p3, p4⟩ := pair_any (W := w2) (p := q2) (m := 4097) (c := k2) (k := k) (l := []) (fun h => by omega)
      have wc := IntWalk.i64_in code (by omega)
      have P1 := Lib.hid p1
      have P2 := Lib.hid p2
      have P3 := Lib.hid p3
      have P4 := Lib.hid p4
      clear p1 p2 p3 p4 hc
      refine (P2.out _ (Below.refl _ _)).mono ?_
      rintro e u1 ⟨⟨x, rfl, hx⟩, b1⟩
      have B1 := Lib.hid b1
      have C1 := Lib.hid (HB2.out.trans (b1.mono HB2.out.size))
      have X1 := Lib.hid hx
      clear b1 hx
      go_wp2_with fail
      refine (P3.out _ B1.out).mono ?_
      rintro e u2 ⟨⟨y, rfl, hy⟩, b2⟩
      have B2 := Lib.hid (tr B1.out b2)
      have C2 := Lib.hid (tr C1.out b2)
      have CM := Lib.hid (P4.out _ _ _ (P1.out _ _ _ X1.out b2) hy)
      clear b2 hy
      go_wp2_with fail
      refine CM.out.mono ?_
      rintro e u3 ⟨rfl, b3⟩
      have C3 := Lib.hid (tr C2.out b3)
      clear b3
      go_wp2_with fail
      refine (HK.out _ C3.out).mono ?_
      rintro e u4 ⟨rfl, b4⟩
      have C4 := Lib.hid (tr C3.out b4)
      clear b4
      go_wp2_with fail
      go_ret
      exact ⟨rfl, C4.out⟩
    · have h7b : (lg == 7) = false := by rw [beq_eq_false_iff_ne]; exact h7
      obtain ⟨code, hc, P, p1, p2, p3, p4⟩ := pair_any (c := c) (k := k) (fun _ => ⟨HR.out, HM.out⟩)
      have wc := IntWalk.i64_in code (by omega)
      have P1 := Lib.hid p1
      have P2 := Lib.hid p2
      have P3 := Lib.hid p3
      have P4 := Lib.hid p4
      clear p1 p2 p3 p4 h7 hc
      go_enter Tryd.func4, Tryd.ntmps4
      go_wp2_with fail
      refine (P2.out _ (Below.refl _ _)).mono ?_
      rintro e w1 ⟨⟨x, rfl, hx⟩, b1⟩
      have B1 := Lib.hid b1
      have X1 := Lib.hid hx
      clear b1 hx
      go_wp2_with fail
      refine (P3.out _ B1.out).mono ?_
      rintro e w2 ⟨⟨y, rfl, hy⟩, b2⟩
      have B2 := Lib.hid (tr B1.out b2)
      have CM := Lib.hid (P4.out _ _ _ (P1.out _ _ _ X1.out b2) hy)
      clear b2 hy
      go_wp2_with fail
      refine CM.out.mono ?_
      rintro e w3 ⟨rfl, b3⟩
      have B3 := Lib.hid (tr B2.out b3)
      clear b3
      go_wp2_with fail
      refine (HK.out _ B3.out).mono ?_
      rintro e w4 ⟨rfl, b4⟩
      have B4 := Lib.hid (tr B3.out b4)
      clear b4
      go_wp2_with fail
      go_ret
      exact ⟨rfl, B4.out⟩
end Go.Proofs.YtjkjcmhlbimeaaaDoor.Ldc
