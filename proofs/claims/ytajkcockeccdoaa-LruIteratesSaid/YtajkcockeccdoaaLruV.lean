/-
  Plain LRU lists (layer 15): the calls of the law LruPlays, and few.
-/
import Derived.Test.YtajkcockeccdoaaLruA
import Derived.Test.YtajkcockeccdoaaArl
set_option linter.unusedVariables false
set_option linter.unusedSimpArgs false
namespace Go.Proofs.Ytajkcockeccdoaa.Lru
open Go Go.RowKit Kit Go.Shelf Lnk
/-- call i of the row at a -/
def Ac (w : World) (a : Option Addr) (i : Nat) (wh : Int) (s : Nat) (pt : Option Addr) (M ct : Nat) (T : List Nat) : Prop :=
  ∃ x, a = some x ∧ x.block < w.heap.size ∧ w.cell? (x.add (i * 3)) = some (.int .i64 wh) ∧ w.cell? ⟨(x.add (i * 3)).block, (x.add (i * 3)).off + 1, none⟩ = some (.int .u32 (s : Int)) ∧ w.cell? ⟨(x.add (i * 3)).block, (x.add (i * 3)).off + 2, none⟩ = some (.slice pt M ct) ∧ s < 4294967296 ∧ Ru w pt (ints T) ∧ T.length = M ∧ M ≤ ct ∧ (∀ t ∈ T, t < 4294967296)
def Acl (w : World) (a : Option Addr) (m : Nat) : Prop := ∀ i, i < m → ∃ wh s pt M ct T, Ac w a i wh s pt M ct T
theorem Ac.below {w w' : World} {a : Option Addr} {i : Nat} {wh : Int} {s : Nat} {pt : Option Addr} {M ct : Nat} {T : List Nat} (h : Ac w a i wh s pt M ct T) (hb : Below w.heap.size w w') : Ac w' a i wh s pt M ct T := by
  obtain ⟨x, e, hx, h0, h1, h2, h3, h4, h5⟩ := h
  have k := fun j => hb.cell (p := ⟨(x.add (i * 3)).block, j, none⟩) (by show (x.add (i * 3)).block < _; rw [add_block]; exact hx)
  exact ⟨x, e, Nat.lt_of_lt_of_le hx hb.size, (hb.cell (p := x.add (i * 3)) (by rw [add_block]; exact hx)).trans h0, (k _).trans h1, (k _).trans h2, h3, h4.below hb, h5⟩
theorem Acl.below {w w' : World} {a : Option Addr} {m : Nat} (h : Acl w a m) (hb : Below w.heap.size w w') : Acl w' a m := fun i hi => by
  obtain ⟨wh, s, pt, M, ct, T, h⟩ := h i hi
  exact ⟨wh, s, pt, M, ct, T, h.below hb⟩
theorem add_pos3 (x : Addr) (m k : Nat) (hk : k ≠ 0) : x.add (m + k) = ⟨(x.add m).block, (x.add m).off + k, none⟩ := by
  unfold Addr.add
  by_cases h1 : m = 0
  · subst h1; simp [hk]
  · simp [h1, hk, Nat.add_assoc]
theorem cell_lt3 {w : World} {x : Addr} {v : Value} (h : w.cell? x = some v) : x.block < w.heap.size := by
  rcases Nat.lt_or_ge x.block w.heap.size with h' | h'
  · exact h'
  · simp [World.cell?, Array.getElem?_eq_none h'] at h
theorem ru_of3 {w : World} {p : Option Addr} {n k : Nat} (h : (p = none ∧ n = 0) ∨ ∃ y, p = some y ∧ n ≤ k ∧ k ≤ maxLen ∧ ∀ i, i < n → ∃ z : Int, w.cell? (y.add i) = some (.int .u32 z) ∧ (Lit.int .u32 z).wf = true) : ∃ T : List Nat, Ru w p (ints T) ∧ T.length = n ∧ (n = 0 ∨ n ≤ k) ∧ (∀ t ∈ T, t < 4294967296) := by
  rcases h with ⟨rfl, rfl⟩ | ⟨y, rfl, h1, h2, h3⟩
  · exact ⟨[], fun i x hx => by simp [ints] at hx, rfl, .inl rfl, fun t ht => by cases ht⟩
  · have h4 : ∀ i, ∃ t : Nat, i < n → w.cell? (y.add i) = some (.int .u32 (t : Int)) ∧ t < 4294967296 := fun i => by
      by_cases hi : i < n
      · obtain ⟨z, e1, e2⟩ := h3 i hi
        have b := Ev.wf_u32 e2
        exact ⟨z.toNat, fun _ => ⟨by rw [e1]; congr 2; omega, by omega⟩⟩
      · exact ⟨0, fun h => absurd h hi⟩
    obtain ⟨f, hf⟩ := Classical.axiomOfChoice h4
    refine ⟨(List.range n).map f, fun i x hx => ?_, by simp, .inr h1, fun t ht => ?_⟩
    · unfold ints at hx
      rw [List.map_map, List.getElem?_map] at hx
      cases hr : (List.range n)[i]? with
      | none => rw [hr] at hx; cases hx
      | some j =>
        rw [hr] at hx
        obtain ⟨hi, he⟩ := List.getElem?_eq_some_iff.1 hr
        simp at he hi
        subst he
        cases hx
        have hc := (hf i hi).1
        refine ⟨y, rfl, ?_, hc⟩
        have := cell_lt3 hc
        rw [add_block] at this
        exact this
    · obtain ⟨j, hj, rfl⟩ := List.mem_map.1 ht
      exact (hf j (by simpa using hj)).2
theorem acl_of {w : World} {a : Option Addr} {len cap : Nat} (h : (a = none ∧ len = 0) ∨ ∃ x, a = some x ∧ len ≤ cap ∧ cap ≤ maxLen ∧ ∀ i, i < len → ∃ (z0 : Int) (z1 : Int) (p2 : Option Addr) (m2 k2 : Nat), w.cell? (x.add (i * 3 + 0)) = some (.int .i64 z0) ∧ w.cell? (x.add (i * 3 + 1)) = some (.int .u32 z1) ∧ w.cell? (x.add (i * 3 + 2)) = some (.slice p2 m2 k2) ∧ (Lit.int .i64 z0).wf = true ∧ (Lit.int .u32 z1).wf = true ∧ ((p2 = none ∧ m2 = 0) ∨ ∃ y, p2 = some y ∧ m2 ≤ k2 ∧ k2 ≤ maxLen ∧ ∀ i, i < m2 → ∃ z : Int, w.cell? (y.add i) = some (.int .u32 z) ∧ (Lit.int .u32 z).wf = true)) : Acl w a len := fun i hi => by
  rcases h with ⟨_, h⟩ | ⟨x, hx, _, _, h⟩
  · omega
  · obtain ⟨z0, z1, p2, m2, k2, h0, h1, h2, w0, w1, h5⟩ := h i hi
    have b1 := Ev.wf_u32 w1
    have hb := cell_lt3 h0
    rw [add_block] at hb
    rw [add_pos3 _ _ _ (by decide)] at h1 h2
    obtain ⟨T, r, hl, hk, hT⟩ := ru_of3 h5
    have e1 : ((z1.toNat : Nat) : Int) = z1 := by omega
    exact ⟨z0, z1.toNat, p2, m2, k2, T, x, hx, hb, h0, by rw [e1]; exact h1, h2, by omega, r, hl, by rcases hk with hk | hk <;> omega, hT⟩
def FewQ (w : World) (a : Option Addr) (m : Nat) (e : Ending) : Prop := ∃ b, e = .returned (.bool b) ∧ (b = true → m ≤ 40 ∧ ∀ i, i < m → ∀ wh s pt M ct T, Ac w a i wh s pt M ct T → M ≤ 200)
set_option maxRecDepth 100000 in
set_option maxHeartbeats 4000000 in
theorem few15_any {w : World} {a : Option Addr} {m ca : Nat} (H : Acl w a m) (hm : m ≤ 9223372036854775807) :
    Calls Try.prog 39 #[.slice a m ca] w fun e w' => FewQ w a m e ∧ w = w' := by
  have HA := Lib.hid H
  clear H
  go_enter Try.func39, Try.ntmps39
  go_wp2_with fail
  go_loopw [3] (fun i wr => ∃ k : Nat, k ≤ m ∧ k ≤ 41 ∧ i = .int .i64 (k : Int) ∧ Hid (∀ j, j < k → ∀ wh s pt M ct T, Ac w a j wh s pt M ct T → M ≤ 200) ∧ w = wr) (fun i _ => m - (intOf i).toNat)
  case atStart => exact ⟨0, by omega, by omega, rfl, Lib.hid fun j hj => absurd hj (Nat.not_lt_zero _), rfl⟩
  case round =>
    obtain ⟨k, hk, hk41, rfl, HP, rfl⟩ := hrel
    by_cases hlt : k < m
    · have d0 : (0 : Int) ≤ (k : Int) := by omega
      have d1 : (k : Int) < (m : Int) := by omega
      by_cases h41 : k < 41
      · have d2 : (k : Int) < 41 := by omega
        have dd2 : decide ((k : Int) < 41) = true := decide_eq_true d2
        obtain ⟨wh, s, pt, M, ct, T, hAc⟩ := HA.out k hlt
        have HAC := Lib.hid hAc
        obtain ⟨x, rfl, hx, e0, e1, e2, s32, hr, hT, hMc, hw⟩ := hAc
        have HR := Lib.hid hr
        have HT := Lib.hid hT
        have HW := Lib.hid hw
        have wk := IntWalk.i64_in ((k : Int) + 1) (by omega)
        clear hr hT hw e0 hx
        by_cases hM : 200 < M
        · have d3 : (200 : Int) < (M : Int) := by omega
          clear e1 s32 hMc d2
          go_wp2_with fail
          go_ret
          exact ⟨⟨false, rfl, fun h => by cases h⟩, rfl⟩
        · have d3 : ¬ (200 : Int) < (M : Int) := by omega
          have HP' := Lib.hid (show ∀ j, j < k + 1 → ∀ wh s pt M ct T, Ac w (some x) j wh s pt M ct T → M ≤ 200 from fun j hj wh' s' pt' M' ct' T' h => by
            rcases Nat.lt_or_ge j k with h1 | h1
            · exact HP.out j h1 _ _ _ _ _ _ h
            · obtain rfl : j = k := by omega
              obtain ⟨x1, q1, _, _, _, q2, _⟩ := h
              obtain ⟨x2, q3, _, _, _, q4, _⟩ := HAC.out
              rw [q1] at q3
              cases q3
              rw [q2] at q4
              cases q4
              omega)
          obtain ⟨z, hz⟩ : ∃ z : Int, (s : Int) = z := ⟨_, rfl⟩
          rw [hz] at e1
          have hM2 : M ≤ 200 := by omega
          clear hz s32 hM HAC hMc d2
          by_cases hs : 5000 ≤ z ∧ z < 4194304
          · obtain ⟨g1, g2⟩ := hs
            go_wp2_with fail
            go_ret
            exact ⟨⟨false, rfl, fun h => by cases h⟩, rfl⟩
          · by_cases g1 : 5000 ≤ z
            all_goals (
              first
                | have g2 : ¬ z < 4194304 := fun h => hs ⟨g1, h⟩
                | skip
              clear hs
              go_wp2_with fail
              go_loopw [4] (fun i wr => ∃ j : Nat, j ≤ M ∧ i = .int .i64 (j : Int) ∧ w = wr) (fun i _ => M - (intOf i).toNat)
              case atStart => exact ⟨0, by omega, rfl, rfl⟩
              case round =>
                obtain ⟨j, hj, rfl, rfl⟩ := hrel
                by_cases hjl : j < M
                · obtain ⟨t, ht⟩ : ∃ t, T[j]? = some t := ⟨T[j]'(by rw [HT.out]; exact hjl), List.getElem?_eq_getElem _⟩
                  obtain ⟨y, rfl, hyb, e3⟩ := HR.out j (t : Int) (Lnk.ints_at ht)
                  have j0 : (0 : Int) ≤ (j : Int) := by omega
                  have j1 : (j : Int) < (M : Int) := by omega
                  have wj := IntWalk.i64_in ((j : Int) + 1) (by omega)
                  obtain ⟨u, hu⟩ : ∃ u : Int, (t : Int) = u := ⟨_, rfl⟩
                  rw [hu] at e3
                  clear hu ht hyb
                  by_cases hb1 : 5000 ≤ u
                  · by_cases hb2 : u < 4194304
                    · go_wp2_with fail
                      go_ret
                      exact ⟨⟨false, rfl, fun h => by cases h⟩, rfl⟩
                    · go_wp2_with fail
                      go_roundw
                      case rel => exact ⟨j + 1, by omega, by go_num, trivial⟩
                      case measure => simp [intOf] <;> omega
                  · go_wp2_with fail
                    go_roundw
                    case rel => exact ⟨j + 1, by omega, by go_num, trivial⟩
                    case measure => simp [intOf] <;> omega
                · have j1 : ¬ (j : Int) < (M : Int) := by omega
                  go_wp2_with fail
                  go_roundw
                  case rel => exact ⟨k + 1, by omega, by omega, by go_num, HP', trivial⟩
                  case measure => simp [intOf] <;> omega)
      · have d2 : ¬ (k : Int) < 41 := by omega
        have d3 : ¬ (m : Int) ≤ 40 := by omega
        go_wp2_with fail
        go_ret
        exact ⟨⟨false, by simp <;> omega, fun h => by cases h⟩, rfl⟩
    · have d1 : ¬ (k : Int) < (m : Int) := by omega
      obtain rfl : k = m := by omega
      go_wp2_with fail
      go_ret
      exact ⟨⟨decide ((k : Int) ≤ 40), rfl, fun h => ⟨by have := of_decide_eq_true h; omega, HP.out⟩⟩, rfl⟩
end Go.Proofs.Ytajkcockeccdoaa.Lru
