/-
  Ghost lists (layer 28): New; the state of a list among the steps of a law.
-/
import Derived.Test.YtggimkfepcgaoaaGhoG
import Derived.Test.YtggimkfepcgaoaaLnkL
set_option linter.unusedVariables false
set_option linter.unusedSimpArgs false
namespace Go.Proofs.Ytggimkfepcgaoaa.Gho
open Go Go.RowKit Kit Go.Maps Lnk
/-- a list of the law, all its blocks new -/
def Gs (w0 v : World) (b K B : Nat) (most : Int) (keys : List Nat) : Prop := ∃ c q r cq cr N F g kc m nm D L fr KL, Gh v b c q r cq cr N F g kc m nm D most L fr KL ∧ kys KL L = keys ∧ N ≤ B ∧ nm ≤ K ∧ (w0.heap.size ≤ b ∧ w0.heap.size ≤ c ∧ w0.heap.size ≤ q ∧ w0.heap.size ≤ r ∧ w0.heap.size ≤ g ∧ w0.heap.size ≤ m) ∧ Below w0.heap.size w0 v
set_option maxRecDepth 100000 in
theorem isBound_any (w : World) (n : Int) :
    Calls Try.prog 108 #[.int .i64 n] w fun e w' => e = .returned (.bool (decide (0 ≤ n ∧ n ≤ 4096))) ∧ w = w' := by
  by_cases h1 : n < 0
  · rw [decide_eq_false (by omega)]
    have h2 : ¬ 0 ≤ n := by omega
    go_enter Try.func108, Try.ntmps108
    go_wp2_with fail
    go_ret
    exact ⟨rfl, rfl⟩
  · have h2 : 0 ≤ n := by omega
    by_cases h3 : n ≤ 4096
    · rw [decide_eq_true ⟨h2, h3⟩]
      go_enter Try.func108, Try.ntmps108
      go_wp2_with fail
      go_ret
      exact ⟨rfl, rfl⟩
    · rw [decide_eq_false (by omega)]
      go_enter Try.func108, Try.ntmps108
      go_wp2_with fail
      go_ret
      exact ⟨rfl, rfl⟩
set_option maxRecDepth 100000 in
set_option maxHeartbeats 4000000 in
theorem gnew_ok (w : World) (M : Nat) (hM : M ≤ 4096) :
    Calls Try.prog 36 #[.int .i64 (M : Int)] w fun e w' => ∃ b, e = .returned (.tuple #[.pointer (some ⟨b, 0, none⟩), .int .i64 0]) ∧ Gs w w' b 0 1 (M : Int) [] := by
  have HIB := Lib.hid (isBound_any w (M : Int))
  rw [decide_eq_true (show (0 : Int) ≤ (M : Int) ∧ (M : Int) ≤ 4096 by omega)] at HIB
  have HNW := Lib.hid (show Calls Try.prog 16 #[.int .i64 1, .int .i64 2] w fun e w' => (∃ c q r F, e = .returned (.tuple #[.pointer (some ⟨c, 0, none⟩), .int .i64 0]) ∧ Lo w' c q r 3 2 1 F [[], []] ∧ w.heap.size ≤ c ∧ w.heap.size ≤ q ∧ w.heap.size ≤ r) ∧ Below w.heap.size w w' from New_ok 1 2 w (by omega) (by omega) (by omega) (by omega))
  clear hM
  obtain ⟨z, hz⟩ : ∃ z : Int, (M : Int) = z := ⟨_, rfl⟩
  rw [hz] at HIB ⊢
  have hmm := @run_makeMap Try.prog
  have hmk : ∀ v : World, (Instr.makeSlice 39 (.int .i64 1) (.int .i64 1)).run Try.prog v = .ok (.slice (some ⟨v.heap.size, 0, none⟩) 1 1) (v.alloc (.cells (madeCells #[.int .u32 0] 1) 38)) := fun v => App.mk_row (t := 39) (e := 38) (z := .int .u32 0) (bytes := 4) (by kernel_rfl) (by kernel_rfl) rfl (by omega) 1 (by omega) v
  go_enter Try.func36, Try.ntmps36
  go_wp2_with fail
  refine HIB.out.mono ?_
  rintro e w1 ⟨rfl, rfl⟩
  go_wp2_with fail
  refine HNW.out.mono ?_
  rintro e w1 ⟨⟨c, q, r, F, rfl, lo, hc, hq, hr⟩, bl⟩
  have LO := Lib.hid lo
  have HB := Lib.hid (show (w.heap.size ≤ c ∧ w.heap.size ≤ q ∧ w.heap.size ≤ r) ∧ Below w.heap.size w w1 from ⟨⟨hc, hq, hr⟩, bl⟩)
  clear lo hc hq hr bl
  go_wp2_with fail
  obtain ⟨V, hV⟩ : ∃ V, ((w1.alloc (.cells (madeCells #[.int .u32 0] 1) 38)).alloc (.map #[] 0)).alloc (.cells #[.int .i64 z, .pointer (some ⟨c, 0, none⟩), .slice (some ⟨w1.heap.size, 0, none⟩) 1 1, .map (some (w1.heap.size + 1))] 155) = V := ⟨_, rfl⟩
  rw [hV]
  have e1 := (MapKept.heap_alloc w1 (.cells (madeCells #[.int .u32 0] 1) 38)).1
  have m2 := (w1.alloc (.cells (madeCells #[.int .u32 0] 1) 38)).ownsMap_made Try.prog 38 (plainElem (H := Unit) Try.prog 38)
  have e3 := (MapKept.heap_alloc ((w1.alloc (.cells (madeCells #[.int .u32 0] 1) 38)).alloc (.map #[] 0)) (.cells #[.int .i64 z, .pointer (some ⟨c, 0, none⟩), .slice (some ⟨w1.heap.size, 0, none⟩) 1 1, .map (some (w1.heap.size + 1))] 155)).1
  have m3 := m2.alloc (.cells #[.int .i64 z, .pointer (some ⟨c, 0, none⟩), .slice (some ⟨w1.heap.size, 0, none⟩) 1 1, .map (some (w1.heap.size + 1))] 155)
  have k1 : V.heap[w1.heap.size]? = some (.cells (madeCells #[.int .u32 0] 1) 38 (0, 0)) := by
    rw [← hV]
    refine ((MapKept.heap_alloc ((w1.alloc (.cells (madeCells #[.int .u32 0] 1) 38)).alloc (.map #[] 0)) _).2 _ (by simp only [World.size_alloc]; omega)).trans (((MapKept.heap_alloc (w1.alloc (.cells (madeCells #[.int .u32 0] 1) 38)) _).2 _ (by simp only [World.size_alloc]; omega)).trans e1)
  simp only [World.size_alloc] at e3 m3
  rw [hV] at e3 m3
  have BV := Lib.hid (show Below w1.heap.size w1 V from by rw [← hV]; go_grown)
  have hsz : V.heap.size = w1.heap.size + 3 := by rw [← hV]; simp
  have HBK := Lib.hid (Back_ok (LO.out.below BV.out) (h := 1) (n := 0) rfl (by omega) (fun h l hl => by
    match h, hl with
    | 0, hl => simp at hl; subst hl; simp
    | 1, hl => simp at hl; subst hl; simp
    | h + 2, hl => simp at hl))
  have HV := Lib.hid (show V.heap[w1.heap.size]? = some (.cells (madeCells #[.int .u32 0] 1) 38 (0, 0)) ∧ V.ownsMap Try.prog 38 (plainElem Try.prog 38) (w1.heap.size + 1) 0 (DataW.map []) ∧ V.heap[w1.heap.size + 1 + 1]? = some (.cells #[.int .i64 z, .pointer (some ⟨c, 0, none⟩), .slice (some ⟨w1.heap.size, 0, none⟩) 1 1, .map (some (w1.heap.size + 1))] 155 (0, 0)) ∧ V.heap.size = w1.heap.size + 3 from ⟨k1, m3, e3, hsz⟩)
  clear hV e1 m2 e3 m3 k1 hsz hmm hmk
  refine HBK.out.mono ?_
  rintro e w2 ⟨rfl, lo2, kp2⟩
  have LO2 := Lib.hid lo2
  have KP2 := Lib.hid kp2
  clear lo2 kp2
  go_wp2_with fail
  go_returns
  have hv := HV.out
  have hb := HB.out
  have hl := LO.out.lt
  have hbs := hb.2.size
  have hO : ∀ k, w1.heap.size ≤ k → ¬ Ob c q r k := fun k hk h => by rcases h with h | h | h <;> omega
  refine ⟨w1.heap.size + 1 + 1, rfl, c, q, r, 3, 2, 1, _, w1.heap.size, 1, w1.heap.size + 1, 0, .map [], [], [0], [0], ⟨(KP2.out.block _ (by omega) (hO _ (by omega))).trans (hz ▸ hv.2.2.1), LO2.out, ⟨rfl, .inr ⟨_, _, _, rfl, Nat.zero_le _, (KP2.out.block _ (by omega) (hO _ (by omega))).trans hv.1, by omega, by decide, by kernel_rfl, by kernel_rfl⟩⟩, rfl, by simp, map_of hv.2.1 (KP2.out.block _ (by omega) (hO _ (by omega))), Mf.nil, fun n hn => .inr (by simp; omega), by omega, by omega, by omega⟩, rfl, by omega, by omega, by omega, ?_⟩
  have k2 := ((Kp.of (bad := Ob c q r) hb.2).tr BV.out).trans KP2.out
  exact k2.below (fun k hk h => by rcases h with h | h | h <;> omega) (Nat.le_refl _)
theorem Gs.of {w0 v v' : World} {b c q r g m nm K B : Nat} {most : Int} {keys : List Nat} (hl : w0.heap.size ≤ b ∧ w0.heap.size ≤ c ∧ w0.heap.size ≤ q ∧ w0.heap.size ≤ r ∧ w0.heap.size ≤ g ∧ w0.heap.size ≤ m) (bl : Below w0.heap.size w0 v) (hK : nm ≤ K) (h : GhR v v' b c q r g m nm B most keys) : Gs w0 v' b K B most keys := by
  obtain ⟨q2, r2, cq, cr, N, F, g2, kc, D, L, fr, KL, h1, h2, h3, h4, h5, h6, h7⟩ := h
  have hs := bl.size
  refine ⟨c, q2, r2, cq, cr, N, F, g2, kc, m, nm, D, L, fr, KL, h1, h2, h6, hK, by omega, ?_⟩
  refine ((Kp.of (bad := Obg b c q r g m) bl).trans h7).below (fun k hk h => ?_) (Nat.le_refl _)
  rcases h with h | (h | h | h) | h | h <;> omega
/-- what Add leaves of the state, the key not being there -/
def AddS (w0 w' : World) (b K B : Nat) (most : Int) (keys : List Nat) (k : Nat) (e : Ending) : Prop := if (keys.length : Int) + 1 ≤ most then e = .returned (.tuple #[.int .u32 0, .bool false, .int .i64 0]) ∧ Gs w0 w' b (K + 1) B most (k :: keys) else ∃ x, (k :: keys).getLast? = some x ∧ e = .returned (.tuple #[.int .u32 (x : Int), .bool true, .int .i64 0]) ∧ Gs w0 w' b (K + 1) B most (k :: keys).dropLast
theorem kys_len {KL L : List Nat} : (kys KL L).length = L.length := by unfold kys; rw [List.length_map]
theorem Gs.add_new {w0 v : World} {b K B : Nat} {most : Int} {keys : List Nat} (h : Gs w0 v b K B most keys) (hB1 : B ≤ 1000000) (hB : 2 * keys.length ≤ B) (hK : K ≤ 1000000) (k : Nat) (hk : k < 4294967296) (hnk : k ∉ keys) (hm : (keys.length : Int) ≤ most) :
    Calls Try.prog 39 #[.pointer (some ⟨b, 0, none⟩), .int .u32 (k : Int)] v fun e w' => AddS w0 w' b K B most keys k e := by
  obtain ⟨c, q, r, cq, cr, N, F, g, kc, m, nm, D, L, fr, KL, h1, rfl, h3, h4, h5, h6⟩ := h
  rw [kys_len] at hB hm
  refine (gadd_new h1 (by omega) h3 hB (by omega) k hk hnk hm).mono ?_
  intro e w' h
  unfold AddQ at h
  unfold AddS
  rw [kys_len]
  split at h
  · next hc =>
    rw [if_pos hc]
    exact ⟨h.1, Gs.of h5 h6 (by omega) h.2⟩
  · next hc =>
    rw [if_neg hc]
    obtain ⟨x, hx, he, hr⟩ := h
    exact ⟨x, hx, he, Gs.of h5 h6 (by omega) hr⟩
theorem Gs.mono {w0 v : World} {b K B K' B' : Nat} {most : Int} {keys : List Nat} (h : Gs w0 v b K B most keys) (hK : K ≤ K') (hB : B ≤ B') : Gs w0 v b K' B' most keys := by
  obtain ⟨c, q, r, cq, cr, N, F, g, kc, m, nm, D, L, fr, KL, h1, h2, h3, h4, h5, h6⟩ := h
  exact ⟨c, q, r, cq, cr, N, F, g, kc, m, nm, D, L, fr, KL, h1, h2, by omega, by omega, h5, h6⟩
theorem Gs.bl {w0 v : World} {b K B : Nat} {most : Int} {keys : List Nat} (h : Gs w0 v b K B most keys) : Below w0.heap.size w0 v := by
  obtain ⟨c, q, r, cq, cr, N, F, g, kc, m, nm, D, L, fr, KL, h1, h2, h3, h4, h5, h6⟩ := h
  exact h6
theorem Gs.below {w0 v v' : World} {b K B : Nat} {most : Int} {keys : List Nat} (h : Gs w0 v b K B most keys) (hb : Below v.heap.size v v') : Gs w0 v' b K B most keys := by
  obtain ⟨c, q, r, cq, cr, N, F, g, kc, m, nm, D, L, fr, KL, h1, h2, h3, h4, h5, h6⟩ := h
  have hs := h6.size
  exact ⟨c, q, r, cq, cr, N, F, g, kc, m, nm, D, L, fr, KL, h1.below hb, h2, h3, h4, h5, ((Kp.of (bad := fun _ => False) h6).tr hb).below (fun k hk h => h) (Nat.le_refl _)⟩
theorem Gs.len {w0 v : World} {b K B : Nat} {most : Int} {keys : List Nat} (h : Gs w0 v b K B most keys) : Calls Try.prog 42 #[.pointer (some ⟨b, 0, none⟩)] v fun e w' => e = .returned (.int .i64 (keys.length : Int)) ∧ v = w' := by
  obtain ⟨c, q, r, cq, cr, N, F, g, kc, m, nm, D, L, fr, KL, h1, rfl, h3, h4, h5, h6⟩ := h
  rw [kys_len]
  exact glen_any h1
theorem Gs.has {w0 v : World} {b K B : Nat} {most : Int} {keys : List Nat} (h : Gs w0 v b K B most keys) (k : Nat) (hk : k < 4294967296) : Calls Try.prog 47 #[.pointer (some ⟨b, 0, none⟩), .int .u32 (k : Int)] v fun e w' => e = .returned (.bool (decide (k ∈ keys))) ∧ v = w' := by
  obtain ⟨c, q, r, cq, cr, N, F, g, kc, m, nm, D, L, fr, KL, h1, rfl, h3, h4, h5, h6⟩ := h
  exact ghas_any h1 k hk
end Go.Proofs.Ytggimkfepcgaoaa.Gho
