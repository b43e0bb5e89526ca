/-
  Ghost lists (layer 28): Pop, Add.
-/
import Derived.Test.YtggimkfepcgaoaaGhoF
import Derived.Test.YtggimkfepcgaoaaLnkBc
set_option linter.unusedVariables false
set_option linter.unusedSimpArgs false
section
namespace Go.Proofs.Ytggimkfepcgaoaa.Gho
open Go Go.RowKit Kit Go.Maps Lnk
theorem lst_app (a : Nat) (l : List Nat) (n : Nat) : lst a (l ++ [n]) = n := by
  rw [lst_append]; rfl
set_option maxRecDepth 100000 in
set_option maxHeartbeats 4000000 in
theorem gpop_in {w : World} {b c q r cq cr N : Nat} {F : Lnk.Fd} {g kc m nm : Nat} {D : DataW Unit} {most : Int} {L1 fr KL : List Nat} {n : Nat} (H : Gh w b c q r cq cr N F g kc m nm D most (L1 ++ [n]) fr KL) {B : Nat} (hB : N ≤ B) :
    Calls Try.prog 45 #[.pointer (some ⟨b, 0, none⟩)] w fun e w' => e = .returned (.tuple #[.int .u32 (ky KL n : Int), .int .i64 0]) ∧ GhR w w' b c q r g m nm B most (kys KL L1) := by
  have HZ0 := Lib.hid (gzero_any H)
  have hnN : n < N := H.nodeLt (by simp)
  have hLA := Last_ok H.lo (k := 0) (l := L1 ++ [n]) rfl
  rw [lst_app, if_pos hnN] at hLA
  have HLA := Lib.hid (show Calls Try.prog 75 #[.pointer (some ⟨c, 0, none⟩), .int .i64 0] w fun e w' => e = .returned (.tuple #[.int .u32 (n : Int), .int .i64 0]) ∧ Below w.heap.size w w' from hLA)
  obtain ⟨c0, c1, c2, c3, cf⟩ := H.cells
  have HH := Lib.hid H
  have HB := Lib.hid (show N ≤ B ∧ n < N from ⟨hB, hnN⟩)
  clear H hnN hLA hB
  go_enter Try.func45, Try.ntmps45
  go_wp2_with fail
  refine HZ0.out.mono ?_
  rintro e w1 ⟨rfl, rfl⟩
  go_wp2_with fail
  refine HLA.out.mono ?_
  rintro e w1 ⟨rfl, b1⟩
  have H1 := Lib.hid (HH.out.below b1)
  have B1 := Lib.hid b1
  clear c0 c1 c2 c3 cf b1
  obtain ⟨c0, c1, c2, c3, cf⟩ := H1.out.cells
  have x0 : (0 : Int) ≤ (n : Int) := by omega
  have x1 : (n : Int) < (N : Int) := by have := HB.out; omega
  have fc : w1.cell? ⟨g, n, none⟩ = some (.int .u32 (ky KL n : Int)) := by
    have h := H1.out.ks.cellAt n (by have := HB.out; omega)
    have hl : n < KL.length := by rw [H1.out.kl]; exact HB.out.2
    refine h.trans ?_
    unfold ints ky
    simp [hl]
  have HR := Lib.hid (gremove_in H1.out (ky KL n) (H1.out.kyLt n) rfl HB.out.1)
  obtain ⟨z, hz⟩ : ∃ z : Int, (ky KL n : Int) = z := ⟨_, rfl⟩
  have HZ := Lib.hid hz
  rw [hz] at fc HR
  clear hz
  go_wp2_with fail
  refine HR.out.mono ?_
  rintro e w2 ⟨rfl, h2⟩
  rw [List.append_nil] at h2
  have H2 := Lib.hid (GhR.trans (.inl rfl) (.inl rfl) (.inl rfl) (Kp.of B1.out) h2)
  clear h2
  go_wp2_with fail
  go_returns
  exact ⟨by rw [HZ.out]; rfl, H2.out⟩
set_option maxRecDepth 100000 in
set_option maxHeartbeats 4000000 in
theorem gremove_no {w : World} {b c q r cq cr N : Nat} {F : Lnk.Fd} {g kc m nm : Nat} {D : DataW Unit} {most : Int} {L fr KL : List Nat} (H : Gh w b c q r cq cr N F g kc m nm D most L fr KL) (k : Nat) (hk : k < 4294967296) (hn : k ∉ kys KL L) :
    Calls Try.prog 44 #[.pointer (some ⟨b, 0, none⟩), .int .u32 (k : Int)] w fun e w' => e = .returned (.tuple #[.bool false, .int .i64 0]) ∧ w = w' := by
  have HZ0 := Lib.hid (gzero_any H)
  obtain ⟨v, hlk⟩ := look_no H.mp H.mf hk (kys_ent hn)
  obtain ⟨c0, c1, c2, c3, cf⟩ := H.cells
  obtain ⟨z, hz⟩ : ∃ z : Int, (k : Int) = z := ⟨_, rfl⟩
  rw [hz] at hlk ⊢
  clear H hk hn hz
  go_enter Try.func44, Try.ntmps44
  go_wp2_with fail
  refine HZ0.out.mono ?_
  rintro e w1 ⟨rfl, rfl⟩
  go_wp2_with fail
  go_ret2
  exact ⟨rfl, rfl⟩
set_option maxRecDepth 100000 in
set_option maxHeartbeats 4000000 in
theorem gadd_in {w : World} {b c q r cq cr N : Nat} {F : Lnk.Fd} {g kc m nm : Nat} {D : DataW Unit} {most : Int} {L1 L2 fr KL : List Nat} {n : Nat} (H : Gh w b c q r cq cr N F g kc m nm D most (L1 ++ n :: L2) fr KL) (k : Nat) (hk : k < 4294967296) (hn : ky KL n = k) {B : Nat} (hB : N ≤ B) :
    Calls Try.prog 39 #[.pointer (some ⟨b, 0, none⟩), .int .u32 (k : Int)] w fun e w' => e = .returned (.tuple #[.int .u32 0, .bool false, .int .i64 0]) ∧ GhR w w' b c q r g m nm B most (kys KL (n :: (L1 ++ L2))) := by
  have HZ0 := Lib.hid (gzero_any H)
  have hlk := look_in H.mp H.mf hk (ent_mem.2 ⟨by simp, hn⟩)
  obtain ⟨c0, c1, c2, c3, cf⟩ := H.cells
  have HH := Lib.hid H
  have HK := Lib.hid (show k < 4294967296 ∧ ky KL n = k ∧ N ≤ B from ⟨hk, hn, hB⟩)
  obtain ⟨z, hz⟩ : ∃ z : Int, (k : Int) = z := ⟨_, rfl⟩
  rw [hz] at hlk ⊢
  have HMV := Lib.hid (gmove_raw H.lo H.ob ⟨H.db.1, H.db.2.1, H.db.2.2.1⟩ (h := 0) (j := 0) (x := n) (l1 := L1) (l2 := L2) (l := L1 ++ L2) rfl rfl)
  clear H hk hn hz hB
  go_enter Try.func39, Try.ntmps39
  go_wp2_with fail
  refine HZ0.out.mono ?_
  rintro e w1 ⟨rfl, rfl⟩
  go_wp2_with fail
  refine HMV.out.mono ?_
  rintro e w6 ⟨rfl, ⟨F6, lo6⟩, kp6⟩
  have LO6 := Lib.hid lo6
  have KP6 := Lib.hid kp6
  clear lo6 kp6
  go_wp2_with fail
  go_returns
  refine ⟨rfl, ?_⟩
  have h2 := HH.out
  have hbO : ¬ Ob c q r b := fun h => by rcases h with h | h | h; exact h2.db.1 h; exact h2.db.2.1 h; exact h2.db.2.2.1 h
  have hgO : ¬ Ob c q r g := fun h => by rcases h with h | h | h; exact h2.dg.1 h; exact h2.dg.2.1 h; exact h2.dg.2.2.1 h
  have hmO : ¬ Ob c q r m := fun h => by rcases h with h | h | h; exact h2.dm.1 h; exact h2.dm.2.1 h; exact h2.dm.2.2 h
  have hl := h2.lt
  have hper : (ent KL (L1 ++ n :: L2)).Perm (ent KL (n :: (L1 ++ L2))) := List.Perm.map _ List.perm_middle
  refine ⟨q, r, cq, cr, N, F6, g, kc, D, n :: (L1 ++ L2), fr, KL, ⟨(KP6.out.block b (by omega) hbO).trans h2.ob, LO6.out, own_of h2.ks (KP6.out.block g (by omega) hgO), h2.kl, h2.kw, map_of h2.mp (KP6.out.block m (by omega) hmO), h2.mf.perm hper, fun y hy => ?_, h2.db, h2.dg, h2.dm⟩, rfl, .inl rfl, .inl rfl, .inl rfl, HK.out.2.2, ?_⟩
  · rcases h2.pt y hy with h | h
    · exact .inl (List.perm_middle.mem_iff.1 h)
    · exact .inr h
  · exact kp_trans2' (Kp.refl _ w) KP6.out fun y hy h => .inr (.inl h)
/-- what Add leaves, the key not being there -/
def AddQ (w w' : World) (b c q r g m nm B : Nat) (most : Int) (keys : List Nat) (n k : Nat) (e : Ending) : Prop := if (n : Int) + 1 ≤ most then e = .returned (.tuple #[.int .u32 0, .bool false, .int .i64 0]) ∧ GhR w w' b c q r g m (nm + 1) B most (k :: keys) else ∃ x, (k :: keys).getLast? = some x ∧ e = .returned (.tuple #[.int .u32 (x : Int), .bool true, .int .i64 0]) ∧ GhR w w' b c q r g m (nm + 1) B most (k :: keys).dropLast
set_option maxRecDepth 100000 in
set_option maxHeartbeats 4000000 in
theorem gadd_new {w : World} {b c q r cq cr N : Nat} {F : Lnk.Fd} {g kc m nm : Nat} {D : DataW Unit} {most : Int} {L fr KL : List Nat} (H : Gh w b c q r cq cr N F g kc m nm D most L fr KL) (hN : N ≤ 1000000) {B : Nat} (hNB : N ≤ B) (hB : 2 * L.length ≤ B) (hnm : nm ≤ 1000000) (k : Nat) (hk : k < 4294967296) (hnk : k ∉ kys KL L) (hm : (L.length : Int) ≤ most) :
    Calls Try.prog 39 #[.pointer (some ⟨b, 0, none⟩), .int .u32 (k : Int)] w fun e w' => AddQ w w' b c q r g m nm B most (kys KL L) L.length k e := by
  have HZ0 := Lib.hid (gzero_any H)
  obtain ⟨v, hlk⟩ := look_no H.mp H.mf hk (kys_ent hnk)
  obtain ⟨c0, c1, c2, c3, cf⟩ := H.cells
  have HP := Lib.hid (gput_any H hN hNB hB hnm k hk hnk)
  obtain ⟨z, hz⟩ : ∃ z : Int, (k : Int) = z := ⟨_, rfl⟩
  rw [hz] at hlk HP ⊢
  have hln : (kys KL L).length = L.length := by unfold kys; rw [List.length_map]
  clear H hk hnk hz hN hNB hB hnm
  go_enter Try.func39, Try.ntmps39
  go_wp2_with fail
  refine HZ0.out.mono ?_
  rintro e w1 ⟨rfl, rfl⟩
  go_wp2_with fail
  refine HP.out.mono ?_
  rintro e w1 ⟨rfl, q', r', cq', cr', N', F', g', kc', D', L', fr', KL', h1, hkys, hq, hr, hg, hn1, kp⟩
  have H1 := Lib.hid h1
  have hL' : L'.length = L.length + 1 := by
    have := congrArg List.length hkys
    rw [List.length_cons, hln] at this
    unfold kys at this
    rw [List.length_map] at this
    exact this
  have HX := Lib.hid (show kys KL' L' = k :: kys KL L ∧ (q' = q ∨ w.heap.size ≤ q') ∧ (r' = r ∨ w.heap.size ≤ r') ∧ (g' = g ∨ w.heap.size ≤ g') ∧ N' ≤ B ∧ Kp (Obg b c q r g m) w w1 from ⟨hkys, hq, hr, hg, hn1, kp⟩)
  clear c0 c1 c2 c3 cf hlk HP
  obtain ⟨c0, c1, c2, c3, cf⟩ := h1.cells
  have BD := Lib.hid (show Below w1.heap.size w1 w1.drew from Below.drew (Below.refl _ _))
  have HLN := Lib.hid (glen_any (h1.below BD.out))
  rw [hL'] at HLN
  have HL' := Lib.hid hL'
  clear h1 hkys hq hr hg hn1 kp hL' hln
  by_cases hlt : (L.length : Int) + 1 ≤ most
  · have HLT := Lib.hid hlt
    have hlt' : ((L.length + 1 : Nat) : Int) ≤ most := by omega
    generalize L.length + 1 = M at HLN hlt'
    clear hlt hm HL'
    go_wp2_with fail
    apply region_one (R := fun u => u = w1.drew)
    case first =>
      go_region_with (go_at_call 42; refine HLN.out.mono ?_; rintro e u1 ⟨rfl, rfl⟩)
      all_goals (dsimp only [midQ]; exact ⟨rfl, rfl⟩)
    rintro u rfl
    go_wp2_with fail
    go_returns
    unfold AddQ
    rw [if_pos HLT.out]
    obtain ⟨h1, h2, h3, h4, h5, h6⟩ := HX.out
    exact ⟨rfl, q', r', cq', cr', N', F', g', kc', D', L', fr', KL', H1.out.below BD.out, h1, h2, h3, h4, h5, h6.tr BD.out⟩
  · have HLT := Lib.hid hlt
    have hlt' : ¬ ((L.length + 1 : Nat) : Int) ≤ most := by omega
    obtain ⟨L1, n, rfl⟩ : ∃ L1 n, L' = L1 ++ [n] := by
      rcases List.eq_nil_or_concat L' with h | ⟨L1, n, h⟩
      · have := HL'.out; rw [h] at this; simp at this
      · exact ⟨L1, n, by simpa using h⟩
    have HPO := Lib.hid (gpop_in (H1.out.below BD.out) HX.out.2.2.2.2.1)
    generalize L.length + 1 = M at HLN hlt'
    clear hlt hm HL'
    obtain ⟨y, hy⟩ : ∃ y : Int, (ky KL' n : Int) = y := ⟨_, rfl⟩
    have HY := Lib.hid hy
    rw [hy] at HPO
    clear hy
    go_wp2_with fail
    apply region_one (R := fun u => u = w1.drew)
    case first =>
      go_region_with (go_at_call 42; refine HLN.out.mono ?_; rintro e u1 ⟨rfl, rfl⟩)
      all_goals (dsimp only [midQ]; exact ⟨rfl, rfl⟩)
    rintro u rfl
    go_wp2_with fail
    refine HPO.out.mono ?_
    rintro e w2 ⟨rfl, h2⟩
    have H2 := Lib.hid h2
    clear h2
    go_wp2_with fail
    go_returns
    unfold AddQ
    rw [if_neg (by have := HLT.out; omega)]
    obtain ⟨h1, h2, h3, h4, h5, h6⟩ := HX.out
    have e1 : k :: kys KL L = kys KL' L1 ++ [ky KL' n] := by rw [← h1]; unfold kys; simp
    refine ⟨ky KL' n, by rw [e1]; simp, by rw [HY.out]; rfl, ?_⟩
    rw [e1, List.dropLast_concat]
    exact GhR.trans h2 h3 h4 (h6.tr BD.out) H2.out
end Go.Proofs.Ytggimkfepcgaoaa.Gho
end
section
namespace Go.Proofs.Ytggimkfepcgaoaa.Gho
open Go Go.RowKit Kit Go.Maps Lnk
/-- a list of the law, all its blocks new -/
def Gs (w0 v : World) (b K B : Nat) (most : Int) (keys : List Nat) : Prop := ∃ c q r cq cr N F g kc m nm D L fr KL, Gh v b c q r cq cr N F g kc m nm D most L fr KL ∧ kys KL L = keys ∧ N ≤ B ∧ nm ≤ K ∧ (w0.heap.size ≤ b ∧ w0.heap.size ≤ c ∧ w0.heap.size ≤ q ∧ w0.heap.size ≤ r ∧ w0.heap.size ≤ g ∧ w0.heap.size ≤ m) ∧ Below w0.heap.size w0 v
set_option maxRecDepth 100000 in
theorem isBound_any (w : World) (n : Int) :
    Calls Try.prog 108 #[.int .i64 n] w fun e w' => e = .returned (.bool (decide (0 ≤ n ∧ n ≤ 4096))) ∧ w = w' := by
  by_cases h1 : n < 0
  · rw [decide_eq_false (by omega)]
    have h2 : ¬ 0 ≤ n := by omega
    go_enter Try.func108, Try.ntmps108
    go_wp2_with fail
    go_ret
    exact ⟨rfl, rfl⟩
  · have h2 : 0 ≤ n := by omega
    by_cases h3 : n ≤ 4096
    · rw [decide_eq_true ⟨h2, h3⟩]
      go_enter Try.func108, Try.ntmps108
      go_wp2_with fail
      go_ret
      exact ⟨rfl, rfl⟩
    · rw [decide_eq_false (by omega)]
      go_enter Try.func108, Try.ntmps108
      go_wp2_with fail
      go_ret
      exact ⟨rfl, rfl⟩
set_option maxRecDepth 100000 in
set_option maxHeartbeats 4000000 in
theorem gnew_ok (w : World) (M : Nat) (hM : M ≤ 4096) :
    Calls Try.prog 36 #[.int .i64 (M : Int)] w fun e w' => ∃ b, e = .returned (.tuple #[.pointer (some ⟨b, 0, none⟩), .int .i64 0]) ∧ Gs w w' b 0 1 (M : Int) [] := by
  have HIB := Lib.hid (isBound_any w (M : Int))
  rw [decide_eq_true (show (0 : Int) ≤ (M : Int) ∧ (M : Int) ≤ 4096 by omega)] at HIB
  have HNW := Lib.hid (show Calls Try.prog 16 #[.int .i64 1, .int .i64 2] w fun e w' => (∃ c q r F, e = .returned (.tuple #[.pointer (some ⟨c, 0, none⟩), .int .i64 0]) ∧ Lo w' c q r 3 2 1 F [[], []] ∧ w.heap.size ≤ c ∧ w.heap.size ≤ q ∧ w.heap.size ≤ r) ∧ Below w.heap.size w w' from New_ok 1 2 w (by omega) (by omega) (by omega) (by omega))
  clear hM
  obtain ⟨z, hz⟩ : ∃ z : Int, (M : Int) = z := ⟨_, rfl⟩
  rw [hz] at HIB ⊢
  have hmm := @run_makeMap Try.prog
  have hmk : ∀ v : World, (Instr.makeSlice 39 (.int .i64 1) (.int .i64 1)).run Try.prog v = .ok (.slice (some ⟨v.heap.size, 0, none⟩) 1 1) (v.alloc (.cells (madeCells #[.int .u32 0] 1) 38)) := fun v => App.mk_row (t := 39) (e := 38) (z := .int .u32 0) (bytes := 4) (by kernel_rfl) (by kernel_rfl) rfl (by omega) 1 (by omega) v
  go_enter Try.func36, Try.ntmps36
  go_wp2_with fail
  refine HIB.out.mono ?_
  rintro e w1 ⟨rfl, rfl⟩
  go_wp2_with fail
  refine HNW.out.mono ?_
  rintro e w1 ⟨⟨c, q, r, F, rfl, lo, hc, hq, hr⟩, bl⟩
  have LO := Lib.hid lo
  have HB := Lib.hid (show (w.heap.size ≤ c ∧ w.heap.size ≤ q ∧ w.heap.size ≤ r) ∧ Below w.heap.size w w1 from ⟨⟨hc, hq, hr⟩, bl⟩)
  clear lo hc hq hr bl
  go_wp2_with fail
  obtain ⟨V, hV⟩ : ∃ V, ((w1.alloc (.cells (madeCells #[.int .u32 0] 1) 38)).alloc (.map #[] 0)).alloc (.cells #[.int .i64 z, .pointer (some ⟨c, 0, none⟩), .slice (some ⟨w1.heap.size, 0, none⟩) 1 1, .map (some (w1.heap.size + 1))] 155) = V := ⟨_, rfl⟩
  rw [hV]
  have e1 := (MapKept.heap_alloc w1 (.cells (madeCells #[.int .u32 0] 1) 38)).1
  have m2 := (w1.alloc (.cells (madeCells #[.int .u32 0] 1) 38)).ownsMap_made Try.prog 38 (plainElem (H := Unit) Try.prog 38)
  have e3 := (MapKept.heap_alloc ((w1.alloc (.cells (madeCells #[.int .u32 0] 1) 38)).alloc (.map #[] 0)) (.cells #[.int .i64 z, .pointer (some ⟨c, 0, none⟩), .slice (some ⟨w1.heap.size, 0, none⟩) 1 1, .map (some (w1.heap.size + 1))] 155)).1
  have m3 := m2.alloc (.cells #[.int .i64 z, .pointer (some ⟨c, 0, none⟩), .slice (some ⟨w1.heap.size, 0, none⟩) 1 1, .map (some (w1.heap.size + 1))] 155)
  have k1 : V.heap[w1.heap.size]? = some (.cells (madeCells #[.int .u32 0] 1) 38 (0, 0)) := by
    rw [← hV]
    refine ((MapKept.heap_alloc ((w1.alloc (.cells (madeCells #[.int .u32 0] 1) 38)).alloc (.map #[] 0)) _).2 _ (by simp only [World.size_alloc]; omega)).trans (((MapKept.heap_alloc (w1.alloc (.cells (madeCells #[.int .u32 0] 1) 38)) _).2 _ (by simp only [World.size_alloc]; omega)).trans e1)
  simp only [World.size_alloc] at e3 m3
  rw [hV] at e3 m3
  have BV := Lib.hid (show Below w1.heap.size w1 V from by rw [← hV]; go_grown)
  have hsz : V.heap.size = w1.heap.size + 3 := by rw [← hV]; simp
  have HBK := Lib.hid (Back_ok (LO.out.below BV.out) (h := 1) (n := 0) rfl (by omega) (fun h l hl => by
    match h, hl with
    | 0, hl => simp at hl; subst hl; simp
    | 1, hl => simp at hl; subst hl; simp
    | h + 2, hl => simp at hl))
  have HV := Lib.hid (show V.heap[w1.heap.size]? = some (.cells (madeCells #[.int .u32 0] 1) 38 (0, 0)) ∧ V.ownsMap Try.prog 38 (plainElem Try.prog 38) (w1.heap.size + 1) 0 (DataW.map []) ∧ V.heap[w1.heap.size + 1 + 1]? = some (.cells #[.int .i64 z, .pointer (some ⟨c, 0, none⟩), .slice (some ⟨w1.heap.size, 0, none⟩) 1 1, .map (some (w1.heap.size + 1))] 155 (0, 0)) ∧ V.heap.size = w1.heap.size + 3 from ⟨k1, m3, e3, hsz⟩)
  clear hV e1 m2 e3 m3 k1 hsz hmm hmk
  refine HBK.out.mono ?_
  rintro e w2 ⟨rfl, lo2, kp2⟩
  have LO2 := Lib.hid lo2
  have KP2 := Lib.hid kp2
  clear lo2 kp2
  go_wp2_with fail
  go_returns
  have hv := HV.out
  have hb := HB.out
  have hl := LO.out.lt
  have hbs := hb.2.size
  have hO : ∀ k, w1.heap.size ≤ k → ¬ Ob c q r k := fun k hk h => by rcases h with h | h | h <;> omega
  refine ⟨w1.heap.size + 1 + 1, rfl, c, q, r, 3, 2, 1, _, w1.heap.size, 1, w1.heap.size + 1, 0, .map [], [], [0], [0], ⟨(KP2.out.block _ (by omega) (hO _ (by omega))).trans (hz ▸ hv.2.2.1), LO2.out, ⟨rfl, .inr ⟨_, _, _, rfl, Nat.zero_le _, (KP2.out.block _ (by omega) (hO _ (by omega))).trans hv.1, by omega, by decide, by kernel_rfl, by kernel_rfl⟩⟩, rfl, by simp, map_of hv.2.1 (KP2.out.block _ (by omega) (hO _ (by omega))), Mf.nil, fun n hn => .inr (by simp; omega), by omega, by omega, by omega⟩, rfl, by omega, by omega, by omega, ?_⟩
  have k2 := ((Kp.of (bad := Ob c q r) hb.2).tr BV.out).trans KP2.out
  exact k2.below (fun k hk h => by rcases h with h | h | h <;> omega) (Nat.le_refl _)
theorem Gs.of {w0 v v' : World} {b c q r g m nm K B : Nat} {most : Int} {keys : List Nat} (hl : w0.heap.size ≤ b ∧ w0.heap.size ≤ c ∧ w0.heap.size ≤ q ∧ w0.heap.size ≤ r ∧ w0.heap.size ≤ g ∧ w0.heap.size ≤ m) (bl : Below w0.heap.size w0 v) (hK : nm ≤ K) (h : GhR v v' b c q r g m nm B most keys) : Gs w0 v' b K B most keys := by
  obtain ⟨q2, r2, cq, cr, N, F, g2, kc, D, L, fr, KL, h1, h2, h3, h4, h5, h6, h7⟩ := h
  have hs := bl.size
  refine ⟨c, q2, r2, cq, cr, N, F, g2, kc, m, nm, D, L, fr, KL, h1, h2, h6, hK, by omega, ?_⟩
  refine ((Kp.of (bad := Obg b c q r g m) bl).trans h7).below (fun k hk h => ?_) (Nat.le_refl _)
  rcases h with h | (h | h | h) | h | h <;> omega
/-- what Add leaves of the state, the key not being there -/
def AddS (w0 w' : World) (b K B : Nat) (most : Int) (keys : List Nat) (k : Nat) (e : Ending) : Prop := if (keys.length : Int) + 1 ≤ most then e = .returned (.tuple #[.int .u32 0, .bool false, .int .i64 0]) ∧ Gs w0 w' b (K + 1) B most (k :: keys) else ∃ x, (k :: keys).getLast? = some x ∧ e = .returned (.tuple #[.int .u32 (x : Int), .bool true, .int .i64 0]) ∧ Gs w0 w' b (K + 1) B most (k :: keys).dropLast
theorem kys_len {KL L : List Nat} : (kys KL L).length = L.length := by unfold kys; rw [List.length_map]
theorem Gs.add_new {w0 v : World} {b K B : Nat} {most : Int} {keys : List Nat} (h : Gs w0 v b K B most keys) (hB1 : B ≤ 1000000) (hB : 2 * keys.length ≤ B) (hK : K ≤ 1000000) (k : Nat) (hk : k < 4294967296) (hnk : k ∉ keys) (hm : (keys.length : Int) ≤ most) :
    Calls Try.prog 39 #[.pointer (some ⟨b, 0, none⟩), .int .u32 (k : Int)] v fun e w' => AddS w0 w' b K B most keys k e := by
  obtain ⟨c, q, r, cq, cr, N, F, g, kc, m, nm, D, L, fr, KL, h1, rfl, h3, h4, h5, h6⟩ := h
  rw [kys_len] at hB hm
  refine (gadd_new h1 (by omega) h3 hB (by omega) k hk hnk hm).mono ?_
  intro e w' h
  unfold AddQ at h
  unfold AddS
  rw [kys_len]
  split at h
  · next hc =>
    rw [if_pos hc]
    exact ⟨h.1, Gs.of h5 h6 (by omega) h.2⟩
  · next hc =>
    rw [if_neg hc]
    obtain ⟨x, hx, he, hr⟩ := h
    exact ⟨x, hx, he, Gs.of h5 h6 (by omega) hr⟩
theorem Gs.mono {w0 v : World} {b K B K' B' : Nat} {most : Int} {keys : List Nat} (h : Gs w0 v b K B most keys) (hK : K ≤ K') (hB : B ≤ B') : Gs w0 v b K' B' most keys := by
  obtain ⟨c, q, r, cq, cr, N, F, g, kc, m, nm, D, L, fr, KL, h1, h2, h3, h4, h5, h6⟩ := h
  exact ⟨c, q, r, cq, cr, N, F, g, kc, m, nm, D, L, fr, KL, h1, h2, by omega, by omega, h5, h6⟩
theorem Gs.bl {w0 v : World} {b K B : Nat} {most : Int} {keys : List Nat} (h : Gs w0 v b K B most keys) : Below w0.heap.size w0 v := by
  obtain ⟨c, q, r, cq, cr, N, F, g, kc, m, nm, D, L, fr, KL, h1, h2, h3, h4, h5, h6⟩ := h
  exact h6
theorem Gs.below {w0 v v' : World} {b K B : Nat} {most : Int} {keys : List Nat} (h : Gs w0 v b K B most keys) (hb : Below v.heap.size v v') : Gs w0 v' b K B most keys := by
  obtain ⟨c, q, r, cq, cr, N, F, g, kc, m, nm, D, L, fr, KL, h1, h2, h3, h4, h5, h6⟩ := h
  have hs := h6.size
  exact ⟨c, q, r, cq, cr, N, F, g, kc, m, nm, D, L, fr, KL, h1.below hb, h2, h3, h4, h5, ((Kp.of (bad := fun _ => False) h6).tr hb).below (fun k hk h => h) (Nat.le_refl _)⟩
theorem Gs.len {w0 v : World} {b K B : Nat} {most : Int} {keys : List Nat} (h : Gs w0 v b K B most keys) : Calls Try.prog 42 #[.pointer (some ⟨b, 0, none⟩)] v fun e w' => e = .returned (.int .i64 (keys.length : Int)) ∧ v = w' := by
  obtain ⟨c, q, r, cq, cr, N, F, g, kc, m, nm, D, L, fr, KL, h1, rfl, h3, h4, h5, h6⟩ := h
  rw [kys_len]
  exact glen_any h1
theorem Gs.has {w0 v : World} {b K B : Nat} {most : Int} {keys : List Nat} (h : Gs w0 v b K B most keys) (k : Nat) (hk : k < 4294967296) : Calls Try.prog 47 #[.pointer (some ⟨b, 0, none⟩), .int .u32 (k : Int)] v fun e w' => e = .returned (.bool (decide (k ∈ keys))) ∧ v = w' := by
  obtain ⟨c, q, r, cq, cr, N, F, g, kc, m, nm, D, L, fr, KL, h1, rfl, h3, h4, h5, h6⟩ := h
  exact ghas_any h1 k hk
end Go.Proofs.Ytggimkfepcgaoaa.Gho
end
