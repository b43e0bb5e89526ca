/-
  Ghost lists (layer 28): Pop, Add.
-/
import Derived.Test.YtggimkfepcgaoaaGhoF
set_option linter.unusedVariables false
set_option linter.unusedSimpArgs false
namespace Go.Proofs.Ytggimkfepcgaoaa.Gho
open Go Go.RowKit Kit Go.Maps Lnk
theorem lst_app (a : Nat) (l : List Nat) (n : Nat) : lst a (l ++ [n]) = n := by
  rw [lst_append]; rfl
set_option maxRecDepth 100000 in
set_option maxHeartbeats 4000000 in
theorem gpop_in {w : World} {b c q r cq cr N : Nat} {F : Lnk.Fd} {g kc m nm : Nat} {D : DataW Unit} {most : Int} {L1 fr KL : List Nat} {n : Nat} (H : Gh w b c q r cq cr N F g kc m nm D most (L1 ++ [n]) fr KL) {B : Nat} (hB : N ≤ B) :
    Calls Try.prog 45 #[.pointer (some ⟨b, 0, none⟩)] w fun e w' => e = .returned (.tuple #[.int .u32 (ky KL n : Int), .int .i64 0]) ∧ GhR w w' b c q r g m nm B most (kys KL L1) := by
  have HZ0 := Lib.hid (gzero_any H)
  have hnN : n < N := H.nodeLt (by simp)
  have hLA := Last_ok H.lo (k := 0) (l := L1 ++ [n]) rfl
  rw [lst_app, if_pos hnN] at hLA
  have HLA := Lib.hid (show Calls Try.prog 75 #[.pointer (some ⟨c, 0, none⟩), .int .i64 0] w fun e w' => e = .returned (.tuple #[.int .u32 (n : Int), .int .i64 0]) ∧ Below w.heap.size w w' from hLA)
  obtain ⟨c0, c1, c2, c3, cf⟩ := H.cells
  have HH := Lib.hid H
  have HB := Lib.hid (show N ≤ B ∧ n < N from ⟨hB, hnN⟩)
  clear H hnN hLA hB
  go_enter Try.func45, Try.ntmps45
  go_wp2_with fail
  refine HZ0.out.mono ?_
  rintro e w1 ⟨rfl, rfl⟩
  go_wp2_with fail
  refine HLA.out.mono ?_
  rintro e w1 ⟨rfl, b1⟩
  have H1 := Lib.hid (HH.out.below b1)
  have B1 := Lib.hid b1
  clear c0 c1 c2 c3 cf b1
  obtain ⟨c0, c1, c2, c3, cf⟩ := H1.out.cells
  have x0 : (0 : Int) ≤ (n : Int) := by omega
  have x1 : (n : Int) < (N : Int) := by have := HB.out; omega
  have fc : w1.cell? ⟨g, n, none⟩ = some (.int .u32 (ky KL n : Int)) := by
    have h := H1.out.ks.cellAt n (by have := HB.out; omega)
    have hl : n < KL.length := by rw [H1.out.kl]; exact HB.out.2
    refine h.trans ?_
    unfold ints ky
    simp [hl]
  have HR := Lib.hid (gremove_in H1.out (ky KL n) (H1.out.kyLt n) rfl HB.out.1)
  obtain ⟨z, hz⟩ : ∃ z : Int, (ky KL n : Int) = z := ⟨_, rfl⟩
  have HZ := Lib.hid hz
  rw [hz] at fc HR
  clear hz
  go_wp2_with fail
  refine HR.out.mono ?_
  rintro e w2 ⟨rfl, h2⟩
  rw [List.append_nil] at h2
  have H2 := Lib.hid (GhR.trans (.inl rfl) (.inl rfl) (.inl rfl) (Kp.of B1.out) h2)
  clear h2
  go_wp2_with fail
  go_returns
  exact ⟨by rw [HZ.out]; rfl, H2.out⟩
set_option maxRecDepth 100000 in
set_option maxHeartbeats 4000000 in
theorem gremove_no {w : World} {b c q r cq cr N : Nat} {F : Lnk.Fd} {g kc m nm : Nat} {D : DataW Unit} {most : Int} {L fr KL : List Nat} (H : Gh w b c q r cq cr N F g kc m nm D most L fr KL) (k : Nat) (hk : k < 4294967296) (hn : k ∉ kys KL L) :
    Calls Try.prog 44 #[.pointer (some ⟨b, 0, none⟩), .int .u32 (k : Int)] w fun e w' => e = .returned (.tuple #[.bool false, .int .i64 0]) ∧ w = w' := by
  have HZ0 := Lib.hid (gzero_any H)
  obtain ⟨v, hlk⟩ := look_no H.mp H.mf hk (kys_ent hn)
  obtain ⟨c0, c1, c2, c3, cf⟩ := H.cells
  obtain ⟨z, hz⟩ : ∃ z : Int, (k : Int) = z := ⟨_, rfl⟩
  rw [hz] at hlk ⊢
  clear H hk hn hz
  go_enter Try.func44, Try.ntmps44
  go_wp2_with fail
  refine HZ0.out.mono ?_
  rintro e w1 ⟨rfl, rfl⟩
  go_wp2_with fail
  go_ret2
  exact ⟨rfl, rfl⟩
set_option maxRecDepth 100000 in
set_option maxHeartbeats 4000000 in
theorem gadd_in {w : World} {b c q r cq cr N : Nat} {F : Lnk.Fd} {g kc m nm : Nat} {D : DataW Unit} {most : Int} {L1 L2 fr KL : List Nat} {n : Nat} (H : Gh w b c q r cq cr N F g kc m nm D most (L1 ++ n :: L2) fr KL) (k : Nat) (hk : k < 4294967296) (hn : ky KL n = k) {B : Nat} (hB : N ≤ B) :
    Calls Try.prog 39 #[.pointer (some ⟨b, 0, none⟩), .int .u32 (k : Int)] w fun e w' => e = .returned (.tuple #[.int .u32 0, .bool false, .int .i64 0]) ∧ GhR w w' b c q r g m nm B most (kys KL (n :: (L1 ++ L2))) := by
  have HZ0 := Lib.hid (gzero_any H)
  have hlk := look_in H.mp H.mf hk (ent_mem.2 ⟨by simp, hn⟩)
  obtain ⟨c0, c1, c2, c3, cf⟩ := H.cells
  have HH := Lib.hid H
  have HK := Lib.hid (show k < 4294967296 ∧ ky KL n = k ∧ N ≤ B from ⟨hk, hn, hB⟩)
  obtain ⟨z, hz⟩ : ∃ z : Int, (k : Int) = z := ⟨_, rfl⟩
  rw [hz] at hlk ⊢
  have HMV := Lib.hid (gmove_raw H.lo H.ob ⟨H.db.1, H.db.2.1, H.db.2.2.1⟩ (h := 0) (j := 0) (x := n) (l1 := L1) (l2 := L2) (l := L1 ++ L2) rfl rfl)
  clear H hk hn hz hB
  go_enter Try.func39, Try.ntmps39
  go_wp2_with fail
  refine HZ0.out.mono ?_
  rintro e w1 ⟨rfl, rfl⟩
  go_wp2_with fail
  refine HMV.out.mono ?_
  rintro e w6 ⟨rfl, ⟨F6, lo6⟩, kp6⟩
  have LO6 := Lib.hid lo6
  have KP6 := Lib.hid kp6
  clear lo6 kp6
  go_wp2_with fail
  go_returns
  refine ⟨rfl, ?_⟩
  have h2 := HH.out
  have hbO : ¬ Ob c q r b := fun h => by rcases h with h | h | h; exact h2.db.1 h; exact h2.db.2.1 h; exact h2.db.2.2.1 h
  have hgO : ¬ Ob c q r g := fun h => by rcases h with h | h | h; exact h2.dg.1 h; exact h2.dg.2.1 h; exact h2.dg.2.2.1 h
  have hmO : ¬ Ob c q r m := fun h => by rcases h with h | h | h; exact h2.dm.1 h; exact h2.dm.2.1 h; exact h2.dm.2.2 h
  have hl := h2.lt
  have hper : (ent KL (L1 ++ n :: L2)).Perm (ent KL (n :: (L1 ++ L2))) := List.Perm.map _ List.perm_middle
  refine ⟨q, r, cq, cr, N, F6, g, kc, D, n :: (L1 ++ L2), fr, KL, ⟨(KP6.out.block b (by omega) hbO).trans h2.ob, LO6.out, own_of h2.ks (KP6.out.block g (by omega) hgO), h2.kl, h2.kw, map_of h2.mp (KP6.out.block m (by omega) hmO), h2.mf.perm hper, fun y hy => ?_, h2.db, h2.dg, h2.dm⟩, rfl, .inl rfl, .inl rfl, .inl rfl, HK.out.2.2, ?_⟩
  · rcases h2.pt y hy with h | h
    · exact .inl (List.perm_middle.mem_iff.1 h)
    · exact .inr h
  · exact kp_trans2' (Kp.refl _ w) KP6.out fun y hy h => .inr (.inl h)
/-- what Add leaves, the key not being there -/
def AddQ (w w' : World) (b c q r g m nm B : Nat) (most : Int) (keys : List Nat) (n k : Nat) (e : Ending) : Prop := if (n : Int) + 1 ≤ most then e = .returned (.tuple #[.int .u32 0, .bool false, .int .i64 0]) ∧ GhR w w' b c q r g m (nm + 1) B most (k :: keys) else ∃ x, (k :: keys).getLast? = some x ∧ e = .returned (.tuple #[.int .u32 (x : Int), .bool true, .int .i64 0]) ∧ GhR w w' b c q r g m (nm + 1) B most (k :: keys).dropLast
set_option maxRecDepth 100000 in
set_option maxHeartbeats 4000000 in
theorem gadd_new {w : World} {b c q r cq cr N : Nat} {F : Lnk.Fd} {g kc m nm : Nat} {D : DataW Unit} {most : Int} {L fr KL : List Nat} (H : Gh w b c q r cq cr N F g kc m nm D most L fr KL) (hN : N ≤ 1000000) {B : Nat} (hNB : N ≤ B) (hB : 2 * L.length ≤ B) (hnm : nm ≤ 1000000) (k : Nat) (hk : k < 4294967296) (hnk : k ∉ kys KL L) (hm : (L.length : Int) ≤ most) :
    Calls Try.prog 39 #[.pointer (some ⟨b, 0, none⟩), .int .u32 (k : Int)] w fun e w' => AddQ w w' b c q r g m nm B most (kys KL L) L.length k e := by
  have HZ0 := Lib.hid (gzero_any H)
  obtain ⟨v, hlk⟩ := look_no H.mp H.mf hk (kys_ent hnk)
  obtain ⟨c0, c1, c2, c3, cf⟩ := H.cells
  have HP := Lib.hid (gput_any H hN hNB hB hnm k hk hnk)
  obtain ⟨z, hz⟩ : ∃ z : Int, (k : Int) = z := ⟨_, rfl⟩
  rw [hz] at hlk HP ⊢
  have hln : (kys KL L).length = L.length := by unfold kys; rw [List.length_map]
  clear H hk hnk hz hN hNB hB hnm
  go_enter Try.func39, Try.ntmps39
  go_wp2_with fail
  refine HZ0.out.mono ?_
  rintro e w1 ⟨rfl, rfl⟩
  go_wp2_with fail
  refine HP.out.mono ?_
  rintro e w1 ⟨rfl, q', r', cq', cr', N', F', g', kc', D', L', fr', KL', h1, hkys, hq, hr, hg, hn1, kp⟩
  have H1 := Lib.hid h1
  have hL' : L'.length = L.length + 1 := by
    have := congrArg List.length hkys
    rw [List.length_cons, hln] at this
    unfold kys at this
    rw [List.length_map] at this
    exact this
  have HX := Lib.hid (show kys KL' L' = k :: kys KL L ∧ (q' = q ∨ w.heap.size ≤ q') ∧ (r' = r ∨ w.heap.size ≤ r') ∧ (g' = g ∨ w.heap.size ≤ g') ∧ N' ≤ B ∧ Kp (Obg b c q r g m) w w1 from ⟨hkys, hq, hr, hg, hn1, kp⟩)
  clear c0 c1 c2 c3 cf hlk HP
  obtain ⟨c0, c1, c2, c3, cf⟩ := h1.cells
  have BD := Lib.hid (show Below w1.heap.size w1 w1.drew from Below.drew (Below.refl _ _))
  have HLN := Lib.hid (glen_any (h1.below BD.out))
  rw [hL'] at HLN
  have HL' := Lib.hid hL'
  clear h1 hkys hq hr hg hn1 kp hL' hln
  by_cases hlt : (L.length : Int) + 1 ≤ most
  · have HLT := Lib.hid hlt
    have hlt' : ((L.length + 1 : Nat) : Int) ≤ most := by omega
    generalize L.length + 1 = M at HLN hlt'
    clear hlt hm HL'
    go_wp2_with fail
    apply region_one (R := fun u => u = w1.drew)
    case first =>
      go_region_with (go_at_call 42; refine HLN.out.mono ?_; rintro e u1 ⟨rfl, rfl⟩)
      all_goals (dsimp only [midQ]; exact ⟨rfl, rfl⟩)
    rintro u rfl
    go_wp2_with fail
    go_returns
    unfold AddQ
    rw [if_pos HLT.out]
    obtain ⟨h1, h2, h3, h4, h5, h6⟩ := HX.out
    exact ⟨rfl, q', r', cq', cr', N', F', g', kc', D', L', fr', KL', H1.out.below BD.out, h1, h2, h3, h4, h5, h6.tr BD.out⟩
  · have HLT := Lib.hid hlt
    have hlt' : ¬ ((L.length + 1 : Nat) : Int) ≤ most := by omega
    obtain ⟨L1, n, rfl⟩ : ∃ L1 n, L' = L1 ++ [n] := by
      rcases List.eq_nil_or_concat L' with h | ⟨L1, n, h⟩
      · have := HL'.out; rw [h] at this; simp at this
      · exact ⟨L1, n, by simpa using h⟩
    have HPO := Lib.hid (gpop_in (H1.out.below BD.out) HX.out.2.2.2.2.1)
    generalize L.length + 1 = M at HLN hlt'
    clear hlt hm HL'
    obtain ⟨y, hy⟩ : ∃ y : Int, (ky KL' n : Int) = y := ⟨_, rfl⟩
    have HY := Lib.hid hy
    rw [hy] at HPO
    clear hy
    go_wp2_with fail
    apply region_one (R := fun u => u = w1.drew)
    case first =>
      go_region_with (go_at_call 42; refine HLN.out.mono ?_; rintro e u1 ⟨rfl, rfl⟩)
      all_goals (dsimp only [midQ]; exact ⟨rfl, rfl⟩)
    rintro u rfl
    go_wp2_with fail
    refine HPO.out.mono ?_
    rintro e w2 ⟨rfl, h2⟩
    have H2 := Lib.hid h2
    clear h2
    go_wp2_with fail
    go_returns
    unfold AddQ
    rw [if_neg (by have := HLT.out; omega)]
    obtain ⟨h1, h2, h3, h4, h5, h6⟩ := HX.out
    have e1 : k :: kys KL L = kys KL' L1 ++ [ky KL' n] := by rw [← h1]; unfold kys; simp
    refine ⟨ky KL' n, by rw [e1]; simp, by rw [HY.out]; rfl, ?_⟩
    rw [e1, List.dropLast_concat]
    exact GhR.trans h2 h3 h4 (h6.tr BD.out) H2.out
end Go.Proofs.Ytggimkfepcgaoaa.Gho
