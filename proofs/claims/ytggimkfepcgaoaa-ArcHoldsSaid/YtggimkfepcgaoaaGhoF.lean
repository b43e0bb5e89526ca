/-
  Ghost lists (layer 28): Remove, Pop.
-/
import Derived.Test.YtggimkfepcgaoaaGhoE
set_option linter.unusedVariables false
set_option linter.unusedSimpArgs false
namespace Go.Proofs.Ytggimkfepcgaoaa.Gho
open Go Go.RowKit Kit Go.Maps Lnk
theorem GhR.trans {w v u : World} {b c q r g m q' r' g' nm B : Nat} {most : Int} {keys : List Nat} (hq : q' = q ∨ w.heap.size ≤ q') (hr : r' = r ∨ w.heap.size ≤ r') (hg : g' = g ∨ w.heap.size ≤ g') (hk : Kp (Obg b c q r g m) w v) (h : GhR v u b c q' r' g' m nm B most keys) : GhR w u b c q r g m nm B most keys := by
  obtain ⟨q2, r2, cq, cr, N, F, g2, kc, D, L, fr, KL, h1, h2, h3, h4, h5, h7, h6⟩ := h
  have hs := hk.size
  refine ⟨q2, r2, cq, cr, N, F, g2, kc, D, L, fr, KL, h1, h2, by omega, by omega, by omega, h7, kp_trans2' hk h6 fun y hy h => ?_⟩
  rcases h with rfl | (rfl | rfl | rfl) | rfl | rfl
  · exact .inl rfl
  · exact .inr (.inl (.inl rfl))
  · rcases hq with h | h
    · subst h; exact .inr (.inl (.inr (.inl rfl)))
    · omega
  · rcases hr with h | h
    · subst h; exact .inr (.inl (.inr (.inr rfl)))
    · omega
  · rcases hg with h | h
    · subst h; exact .inr (.inr (.inl rfl))
    · omega
  · exact .inr (.inr (.inr rfl))
set_option maxRecDepth 100000 in
set_option maxHeartbeats 4000000 in
theorem gremove_in {w : World} {b c q r cq cr N : Nat} {F : Lnk.Fd} {g kc m nm : Nat} {D : DataW Unit} {most : Int} {L1 L2 fr KL : List Nat} {n : Nat} (H : Gh w b c q r cq cr N F g kc m nm D most (L1 ++ n :: L2) fr KL) (k : Nat) (hk : k < 4294967296) (hn : ky KL n = k) {B : Nat} (hB : N ≤ B) :
    Calls Try.prog 44 #[.pointer (some ⟨b, 0, none⟩), .int .u32 (k : Int)] w fun e w' => e = .returned (.tuple #[.bool true, .int .i64 0]) ∧ GhR w w' b c q r g m nm B most (kys KL (L1 ++ L2)) := by
  have HZ0 := Lib.hid (gzero_any H)
  have hnN : n < N := H.nodeLt (by simp)
  have hlk := look_in H.mp H.mf hk (ent_mem.2 ⟨by simp, hn⟩)
  obtain ⟨c0, c1, c2, c3, cf⟩ := H.cells
  have K := Maps.int_keyed (P := Try.prog) und_u32
  have hkey := Maps.keyOf_int_mk (P := Try.prog) und_u32 (wf32 hk)
  have HH := Lib.hid H
  have HK := Lib.hid (show k < 4294967296 ∧ ky KL n = k from ⟨hk, hn⟩)
  obtain ⟨z, hz⟩ : ∃ z : Int, (k : Int) = z := ⟨_, rfl⟩
  have HZ := Lib.hid hz
  rw [hz] at hlk hkey ⊢
  have HKE := Lib.hid hkey
  clear H hk hn hz hnN hkey
  go_enter Try.func44, Try.ntmps44
  go_wp2_with fail
  refine HZ0.out.mono ?_
  rintro e w1 ⟨rfl, rfl⟩
  go_wp2_with (at_delete; refine wpList_delete_own _ rfl _ _ 153 38 rfl 38 K und_map (plainElem Try.prog 38) m nm D rfl HH.out.mp _ (.int .u32 z) rfl HKE.out ?_; intro w5 ho5 ht5; have HO5 := Lib.hid ho5; have HT5 := Lib.hid ht5; clear ho5 ht5)
  have hc := HO5.out
  have hH := HH.out
  have hl := hH.lt
  obtain ⟨e1, e2, e3, e4, e5⟩ := HT5.out.grown
  have bl5 : ∀ k, k < w.heap.size → k ≠ m → w5.heap[k]? = w.heap[k]? := fun k hk h4 => e5 k hk (by simpa using h4)
  have kp5 : Kp (fun k => k = m) w w5 := ⟨by first | exact e1 | exact e1.symm, by first | exact e2 | exact e2.symm, by first | exact e3 | exact e3.symm, by omega, fun k hk hn => bl5 k hk hn⟩
  have LO5 : Lo w5 c q r cq cr N F [L1 ++ n :: L2, fr] := hH.lo.of fun k hk => by
    rcases hk with rfl | rfl | rfl
    · exact bl5 _ hl.2.1 (fun e => hH.dm.1 e.symm)
    · exact bl5 _ hl.2.2.1 (fun e => hH.dm.2.1 e.symm)
    · exact bl5 _ hl.2.2.2.1 (fun e => hH.dm.2.2 e.symm)
  have OB5 := (bl5 b hl.1 hH.db.2.2.2.2).trans hH.ob
  have OW5 := own_of hH.ks (bl5 g hl.2.2.2.2.1 hH.dg.2.2.2)
  have HMV := Lib.hid (gmove_raw LO5 OB5 ⟨hH.db.1, hH.db.2.1, hH.db.2.2.1⟩ (h := 0) (j := 1) (x := n) (l1 := L1) (l2 := L2) (l := fr) rfl rfl)
  have HD := Lib.hid (show w5.heap[b]? = some (.cells #[.int .i64 most, .pointer (some ⟨c, 0, none⟩), .slice (some ⟨g, 0, none⟩) N kc, .map (some m)] 155 (0, 0)) ∧ w5.ownsRow 0 38 1 (.slice (some ⟨g, 0, none⟩) N kc) N ((ints KL).map (Value.int .u32)) ∧ Kp (fun k => k = m) w w5 from ⟨OB5, OW5, kp5⟩)
  clear hc hH hl e1 e2 e3 e4 e5 bl5 kp5 LO5 OB5 OW5 c0 c1 c2 c3 cf K
  refine HMV.out.mono ?_
  rintro e w6 ⟨rfl, ⟨F6, lo6⟩, kp6⟩
  have LO6 := Lib.hid lo6
  have KP6 := Lib.hid kp6
  clear lo6 kp6
  go_wp2_with fail
  go_ret2
  refine ⟨rfl, ?_⟩
  have h2 := HH.out
  have hD := HD.out
  have hbO : ¬ Ob c q r b := fun h => by rcases h with h | h | h; exact h2.db.1 h; exact h2.db.2.1 h; exact h2.db.2.2.1 h
  have hgO : ¬ Ob c q r g := fun h => by rcases h with h | h | h; exact h2.dg.1 h; exact h2.dg.2.1 h; exact h2.dg.2.2.1 h
  have hmO : ¬ Ob c q r m := fun h => by rcases h with h | h | h; exact h2.dm.1 h; exact h2.dm.2.1 h; exact h2.dm.2.2 h
  have hl := h2.lt
  have hus := hD.2.2.size
  have hper : (ent KL (L1 ++ n :: L2)).Perm ((k, n) :: ent KL (L1 ++ L2)) := by
    have e1 : ent KL (L1 ++ n :: L2) = ent KL L1 ++ (k, n) :: ent KL L2 := by
      unfold ent
      rw [List.map_append, List.map_cons, HK.out.2]
    have e2 : ent KL (L1 ++ L2) = ent KL L1 ++ ent KL L2 := by unfold ent; rw [List.map_append]
    rw [e1, e2]
    exact List.perm_middle
  have hmf := h2.mf.del (h2.mp.tidy (Maps.int_keyed (P := Try.prog) und_u32)) hper
  have hmp := HO5.out
  rw [← HZ.out] at hmp
  refine ⟨q, r, cq, cr, N, F6, g, kc, D.del (.int .u32 (k : Int)), L1 ++ L2, n :: fr, KL, ⟨(KP6.out.block b (by omega) hbO).trans hD.1, LO6.out, own_of hD.2.1 (KP6.out.block g (by omega) hgO), h2.kl, h2.kw, map_of hmp (KP6.out.block m (by omega) hmO), hmf, fun y hy => ?_, h2.db, h2.dg, h2.dm⟩, rfl, .inl rfl, .inl rfl, .inl rfl, hB, ?_⟩
  · rcases h2.pt y hy with h | h
    · rcases List.mem_append.1 h with h | h
      · exact .inl (List.mem_append_left _ h)
      · rcases List.mem_cons.1 h with rfl | h
        · exact .inr (List.mem_cons_self ..)
        · exact .inl (List.mem_append_right _ h)
    · exact .inr (List.mem_cons_of_mem _ h)
  · refine kp_trans2' (kp_trans2' (Kp.refl _ w) hD.2.2 fun y hy h => ?_) KP6.out fun y hy h => .inr (.inl h)
    exact .inr (.inr (.inr h))
end Go.Proofs.Ytggimkfepcgaoaa.Gho
