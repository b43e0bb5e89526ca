/-
  Ghost lists (layer 28): the state of a list beside other blocks; Add, Remove, Pop, Len, Most, Has, Keys.
-/
import Derived.Test.YtggimkfepcgaoaaGhoH
import Derived.Test.YtggimkfepcgaoaaGhoL
set_option linter.unusedVariables false
set_option linter.unusedSimpArgs false
namespace Go.Proofs.Ytggimkfepcgaoaa.Gho
open Go Go.RowKit Kit Go.Maps Lnk
/-- a list whose blocks are new since w0 and not among the blocks X -/
def Gx (w0 v : World) (b K B : Nat) (most : Int) (keys : List Nat) (X : Nat → Prop) : Prop := ∃ c q r cq cr N F g kc m nm D L fr KL, Gh v b c q r cq cr N F g kc m nm D most L fr KL ∧ kys KL L = keys ∧ N ≤ B ∧ nm ≤ K ∧ (w0.heap.size ≤ b ∧ w0.heap.size ≤ c ∧ w0.heap.size ≤ q ∧ w0.heap.size ≤ r ∧ w0.heap.size ≤ g ∧ w0.heap.size ≤ m) ∧ Below w0.heap.size w0 v ∧ (∀ k, Obg b c q r g m k → ¬ X k) ∧ (∀ k, X k → k < v.heap.size)
/-- what an operation leaves: the state, and the blocks X as they lay -/
def GxR (w0 v v' : World) (b K B : Nat) (most : Int) (keys : List Nat) (X : Nat → Prop) : Prop := Gx w0 v' b K B most keys X ∧ (∀ k, X k → v'.heap[k]? = v.heap[k]?) ∧ v.heap.size ≤ v'.heap.size
section
variable {w0 v v' : World} {b K B : Nat} {most : Int} {keys : List Nat} {X : Nat → Prop}
theorem Gs.gx (h : Gs w0 v b K B most keys) : Gx w0 v b K B most keys (fun _ => False) := by
  obtain ⟨c, q, r, cq, cr, N, F, g, kc, m, nm, D, L, fr, KL, h1, h2, h3, h4, h5, h6⟩ := h
  exact ⟨c, q, r, cq, cr, N, F, g, kc, m, nm, D, L, fr, KL, h1, h2, h3, h4, h5, h6, fun _ _ h => h, fun _ h => h.elim⟩
theorem Gx.gs (h : Gx w0 v b K B most keys X) : Gs w0 v b K B most keys := by
  obtain ⟨c, q, r, cq, cr, N, F, g, kc, m, nm, D, L, fr, KL, h1, h2, h3, h4, h5, h6, h7, h8⟩ := h
  exact ⟨c, q, r, cq, cr, N, F, g, kc, m, nm, D, L, fr, KL, h1, h2, h3, h4, h5, h6⟩
theorem Gx.bl (h : Gx w0 v b K B most keys X) : Below w0.heap.size w0 v := h.gs.bl
theorem Gx.mono {K' B' : Nat} (h : Gx w0 v b K B most keys X) (hK : K ≤ K') (hB : B ≤ B') : Gx w0 v b K' B' most keys X := by
  obtain ⟨c, q, r, cq, cr, N, F, g, kc, m, nm, D, L, fr, KL, h1, h2, h3, h4, h5, h6, h7, h8⟩ := h
  exact ⟨c, q, r, cq, cr, N, F, g, kc, m, nm, D, L, fr, KL, h1, h2, by omega, by omega, h5, h6, h7, h8⟩
theorem Gx.only {X' : Nat → Prop} (h : Gx w0 v b K B most keys X) (hX : ∀ k, X' k → X k) : Gx w0 v b K B most keys X' := by
  obtain ⟨c, q, r, cq, cr, N, F, g, kc, m, nm, D, L, fr, KL, h1, h2, h3, h4, h5, h6, h7, h8⟩ := h
  exact ⟨c, q, r, cq, cr, N, F, g, kc, m, nm, D, L, fr, KL, h1, h2, h3, h4, h5, h6, fun k hk hx => h7 k hk (hX k hx), fun k hx => h8 k (hX k hx)⟩
/-- behind a step that only lays new blocks: those may be set aside too -/
theorem Gx.below (h : Gx w0 v b K B most keys X) (hb : Below v.heap.size v v') : Gx w0 v' b K B most keys (fun k => X k ∨ (v.heap.size ≤ k ∧ k < v'.heap.size)) := by
  obtain ⟨c, q, r, cq, cr, N, F, g, kc, m, nm, D, L, fr, KL, h1, h2, h3, h4, h5, h6, h7, h8⟩ := h
  have hs := h6.size
  have hs2 := hb.size
  refine ⟨c, q, r, cq, cr, N, F, g, kc, m, nm, D, L, fr, KL, h1.below hb, h2, h3, h4, h5, ((Kp.of (bad := fun _ => False) h6).tr hb).below (fun k hk h => h) (Nat.le_refl _), fun k hk hx => ?_, fun k hx => ?_⟩
  · rcases hx with hx | hx
    · exact h7 k hk hx
    · have := h1.blk hk; omega
  · rcases hx with hx | hx
    · have := h8 k hx; omega
    · exact hx.2
theorem Gx.below' (h : Gx w0 v b K B most keys X) (hb : Below v.heap.size v v') : Gx w0 v' b K B most keys X := (h.below hb).only fun k hk => .inl hk
/-- behind a step that changes blocks set aside only -/
theorem Gx.aside {bad : Nat → Prop} (h : Gx w0 v b K B most keys X) (hb : Kp bad v v') (hbad : ∀ k, bad k → k < v.heap.size → X k) (hX0 : ∀ k, X k → w0.heap.size ≤ k ∨ ¬ bad k) : Gx w0 v' b K B most keys (fun k => X k ∨ (v.heap.size ≤ k ∧ k < v'.heap.size)) := by
  obtain ⟨c, q, r, cq, cr, N, F, g, kc, m, nm, D, L, fr, KL, h1, h2, h3, h4, h5, h6, h7, h8⟩ := h
  have hs := h6.size
  have hs2 := hb.size
  refine ⟨c, q, r, cq, cr, N, F, g, kc, m, nm, D, L, fr, KL, h1.of fun k hk => hb.block k (h1.blk hk) fun h => h7 k hk (hbad k h (h1.blk hk)), h2, h3, h4, h5, ⟨hb.os.trans h6.os, hb.tape.trans h6.tape, hb.output.trans h6.output, by omega, fun k hk => ?_⟩, fun k hk hx => ?_, fun k hx => ?_⟩
  · refine (hb.block k (by omega) fun h => ?_).trans (h6.block k hk)
    rcases hX0 k (hbad k h (by omega)) with h9 | h9
    · omega
    · exact h9 h
  · rcases hx with hx | hx
    · exact h7 k hk hx
    · have := h1.blk hk; omega
  · rcases hx with hx | hx
    · have := h8 k hx; omega
    · exact hx.2
theorem Gx.nd (h : Gx w0 v b K B most keys X) : keys.Nodup := by
  obtain ⟨c, q, r, cq, cr, N, F, g, kc, m, nm, D, L, fr, KL, h1, rfl, h3, h4, h5, h6, h7, h8⟩ := h
  exact h1.knd
theorem Gx.klt (h : Gx w0 v b K B most keys X) : ∀ k ∈ keys, k < 4294967296 := by
  obtain ⟨c, q, r, cq, cr, N, F, g, kc, m, nm, D, L, fr, KL, h1, rfl, h3, h4, h5, h6, h7, h8⟩ := h
  intro k hk
  obtain ⟨n, -, rfl⟩ := List.mem_map.1 hk
  exact h1.kyLt n
/-- from what an operation of the object leaves -/
theorem GxR.of {c q r g m nm : Nat} {most' : Int} {keys' : List Nat} (hl : w0.heap.size ≤ b ∧ w0.heap.size ≤ c ∧ w0.heap.size ≤ q ∧ w0.heap.size ≤ r ∧ w0.heap.size ≤ g ∧ w0.heap.size ≤ m) (bl : Below w0.heap.size w0 v) (hK : nm ≤ K) (hx : ∀ k, Obg b c q r g m k → ¬ X k) (hx2 : ∀ k, X k → k < v.heap.size) (h : GhR v v' b c q r g m nm B most' keys') : GxR w0 v v' b K B most' keys' X := by
  obtain ⟨q2, r2, cq, cr, N, F, g2, kc, D, L, fr, KL, h1, h2, h3, h4, h5, h6, h7⟩ := h
  have hs := bl.size
  have hs2 := h7.size
  refine ⟨⟨c, q2, r2, cq, cr, N, F, g2, kc, m, nm, D, L, fr, KL, h1, h2, h6, hK, by omega, ?_, fun k hk hxk => ?_, fun k hk => by have := hx2 k hk; omega⟩, fun k hk => h7.block k (hx2 k hk) fun h => hx k h hk, hs2⟩
  · refine ((Kp.of (bad := Obg b c q r g m) bl).trans h7).below (fun k hk h => ?_) (Nat.le_refl _)
    rcases h with h | (h | h | h) | h | h <;> omega
  · have hkv := hx2 k hxk
    refine hx k ?_ hxk
    rcases hk with hk | (hk | hk | hk) | hk | hk
    · exact .inl hk
    · exact .inr (.inl (.inl hk))
    · exact .inr (.inl (.inr (.inl (by omega))))
    · exact .inr (.inl (.inr (.inr (by omega))))
    · exact .inr (.inr (.inl (by omega)))
    · exact .inr (.inr (.inr hk))
/-- what Add does: the keys, the key that has left, and whether one has -/
def addG (most : Int) (keys : List Nat) (k : Nat) : List Nat × Nat × Bool :=
  if k ∈ keys then (k :: keys.erase k, 0, false) else if (keys.length : Int) + 1 ≤ most then (k :: keys, 0, false) else ((k :: keys).dropLast, (k :: keys).getLastD 0, true)
theorem kys_split {KL L1 L2 : List Nat} {n : Nat} (hn : (kys KL (L1 ++ n :: L2)).Nodup) : (kys KL (L1 ++ n :: L2)).erase (ky KL n) = kys KL (L1 ++ L2) := by
  unfold kys at *
  rw [List.map_append, List.map_cons] at hn ⊢
  rw [List.map_append]
  have h1 := List.nodup_append.1 hn
  have hni : ky KL n ∉ L1.map (ky KL) := fun h => h1.2.2 _ h _ (by simp) rfl
  rw [List.erase_append_right _ hni, List.erase_cons_head]
theorem Gx.add (h : Gx w0 v b K B most keys X) (hB1 : B ≤ 1000000) (hB : 2 * keys.length ≤ B) (hK : K ≤ 1000000) (k : Nat) (hk : k < 4294967296) (hm : (keys.length : Int) ≤ most) :
    Calls Try.prog 39 #[.pointer (some ⟨b, 0, none⟩), .int .u32 (k : Int)] v fun e w' => e = .returned (.tuple #[.int .u32 ((addG most keys k).2.1 : Int), .bool (addG most keys k).2.2, .int .i64 0]) ∧ GxR w0 v w' b (K + 1) B most (addG most keys k).1 X := by
  obtain ⟨c, q, r, cq, cr, N, F, g, kc, m, nm, D, L, fr, KL, h1, rfl, h3, h4, h5, h6, h7, h8⟩ := h
  by_cases hin : k ∈ kys KL L
  · obtain ⟨n, L1, L2, rfl, rfl, hnm⟩ := h1.node hin
    refine (gadd_in h1 (ky KL n) hk rfl h3).mono ?_
    rintro e w' ⟨rfl, h⟩
    have e1 : addG most (kys KL (L1 ++ n :: L2)) (ky KL n) = (kys KL (n :: (L1 ++ L2)), 0, false) := by
      unfold addG
      rw [if_pos hin, kys_split h1.knd]
      rfl
    rw [e1]
    exact ⟨rfl, GxR.of h5 h6 (by omega) h7 h8 h⟩
  · rw [kys_len] at hB hm
    refine (gadd_new h1 (by omega) h3 hB (by omega) k hk hin hm).mono ?_
    intro e w' h
    unfold AddQ at h
    unfold addG
    rw [if_neg hin, kys_len]
    split at h
    · next hc =>
      rw [if_pos hc]
      exact ⟨h.1, GxR.of h5 h6 (by omega) h7 h8 h.2⟩
    · next hc =>
      rw [if_neg hc]
      obtain ⟨x, hx, he, hr⟩ := h
      refine ⟨?_, GxR.of h5 h6 (by omega) h7 h8 hr⟩
      rw [he, List.getLastD_eq_getLast?, hx]
      rfl
theorem Gx.remove (h : Gx w0 v b K B most keys X) (k : Nat) (hk : k < 4294967296) :
    Calls Try.prog 44 #[.pointer (some ⟨b, 0, none⟩), .int .u32 (k : Int)] v fun e w' => e = .returned (.tuple #[.bool (decide (k ∈ keys)), .int .i64 0]) ∧ GxR w0 v w' b K B most (keys.erase k) X := by
  have h0 := h
  obtain ⟨c, q, r, cq, cr, N, F, g, kc, m, nm, D, L, fr, KL, h1, rfl, h3, h4, h5, h6, h7, h8⟩ := h
  by_cases hin : k ∈ kys KL L
  · obtain ⟨n, L1, L2, rfl, rfl, hnm⟩ := h1.node hin
    refine (gremove_in h1 (ky KL n) hk rfl h3).mono ?_
    rintro e w' ⟨rfl, h⟩
    rw [kys_split h1.knd]
    exact ⟨by rw [decide_eq_true hin], GxR.of h5 h6 (by omega) h7 h8 h⟩
  · refine (gremove_no h1 k hk hin).mono ?_
    rintro e w' ⟨rfl, rfl⟩
    rw [List.erase_of_not_mem hin]
    exact ⟨by rw [decide_eq_false hin], h0, fun _ _ => rfl, Nat.le_refl _⟩
theorem Gx.pop {x : Nat} (h : Gx w0 v b K B most (keys ++ [x]) X) :
    Calls Try.prog 45 #[.pointer (some ⟨b, 0, none⟩)] v fun e w' => e = .returned (.tuple #[.int .u32 (x : Int), .int .i64 0]) ∧ GxR w0 v w' b K B most keys X := by
  obtain ⟨c, q, r, cq, cr, N, F, g, kc, m, nm, D, L, fr, KL, h1, h2, h3, h4, h5, h6, h7, h8⟩ := h
  obtain ⟨L1, n, rfl⟩ : ∃ L1 n, L = L1 ++ [n] := by
    have hne : L ≠ [] := fun e => by rw [e] at h2; simp [kys] at h2
    exact ⟨L.dropLast, L.getLast hne, (List.dropLast_concat_getLast hne).symm⟩
  have h9 : kys KL L1 = keys ∧ ky KL n = x := by
    unfold kys at h2
    rw [List.map_append, List.map_singleton] at h2
    have := List.append_inj' h2 rfl
    exact ⟨this.1, by simpa using this.2⟩
  obtain ⟨rfl, rfl⟩ := h9
  refine (gpop_in h1 h3).mono ?_
  rintro e w' ⟨rfl, h⟩
  exact ⟨rfl, GxR.of h5 h6 (by omega) h7 h8 h⟩
theorem Gx.len (h : Gx w0 v b K B most keys X) : Calls Try.prog 42 #[.pointer (some ⟨b, 0, none⟩)] v fun e w' => e = .returned (.int .i64 (keys.length : Int)) ∧ v = w' := h.gs.len
theorem Gx.has (h : Gx w0 v b K B most keys X) (k : Nat) (hk : k < 4294967296) : Calls Try.prog 47 #[.pointer (some ⟨b, 0, none⟩), .int .u32 (k : Int)] v fun e w' => e = .returned (.bool (decide (k ∈ keys))) ∧ v = w' := h.gs.has k hk
theorem Gx.bound (h : Gx w0 v b K B most keys X) : Calls Try.prog 41 #[.pointer (some ⟨b, 0, none⟩)] v fun e w' => e = .returned (.int .i64 most) ∧ v = w' := by
  obtain ⟨c, q, r, cq, cr, N, F, g, kc, m, nm, D, L, fr, KL, h1, h2, h3, h4, h5, h6, h7, h8⟩ := h
  exact gmost_any h1
theorem Gx.keys' (h : Gx w0 v b K B most keys X) (hl : keys.length ≤ 1000000) : Calls Try.prog 43 #[.pointer (some ⟨b, 0, none⟩)] v fun e w' => ∃ u, e = .returned u ∧ w'.ownsRow v.heap.size 38 1 u keys.length ((ints keys).map (Value.int .u32)) ∧ Below v.heap.size v w' := by
  obtain ⟨c, q, r, cq, cr, N, F, g, kc, m, nm, D, L, fr, KL, h1, rfl, h3, h4, h5, h6, h7, h8⟩ := h
  rw [kys_len] at hl ⊢
  exact gkeys_any h1 hl
end
end Go.Proofs.Ytggimkfepcgaoaa.Gho
