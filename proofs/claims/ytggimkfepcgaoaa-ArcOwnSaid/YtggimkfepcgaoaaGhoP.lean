/-
  Ghost lists (layer 28), the reference: Has.
-/
import Derived.Test.YtggimkfepcgaoaaGhoL
import Derived.Test.YtggimkfepcgaoaaGhoH
set_option linter.unusedVariables false
set_option linter.unusedSimpArgs false
section
namespace Go.Proofs.Ytggimkfepcgaoaa.Gho
open Go Go.RowKit Kit Go.Maps Lnk
theorem gints_at {l : List Nat} {k s : Nat} (h : l[k]? = some s) : (ints l)[k]? = some (s : Int) := by unfold ints; rw [List.getElem?_map, h]; rfl
/-- the reference's list as a value -/
abbrev rg (most : Int) (p : Option Addr) (n c : Nat) : Value := .agg #[.int .i64 most, .slice p n c]
set_option maxRecDepth 100000 in
theorem rhas_any {w : World} {p : Option Addr} {n c : Nat} {l : List Nat} (most : Int) (hl : l.length = n) (hn : n ≤ 1000000) (r : Ru w p (ints l)) (x : Nat) :
    Calls Try.prog 143 #[rg most p n c, .int .u32 (x : Int)] w fun e w' => e = .returned (.bool (decide (x ∈ l))) ∧ Below w.heap.size w w' := by
  have HL := Lib.hid hl
  have BW := Lib.hid (show Below w.heap.size w (w.alloc (.cells #[.int .i64 most, .slice p n c] 69)) by go_grown)
  have HR := Lib.hid (r.below BW.out)
  have HX := Lib.hid (show (w.alloc (.cells #[.int .i64 most, .slice p n c] 69)).heap[w.heap.size]? = some (.cells #[.int .i64 most, .slice p n c] 69 (0, 0)) from (MapKept.heap_alloc w _).1)
  obtain ⟨z, hz⟩ : ∃ z : Int, (x : Int) = z := ⟨_, rfl⟩
  have HZ := Lib.hid hz
  rw [hz]
  clear hl r hz
  go_enter Try.func143, Try.ntmps143
  go_wp2_with fail
  generalize w.alloc (.cells #[.int .i64 most, .slice p n c] 69) = w1 at *
  have hx1 : w1.cell? ⟨w.heap.size, 1, none⟩ = some (.slice p n c) := by have := HX.out; simp [World.cell?, this]
  clear HX
  go_loopw [5] (fun i wr => ∃ k : Nat, k ≤ n ∧ i = .int .i64 (k : Int) ∧ x ∉ l.take k ∧ w1 = wr) (fun i _ => n - (intOf i).toNat)
  case atStart => exact ⟨0, by omega, rfl, by simp, rfl⟩
  case round =>
    obtain ⟨k, hk, rfl, hT, rfl⟩ := hrel
    have HT := Lib.hid hT
    clear hT
    by_cases hlt : k < n
    · obtain ⟨s, hs⟩ : ∃ s, l[k]? = some s := ⟨l[k]'(by rw [HL.out]; omega), List.getElem?_eq_getElem _⟩
      obtain ⟨y, rfl, hyb, e0⟩ := HR.out k (s : Int) (gints_at hs)
      have hlt' : (k : Int) < (n : Int) := by omega
      have k0 : (0 : Int) ≤ (k : Int) := by omega
      have wk := IntWalk.i64_in ((k : Int) + 1) (by omega)
      have HS := Lib.hid hs
      clear hs hyb
      obtain ⟨t, ht⟩ : ∃ t : Int, (s : Int) = t := ⟨_, rfl⟩
      have HTT := Lib.hid ht
      rw [ht] at e0
      clear ht
      by_cases hx : t = z
      · have hq : s = x := by have := HTT.out; have := HZ.out; omega
        have HQ := Lib.hid (show decide (x ∈ l) = true from decide_eq_true (hq ▸ List.mem_of_getElem? HS.out))
        subst hx
        clear hq
        go_wp2_with fail
        exact bodyPost_ret (v := .bool true) (by simp [results, Try.results143, go_sem]) rfl ⟨by rw [HQ.out], BW.out⟩
      · have hb : (t == z) = false := by rw [beq_eq_false_iff_ne]; exact hx
        have hq : x ∉ l.take (k + 1) := by
          rw [List.take_add_one, HS.out]
          intro h
          rcases List.mem_append.1 h with h | h
          · exact HT.out h
          · simp at h; have := HTT.out; have := HZ.out; omega
        have HQ := Lib.hid hq
        clear hq hx
        go_wp2_with fail
        go_roundw
        case rel => exact ⟨k + 1, by omega, by go_num, HQ.out, trivial⟩
        case measure => simp [intOf]; omega
    · have hlt' : ¬ (k : Int) < (n : Int) := by omega
      obtain rfl : k = n := by omega
      have HQ := Lib.hid (show decide (x ∈ l) = false from decide_eq_false (by have := HT.out; rwa [List.take_of_length_le (Nat.le_of_eq HL.out)] at this))
      go_wp2_with fail
      exact bodyPost_ret (v := .bool false) (by simp [results, Try.results143, go_sem]) rfl ⟨by rw [HQ.out], BW.out⟩
end Go.Proofs.Ytggimkfepcgaoaa.Gho
end
section
namespace Go.Proofs.Ytggimkfepcgaoaa.Gho
open Go Go.RowKit Kit Go.Maps Lnk
/-- a list whose blocks are new since w0 and not among the blocks X -/
def Gx (w0 v : World) (b K B : Nat) (most : Int) (keys : List Nat) (X : Nat → Prop) : Prop := ∃ c q r cq cr N F g kc m nm D L fr KL, Gh v b c q r cq cr N F g kc m nm D most L fr KL ∧ kys KL L = keys ∧ N ≤ B ∧ nm ≤ K ∧ (w0.heap.size ≤ b ∧ w0.heap.size ≤ c ∧ w0.heap.size ≤ q ∧ w0.heap.size ≤ r ∧ w0.heap.size ≤ g ∧ w0.heap.size ≤ m) ∧ Below w0.heap.size w0 v ∧ (∀ k, Obg b c q r g m k → ¬ X k) ∧ (∀ k, X k → k < v.heap.size)
/-- what an operation leaves: the state, and the blocks X as they lay -/
def GxR (w0 v v' : World) (b K B : Nat) (most : Int) (keys : List Nat) (X : Nat → Prop) : Prop := Gx w0 v' b K B most keys X ∧ (∀ k, X k → v'.heap[k]? = v.heap[k]?) ∧ v.heap.size ≤ v'.heap.size
section
variable {w0 v v' : World} {b K B : Nat} {most : Int} {keys : List Nat} {X : Nat → Prop}
theorem Gs.gx (h : Gs w0 v b K B most keys) : Gx w0 v b K B most keys (fun _ => False) := by
  obtain ⟨c, q, r, cq, cr, N, F, g, kc, m, nm, D, L, fr, KL, h1, h2, h3, h4, h5, h6⟩ := h
  exact ⟨c, q, r, cq, cr, N, F, g, kc, m, nm, D, L, fr, KL, h1, h2, h3, h4, h5, h6, fun _ _ h => h, fun _ h => h.elim⟩
theorem Gx.gs (h : Gx w0 v b K B most keys X) : Gs w0 v b K B most keys := by
  obtain ⟨c, q, r, cq, cr, N, F, g, kc, m, nm, D, L, fr, KL, h1, h2, h3, h4, h5, h6, h7, h8⟩ := h
  exact ⟨c, q, r, cq, cr, N, F, g, kc, m, nm, D, L, fr, KL, h1, h2, h3, h4, h5, h6⟩
theorem Gx.bl (h : Gx w0 v b K B most keys X) : Below w0.heap.size w0 v := h.gs.bl
theorem Gx.mono {K' B' : Nat} (h : Gx w0 v b K B most keys X) (hK : K ≤ K') (hB : B ≤ B') : Gx w0 v b K' B' most keys X := by
  obtain ⟨c, q, r, cq, cr, N, F, g, kc, m, nm, D, L, fr, KL, h1, h2, h3, h4, h5, h6, h7, h8⟩ := h
  exact ⟨c, q, r, cq, cr, N, F, g, kc, m, nm, D, L, fr, KL, h1, h2, by omega, by omega, h5, h6, h7, h8⟩
theorem Gx.only {X' : Nat → Prop} (h : Gx w0 v b K B most keys X) (hX : ∀ k, X' k → X k) : Gx w0 v b K B most keys X' := by
  obtain ⟨c, q, r, cq, cr, N, F, g, kc, m, nm, D, L, fr, KL, h1, h2, h3, h4, h5, h6, h7, h8⟩ := h
  exact ⟨c, q, r, cq, cr, N, F, g, kc, m, nm, D, L, fr, KL, h1, h2, h3, h4, h5, h6, fun k hk hx => h7 k hk (hX k hx), fun k hx => h8 k (hX k hx)⟩
/-- behind a step that only lays new blocks: those may be set aside too -/
theorem Gx.below (h : Gx w0 v b K B most keys X) (hb : Below v.heap.size v v') : Gx w0 v' b K B most keys (fun k => X k ∨ (v.heap.size ≤ k ∧ k < v'.heap.size)) := by
  obtain ⟨c, q, r, cq, cr, N, F, g, kc, m, nm, D, L, fr, KL, h1, h2, h3, h4, h5, h6, h7, h8⟩ := h
  have hs := h6.size
  have hs2 := hb.size
  refine ⟨c, q, r, cq, cr, N, F, g, kc, m, nm, D, L, fr, KL, h1.below hb, h2, h3, h4, h5, ((Kp.of (bad := fun _ => False) h6).tr hb).below (fun k hk h => h) (Nat.le_refl _), fun k hk hx => ?_, fun k hx => ?_⟩
  · rcases hx with hx | hx
    · exact h7 k hk hx
    · have := h1.blk hk; omega
  · rcases hx with hx | hx
    · have := h8 k hx; omega
    · exact hx.2
theorem Gx.below' (h : Gx w0 v b K B most keys X) (hb : Below v.heap.size v v') : Gx w0 v' b K B most keys X := (h.below hb).only fun k hk => .inl hk
/-- behind a step that changes blocks set aside only -/
theorem Gx.aside {bad : Nat → Prop} (h : Gx w0 v b K B most keys X) (hb : Kp bad v v') (hbad : ∀ k, bad k → k < v.heap.size → X k) (hX0 : ∀ k, X k → w0.heap.size ≤ k ∨ ¬ bad k) : Gx w0 v' b K B most keys (fun k => X k ∨ (v.heap.size ≤ k ∧ k < v'.heap.size)) := by
  obtain ⟨c, q, r, cq, cr, N, F, g, kc, m, nm, D, L, fr, KL, h1, h2, h3, h4, h5, h6, h7, h8⟩ := h
  have hs := h6.size
  have hs2 := hb.size
  refine ⟨c, q, r, cq, cr, N, F, g, kc, m, nm, D, L, fr, KL, h1.of fun k hk => hb.block k (h1.blk hk) fun h => h7 k hk (hbad k h (h1.blk hk)), h2, h3, h4, h5, ⟨hb.os.trans h6.os, hb.tape.trans h6.tape, hb.output.trans h6.output, by omega, fun k hk => ?_⟩, fun k hk hx => ?_, fun k hx => ?_⟩
  · refine (hb.block k (by omega) fun h => ?_).trans (h6.block k hk)
    rcases hX0 k (hbad k h (by omega)) with h9 | h9
    · omega
    · exact h9 h
  · rcases hx with hx | hx
    · exact h7 k hk hx
    · have := h1.blk hk; omega
  · rcases hx with hx | hx
    · have := h8 k hx; omega
    · exact hx.2
theorem Gx.nd (h : Gx w0 v b K B most keys X) : keys.Nodup := by
  obtain ⟨c, q, r, cq, cr, N, F, g, kc, m, nm, D, L, fr, KL, h1, rfl, h3, h4, h5, h6, h7, h8⟩ := h
  exact h1.knd
theorem Gx.klt (h : Gx w0 v b K B most keys X) : ∀ k ∈ keys, k < 4294967296 := by
  obtain ⟨c, q, r, cq, cr, N, F, g, kc, m, nm, D, L, fr, KL, h1, rfl, h3, h4, h5, h6, h7, h8⟩ := h
  intro k hk
  obtain ⟨n, -, rfl⟩ := List.mem_map.1 hk
  exact h1.kyLt n
/-- from what an operation of the object leaves -/
theorem GxR.of {c q r g m nm : Nat} {most' : Int} {keys' : List Nat} (hl : w0.heap.size ≤ b ∧ w0.heap.size ≤ c ∧ w0.heap.size ≤ q ∧ w0.heap.size ≤ r ∧ w0.heap.size ≤ g ∧ w0.heap.size ≤ m) (bl : Below w0.heap.size w0 v) (hK : nm ≤ K) (hx : ∀ k, Obg b c q r g m k → ¬ X k) (hx2 : ∀ k, X k → k < v.heap.size) (h : GhR v v' b c q r g m nm B most' keys') : GxR w0 v v' b K B most' keys' X := by
  obtain ⟨q2, r2, cq, cr, N, F, g2, kc, D, L, fr, KL, h1, h2, h3, h4, h5, h6, h7⟩ := h
  have hs := bl.size
  have hs2 := h7.size
  refine ⟨⟨c, q2, r2, cq, cr, N, F, g2, kc, m, nm, D, L, fr, KL, h1, h2, h6, hK, by omega, ?_, fun k hk hxk => ?_, fun k hk => by have := hx2 k hk; omega⟩, fun k hk => h7.block k (hx2 k hk) fun h => hx k h hk, hs2⟩
  · refine ((Kp.of (bad := Obg b c q r g m) bl).trans h7).below (fun k hk h => ?_) (Nat.le_refl _)
    rcases h with h | (h | h | h) | h | h <;> omega
  · have hkv := hx2 k hxk
    refine hx k ?_ hxk
    rcases hk with hk | (hk | hk | hk) | hk | hk
    · exact .inl hk
    · exact .inr (.inl (.inl hk))
    · exact .inr (.inl (.inr (.inl (by omega))))
    · exact .inr (.inl (.inr (.inr (by omega))))
    · exact .inr (.inr (.inl (by omega)))
    · exact .inr (.inr (.inr hk))
/-- what Add does: the keys, the key that has left, and whether one has -/
def addG (most : Int) (keys : List Nat) (k : Nat) : List Nat × Nat × Bool :=
  if k ∈ keys then (k :: keys.erase k, 0, false) else if (keys.length : Int) + 1 ≤ most then (k :: keys, 0, false) else ((k :: keys).dropLast, (k :: keys).getLastD 0, true)
theorem kys_split {KL L1 L2 : List Nat} {n : Nat} (hn : (kys KL (L1 ++ n :: L2)).Nodup) : (kys KL (L1 ++ n :: L2)).erase (ky KL n) = kys KL (L1 ++ L2) := by
  unfold kys at *
  rw [List.map_append, List.map_cons] at hn ⊢
  rw [List.map_append]
  have h1 := List.nodup_append.1 hn
  have hni : ky KL n ∉ L1.map (ky KL) := fun h => h1.2.2 _ h _ (by simp) rfl
  rw [List.erase_append_right _ hni, List.erase_cons_head]
theorem Gx.add (h : Gx w0 v b K B most keys X) (hB1 : B ≤ 1000000) (hB : 2 * keys.length ≤ B) (hK : K ≤ 1000000) (k : Nat) (hk : k < 4294967296) (hm : (keys.length : Int) ≤ most) :
    Calls Try.prog 39 #[.pointer (some ⟨b, 0, none⟩), .int .u32 (k : Int)] v fun e w' => e = .returned (.tuple #[.int .u32 ((addG most keys k).2.1 : Int), .bool (addG most keys k).2.2, .int .i64 0]) ∧ GxR w0 v w' b (K + 1) B most (addG most keys k).1 X := by
  obtain ⟨c, q, r, cq, cr, N, F, g, kc, m, nm, D, L, fr, KL, h1, rfl, h3, h4, h5, h6, h7, h8⟩ := h
  by_cases hin : k ∈ kys KL L
  · obtain ⟨n, L1, L2, rfl, rfl, hnm⟩ := h1.node hin
    refine (gadd_in h1 (ky KL n) hk rfl h3).mono ?_
    rintro e w' ⟨rfl, h⟩
    have e1 : addG most (kys KL (L1 ++ n :: L2)) (ky KL n) = (kys KL (n :: (L1 ++ L2)), 0, false) := by
      unfold addG
      rw [if_pos hin, kys_split h1.knd]
      rfl
    rw [e1]
    exact ⟨rfl, GxR.of h5 h6 (by omega) h7 h8 h⟩
  · rw [kys_len] at hB hm
    refine (gadd_new h1 (by omega) h3 hB (by omega) k hk hin hm).mono ?_
    intro e w' h
    unfold AddQ at h
    unfold addG
    rw [if_neg hin, kys_len]
    split at h
    · next hc =>
      rw [if_pos hc]
      exact ⟨h.1, GxR.of h5 h6 (by omega) h7 h8 h.2⟩
    · next hc =>
      rw [if_neg hc]
      obtain ⟨x, hx, he, hr⟩ := h
      refine ⟨?_, GxR.of h5 h6 (by omega) h7 h8 hr⟩
      rw [he, List.getLastD_eq_getLast?, hx]
      rfl
theorem Gx.remove (h : Gx w0 v b K B most keys X) (k : Nat) (hk : k < 4294967296) :
    Calls Try.prog 44 #[.pointer (some ⟨b, 0, none⟩), .int .u32 (k : Int)] v fun e w' => e = .returned (.tuple #[.bool (decide (k ∈ keys)), .int .i64 0]) ∧ GxR w0 v w' b K B most (keys.erase k) X := by
  have h0 := h
  obtain ⟨c, q, r, cq, cr, N, F, g, kc, m, nm, D, L, fr, KL, h1, rfl, h3, h4, h5, h6, h7, h8⟩ := h
  by_cases hin : k ∈ kys KL L
  · obtain ⟨n, L1, L2, rfl, rfl, hnm⟩ := h1.node hin
    refine (gremove_in h1 (ky KL n) hk rfl h3).mono ?_
    rintro e w' ⟨rfl, h⟩
    rw [kys_split h1.knd]
    exact ⟨by rw [decide_eq_true hin], GxR.of h5 h6 (by omega) h7 h8 h⟩
  · refine (gremove_no h1 k hk hin).mono ?_
    rintro e w' ⟨rfl, rfl⟩
    rw [List.erase_of_not_mem hin]
    exact ⟨by rw [decide_eq_false hin], h0, fun _ _ => rfl, Nat.le_refl _⟩
theorem Gx.pop {x : Nat} (h : Gx w0 v b K B most (keys ++ [x]) X) :
    Calls Try.prog 45 #[.pointer (some ⟨b, 0, none⟩)] v fun e w' => e = .returned (.tuple #[.int .u32 (x : Int), .int .i64 0]) ∧ GxR w0 v w' b K B most keys X := by
  obtain ⟨c, q, r, cq, cr, N, F, g, kc, m, nm, D, L, fr, KL, h1, h2, h3, h4, h5, h6, h7, h8⟩ := h
  obtain ⟨L1, n, rfl⟩ : ∃ L1 n, L = L1 ++ [n] := by
    have hne : L ≠ [] := fun e => by rw [e] at h2; simp [kys] at h2
    exact ⟨L.dropLast, L.getLast hne, (List.dropLast_concat_getLast hne).symm⟩
  have h9 : kys KL L1 = keys ∧ ky KL n = x := by
    unfold kys at h2
    rw [List.map_append, List.map_singleton] at h2
    have := List.append_inj' h2 rfl
    exact ⟨this.1, by simpa using this.2⟩
  obtain ⟨rfl, rfl⟩ := h9
  refine (gpop_in h1 h3).mono ?_
  rintro e w' ⟨rfl, h⟩
  exact ⟨rfl, GxR.of h5 h6 (by omega) h7 h8 h⟩
theorem Gx.len (h : Gx w0 v b K B most keys X) : Calls Try.prog 42 #[.pointer (some ⟨b, 0, none⟩)] v fun e w' => e = .returned (.int .i64 (keys.length : Int)) ∧ v = w' := h.gs.len
theorem Gx.has (h : Gx w0 v b K B most keys X) (k : Nat) (hk : k < 4294967296) : Calls Try.prog 47 #[.pointer (some ⟨b, 0, none⟩), .int .u32 (k : Int)] v fun e w' => e = .returned (.bool (decide (k ∈ keys))) ∧ v = w' := h.gs.has k hk
theorem Gx.bound (h : Gx w0 v b K B most keys X) : Calls Try.prog 41 #[.pointer (some ⟨b, 0, none⟩)] v fun e w' => e = .returned (.int .i64 most) ∧ v = w' := by
  obtain ⟨c, q, r, cq, cr, N, F, g, kc, m, nm, D, L, fr, KL, h1, h2, h3, h4, h5, h6, h7, h8⟩ := h
  exact gmost_any h1
theorem Gx.keys' (h : Gx w0 v b K B most keys X) (hl : keys.length ≤ 1000000) : Calls Try.prog 43 #[.pointer (some ⟨b, 0, none⟩)] v fun e w' => ∃ u, e = .returned u ∧ w'.ownsRow v.heap.size 38 1 u keys.length ((ints keys).map (Value.int .u32)) ∧ Below v.heap.size v w' := by
  obtain ⟨c, q, r, cq, cr, N, F, g, kc, m, nm, D, L, fr, KL, h1, rfl, h3, h4, h5, h6, h7, h8⟩ := h
  rw [kys_len] at hl ⊢
  exact gkeys_any h1 hl
end
end Go.Proofs.Ytggimkfepcgaoaa.Gho
end
section
namespace Go.Proofs.Ytggimkfepcgaoaa.Gho
open Go Go.RowKit Kit Go.Maps Lnk
theorem Gx.zero {w0 v : World} {b K B : Nat} {most : Int} {keys : List Nat} {X : Nat → Prop} (h : Gx w0 v b K B most keys X) : Calls Try.prog 115 #[.pointer (some ⟨b, 0, none⟩)] v fun e w' => e = .returned (.bool false) ∧ v = w' := by
  obtain ⟨c, q, r, cq, cr, N, F, g, kc, m, nm, D, L, fr, KL, h1, h2, h3, h4, h5, h6, h7, h8⟩ := h
  exact gzero_any h1
/-- the bound is set -/
theorem Gx.setMost {w0 v : World} {b K B : Nat} {most : Int} {keys : List Nat} {X : Nat → Prop} (h : Gx w0 v b K B most keys X) (z : Int) : v.cell? ⟨b, 0, none⟩ = some (.int .i64 most) ∧ v.frozen? ⟨b, 0, none⟩ = false ∧ GxR w0 v (v.setCell ⟨b, 0, none⟩ (.int .i64 z)) b K B z keys X := by
  obtain ⟨c, q, r, cq, cr, N, F, g, kc, m, nm, D, L, fr, KL, h1, h2, h3, h4, h5, h6, h7, h8⟩ := h
  obtain ⟨c0, c1, c2, c3, cf⟩ := h1.cells
  refine ⟨c0, cf 0, ?_⟩
  have hset := fun k (hk : k ≠ b) => Below.heap_setCell v ⟨b, 0, none⟩ (.int .i64 z) k (by show k ≠ b; exact hk)
  have hs : (v.setCell ⟨b, 0, none⟩ (.int .i64 z)).heap.size = v.heap.size := by simp
  have hd := h1.db
  refine ⟨⟨c, q, r, cq, cr, N, F, g, kc, m, nm, D, L, fr, KL, ⟨heap_set (j := 0) h1.ob _, h1.lo.of fun k hk => hset k (by rcases hk with rfl | rfl | rfl <;> omega), own_of h1.ks (hset g (by omega)), h1.kl, h1.kw, map_of h1.mp (hset m (by omega)), h1.mf, h1.pt, h1.db, h1.dg, h1.dm⟩, h2, h3, h4, h5, ?_, h7, fun k hk => by have := h8 k hk; omega⟩, fun k hk => hset k fun e => h7 b (.inl rfl) (e ▸ hk), by omega⟩
  exact h6.setCell (p := ⟨b, 0, none⟩) h5.1 _
/-- the blocks that are set aside, and a row that grows -/
def Xr (X : Nat → Prop) (ov : Value) : Nat → Prop := fun k => X k ∨ ov.ownBlock = some k
theorem Gx.app {w0 v v' : World} {b K B n : Nat} {most : Int} {keys : List Nat} {X : Nat → Prop} {ov ov' : Value} {xs : List Value} {base : Nat} (h : Gx w0 v b K B most keys (Xr X ov)) (hrow : v.ownsRow base 38 1 ov n xs) (hb0 : w0.heap.size ≤ base) (hg : v.grownBy v' ov.ownBlock) (hb' : ov'.ownBlock = ov.ownBlock ∨ ∃ g, ov'.ownBlock = some g ∧ v.heap.size ≤ g) (hlt : ∀ g, ov'.ownBlock = some g → g < v'.heap.size) : Gx w0 v' b K B most keys (Xr X ov') := by
  obtain ⟨c, q, r, cq, cr, N, F, g, kc, m, nm, D, L, fr, KL, h1, h2, h3, h4, h5, h6, h7, h8⟩ := h
  have hs := h6.size
  have hs2 := hg.size
  refine ⟨c, q, r, cq, cr, N, F, g, kc, m, nm, D, L, fr, KL, h1.of fun k hk => hg.block k (h1.blk hk) fun e => h7 k hk (.inr e.symm), h2, h3, h4, h5, ⟨hg.os.trans h6.os, hg.tape.trans h6.tape, hg.output.trans h6.output, by omega, fun k hk => ?_⟩, fun k hk hx => ?_, fun k hx => ?_⟩
  · exact (hg.block k (by omega) fun e => by have := (hrow.lt k e.symm).1; omega).trans (h6.block k hk)
  · rcases hx with hx | hx
    · exact h7 k hk (.inl hx)
    · rcases hb' with e | ⟨g', e, e2⟩
      · exact h7 k hk (.inr (e ▸ hx))
      · rw [e] at hx
        cases hx
        have := h1.blk hk
        omega
  · rcases hx with hx | hx
    · have := h8 k (.inl hx); omega
    · exact hlt k hx
theorem row_kp {w w' : World} {B n : Nat} {e : TypeId} {v : Value} {xs : List Value} (h : w.ownsRow B e 1 v n xs) (e' : ∀ g, v.ownBlock = some g → w'.heap[g]? = w.heap[g]?) : w'.ownsRow B e 1 v n xs := by
  obtain ⟨h0, hv | ⟨g', cap, cur, hv, hb, hg, hr⟩⟩ := h
  · exact ⟨h0, .inl hv⟩
  · exact ⟨h0, .inr ⟨g', cap, cur, hv, hb, (e' g' (by rw [hv]; rfl)).trans hg, hr⟩⟩
theorem Gx.xlt {w0 v : World} {b K B : Nat} {most : Int} {keys : List Nat} {X : Nat → Prop} (h : Gx w0 v b K B most keys X) : ∀ k, X k → k < v.heap.size := by
  obtain ⟨c, q, r, cq, cr, N, F, g, kc, m, nm, D, L, fr, KL, h1, h2, h3, h4, h5, h6, h7, h8⟩ := h
  exact h8
/-- the state of the loop of Resize -/
structure Rz (w0 v wr : World) (b K B : Nat) (M : Int) (keys : List Nat) (t : Nat) (X : Nat → Prop) (ov : Value) : Prop where
  gx : Gx w0 wr b K B M (keys.take t) (Xr X ov)
  row : wr.ownsRow v.heap.size 38 1 ov (keys.length - t) ((ints (keys.drop t).reverse).map (Value.int .u32))
  xk : ∀ k, X k → wr.heap[k]? = v.heap[k]?
  sz : v.heap.size ≤ wr.heap.size
  xl : ∀ k, X k → k < v.heap.size
set_option maxRecDepth 100000 in
set_option maxHeartbeats 4000000 in
theorem Gx.resize {w0 v : World} {b K B : Nat} {most : Int} {keys : List Nat} {X : Nat → Prop} (h : Gx w0 v b K B most keys X) (M : Nat) (hM : M ≤ 4096) (hl : keys.length ≤ 1000000) :
    Calls Try.prog 46 #[.pointer (some ⟨b, 0, none⟩), .int .i64 (M : Int)] v fun e w' => ∃ ov, e = .returned (.tuple #[ov, .int .i64 0]) ∧ w'.ownsRow v.heap.size 38 1 ov (keys.length - M) ((ints (keys.drop M).reverse).map (Value.int .u32)) ∧ GxR w0 v w' b K B (M : Int) (keys.take M) X := by
  have HZ := Lib.hid h.zero
  have HIB := Lib.hid (isBound_any v (M : Int))
  have hib : decide ((0 : Int) ≤ (M : Int) ∧ (M : Int) ≤ 4096) = true := decide_eq_true ⟨by omega, by omega⟩
  rw [hib] at HIB
  obtain ⟨c0, cf, hs⟩ := h.setMost (M : Int)
  have HS := Lib.hid hs
  have HL := Lib.hid (show keys.length ≤ 1000000 ∧ M ≤ 4096 ∧ v.heap.size ≤ v.heap.size from ⟨hl, hM, Nat.le_refl _⟩)
  have HB := Lib.hid h.bl
  have HXL := Lib.hid h.xlt
  obtain ⟨i0, hi, hz0, hz1, hz2⟩ := u_parts
  clear hib hs hl hM h
  go_enter Try.func46, Try.ntmps46
  go_wp2_with fail
  refine HZ.out.mono ?_
  rintro e w1 ⟨rfl, rfl⟩
  go_wp2_with fail
  refine HIB.out.mono ?_
  rintro e w1 ⟨rfl, rfl⟩
  go_wp2_with fail
  clear HZ HIB c0 cf
  go_loopw [6] (fun ov wr => Hid (∃ t, t ≤ keys.length ∧ (M ≤ t ∨ t = keys.length) ∧ Rz w0 v wr b K B (M : Int) keys t X ov)) (fun ov _ => 1000001 - slen ov)
  case atStart => exact Lib.hid ⟨keys.length, Nat.le_refl _, .inr rfl, ⟨by rw [List.take_length]; exact HS.out.1.only fun k hk => by (rcases hk with hk | hk; exact hk; cases hk), by rw [Nat.sub_self, List.drop_length]; exact World.ownsRow_nil _ _ _ _, HS.out.2.1, HS.out.2.2, HXL.out⟩⟩
  case round =>
    obtain ⟨t, ht, hMt, rz⟩ := hrel.out
    have RZ := Lib.hid rz
    obtain ⟨p, kc, rfl, -, hcap⟩ := App.own_form rz.row
    have hln := rz.gx.len
    have htl : (keys.take t).length = t := by rw [List.length_take]; omega
    rw [htl] at hln
    have HLN := Lib.hid hln
    have HT := Lib.hid (show t ≤ keys.length ∧ (M ≤ t ∨ t = keys.length) from ⟨ht, hMt⟩)
    clear hrel rz hln htl hcap ht hMt
    go_wp2_with fail
    refine HLN.out.mono ?_
    rintro e w1 ⟨rfl, rfl⟩
    clear HLN
    by_cases hMt : M < t
    · have i1 : (M : Int) < (t : Int) := by omega
      obtain ⟨t1, rfl⟩ : ∃ t1, t = t1 + 1 := ⟨t - 1, by omega⟩
      obtain ⟨x, hx⟩ : ∃ x, keys[t1]? = some x := ⟨keys[t1]'(by have := HT.out; omega), List.getElem?_eq_getElem _⟩
      have htk : keys.take (t1 + 1) = keys.take t1 ++ [x] := by rw [List.take_add_one, hx]; rfl
      have hgx := RZ.out.gx
      rw [htk] at hgx
      have HP := Lib.hid hgx.pop
      have hdk : (keys.drop t1).reverse = (keys.drop (t1 + 1)).reverse ++ [x] := by
        obtain ⟨hl, he⟩ := List.getElem?_eq_some_iff.1 hx
        rw [List.drop_eq_getElem_cons hl, he, List.reverse_cons]
      have HD := Lib.hid hdk
      obtain ⟨n, hn⟩ : ∃ n, keys.length - (t1 + 1) = n := ⟨_, rfl⟩
      have HN := Lib.hid (show keys.length - (t1 + 1) = n ∧ keys.length - t1 = n + 1 ∧ n ≤ 1000000 from ⟨hn, by have := HT.out; omega, by have := HL.out; omega⟩)
      have HM := Lib.hid hMt
      obtain ⟨z, hz⟩ : ∃ z : Int, (x : Int) = z := ⟨_, rfl⟩
      rw [hz] at HP
      have HZ := Lib.hid hz
      rw [hn] at RZ HP ⊢
      clear hgx htk hdk hx hn hz hMt
      go_wp2_with fail
      refine HP.out.mono ?_
      rintro e w2 ⟨rfl, hg2⟩
      have GX := Lib.hid hg2
      have hrow := RZ.out.row
      rw [HN.out.1] at hrow
      have hrow2 := row_kp hrow fun g hg => hg2.2.1 g (.inr hg)
      have HB2 := Lib.hid (hg2.1.below' (box_below w2 #[.int .u32 z] 38))
      have HRW := Lib.hid (hrow2.alloc (.cells #[.int .u32 z] 38))
      have HSZ := Lib.hid (show v.heap.size ≤ w2.heap.size from Nat.le_trans RZ.out.sz hg2.2.2)
      clear hg2 hrow hrow2 HP
      go_wp2_with (at_builtin; refine wpList_append_own_at _ rfl (.tmp 30) (.tmp 32) 39 rfl v.heap.size 38 i0 (.int .u32 0) 1 4 Try.underlying39 hi hz0 hz1 hz2 rfl (by decide) (.slice p n kc) n ((ints (keys.drop (t1 + 1)).reverse).map (Value.int .u32)) rfl HRW.out ⟨w2.heap.size, 0, none⟩ 1 1 [.int .u32 z] rfl rfl (cell_one_new _ _ _) (by simp [Value.oneCell']) (by have := HN.out; unfold maxLen; omega) (by have := HN.out; omega) (by have := HSZ.out; simp; omega) ?_; intro v' w3 ho3 hg3 hn3 hb3)
      have hs3 := hg3.size
      have hbx := box_below w2 #[.int .u32 z] 38
      have h3 : Rz w0 v w3 b K B (M : Int) keys t1 X v' := by
        have hs2 : (w2.alloc (.cells #[.int .u32 z] 38)).heap.size = w2.heap.size + 1 := by simp
        have hlt' : ∀ g, v'.ownBlock = some g → g < w3.heap.size := fun g hg => (ho3.lt g hg).2
        have hvb : v'.ownBlock = (Value.slice p n kc).ownBlock ∨ ∃ g, v'.ownBlock = some g ∧ (w2.alloc (.cells #[.int .u32 z] 38)).heap.size ≤ g := by
          rcases hb3 with e | e
          · exact .inl e
          · exact .inr ⟨_, e, Nat.le_refl _⟩
        refine ⟨HB2.out.app HRW.out (by have := HB.out.size; omega) hg3 hvb hlt', ?_, fun k hk => ?_, by have := HSZ.out; omega, HXL.out⟩
        · rw [HN.out.2.1, HD.out]
          have e : (ints ((keys.drop (t1 + 1)).reverse ++ [x])).map (Value.int .u32) = (ints (keys.drop (t1 + 1)).reverse).map (Value.int .u32) ++ [.int .u32 z] := by rw [← HZ.out]; unfold ints; simp
          rw [e]
          exact ho3
        · have hkl : k < w2.heap.size := by
            obtain ⟨_, _, _, _, _, _, _, _, _, _, _, _, _, _, _, _, _, _, _, _, _, _, h8⟩ := GX.out.1
            exact h8 k (.inl hk)
          refine ((hg3.block k (by omega) fun e => ?_).trans (hbx.block k hkl)).trans ((GX.out.2.1 k (.inl hk)).trans (RZ.out.xk k hk))
          have h1 := (HRW.out.lt k e.symm).1
          have h2 := HXL.out k hk
          omega
      have H3 := Lib.hid h3
      have hsl : slen v' = n + 1 := by
        obtain ⟨q', k', rfl, -, -⟩ := App.own_form ho3
        rfl
      refine ⟨Lib.hid ⟨t1, by have := HT.out; omega, by have := HM.out; omega, H3.out⟩, ?_⟩
      rw [hsl]
      have := HN.out
      show 1000001 - (n + 1) < 1000001 - (keys.length - (t1 + 1))
      omega
    · have i1 : ¬ (M : Int) < (t : Int) := by omega
      have hr := RZ.out.row
      have hfin : keys.length - t = keys.length - M ∧ keys.drop t = keys.drop M ∧ keys.take t = keys.take M := by
        rcases HT.out.2 with h | h
        · obtain rfl : t = M := by omega
          exact ⟨rfl, rfl, rfl⟩
        · subst h
          exact ⟨by omega, by rw [List.drop_length, List.drop_of_length_le (by omega)], by rw [List.take_length, List.take_of_length_le (by omega)]⟩
      have HF := Lib.hid hfin
      rw [hfin.1, hfin.2.1] at hr
      have HR := Lib.hid hr
      have HG := Lib.hid (show GxR w0 v wr b K B (M : Int) (keys.take M) X from ⟨hfin.2.2 ▸ RZ.out.gx.only fun k hk => .inl hk, RZ.out.xk, RZ.out.sz⟩)
      rw [hfin.1]
      clear hr hfin RZ hMt
      go_wp2_with fail
      go_returns
      exact ⟨_, rfl, HR.out, HG.out⟩
end Go.Proofs.Ytggimkfepcgaoaa.Gho
end
