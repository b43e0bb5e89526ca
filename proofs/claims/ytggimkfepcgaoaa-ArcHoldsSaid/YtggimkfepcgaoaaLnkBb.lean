/-
  Links (layer 14): Copy.
-/
import Derived.Test.YtggimkfepcgaoaaLnkK
set_option linter.unusedVariables false
set_option linter.unusedSimpArgs false
namespace Go.Proofs.Ytggimkfepcgaoaa.Lnk
open Go Go.RowKit Kit
/-- the cells of a row of nodes -/
def ndC (F : Fd) (j : Nat) : Value := if j % 3 = 0 then .int .u32 (F.pv (j / 3) : Int) else if j % 3 = 1 then .int .u32 (F.nx (j / 3) : Int) else .int .i32 (F.hd (j / 3))
def cellsN (F : Fd) (M : Nat) : List Value := (List.range (M * 3)).map (ndC F)
theorem cellsN_len (F : Fd) (M : Nat) : (cellsN F M).length = M * 3 := by unfold cellsN; simp
theorem cellsN_at {F : Fd} {M j : Nat} {u : Value} (h : (cellsN F M)[j]? = some u) : j < M * 3 ∧ u = ndC F j := by
  unfold cellsN at h
  rw [List.getElem?_map] at h
  by_cases hj : j < M * 3
  · rw [List.getElem?_range hj] at h
    simp at h
    exact ⟨hj, h.symm⟩
  · rw [List.getElem?_eq_none (by simp; omega)] at h
    cases h
theorem cellsN_get {F : Fd} {M j : Nat} (hj : j < M * 3) : (cellsN F M)[j]? = some (ndC F j) := by
  unfold cellsN
  rw [List.getElem?_map, List.getElem?_range hj]
  rfl
theorem cellsN_one (F : Fd) (M : Nat) : ∀ u ∈ cellsN F M, u.oneCell' = true := fun u hu => by
  obtain ⟨j, hj⟩ := List.mem_iff_getElem?.1 hu
  rw [(cellsN_at hj).2]
  unfold ndC
  split
  · rfl
  · split <;> rfl
theorem Fw.news {w : World} {q M : Nat} {F : Fd} (h : Fw w q M F) (j : Nat) (u : Value) (hu : (cellsN F M)[j]? = some u) : w.cell? ((⟨q, 0, none⟩ : Addr).add j) = some u := by
  obtain ⟨hj, rfl⟩ := cellsN_at hu
  rw [show (⟨q, 0, none⟩ : Addr).add j = ⟨q, j, none⟩ from by unfold Addr.add; split <;> simp_all]
  obtain ⟨e0, e1, e2⟩ := h.at_ (i := j / 3) (by omega)
  unfold ndC
  split
  · rw [show j = j / 3 * 3 by omega]; simpa using e0
  · split
    · have : j = j / 3 * 3 + 1 := by omega
      rw [← this] at e1
      exact e1
    · have : j = j / 3 * 3 + 2 := by omega
      rw [← this] at e2
      exact e2
theorem fw_own {w : World} {B M : Nat} {v : Value} {F : Fd} (h : w.ownsRow B 129 3 v M (cellsN F M)) (hM : 1 ≤ M) : ∃ g cap, v = .slice (some ⟨g, 0, none⟩) M cap ∧ Fw w g M F ∧ B ≤ g := by
  obtain ⟨h0, ⟨hv, hn⟩ | ⟨g, cap, cur, hv, hb, hg, hc, hm, hs, ht⟩⟩ := h
  · omega
  · refine ⟨g, cap, hv, ⟨cur, hg, fun i hi => ?_⟩, hb⟩
    have key : ∀ j, j < M * 3 → cur[j]? = some (ndC F j) := fun j hj => by
      have := cellsN_get (F := F) hj
      rw [← ht, List.getElem?_take, if_pos hj] at this
      simpa using this
    refine ⟨(key _ (by omega)).trans ?_, (key _ (by omega)).trans ?_, (key _ (by omega)).trans ?_⟩
    · unfold ndC; rw [if_pos (by omega), show i * 3 / 3 = i by omega]
    · unfold ndC; rw [if_neg (by omega), if_pos (by omega), show (i * 3 + 1) / 3 = i by omega]
    · unfold ndC; rw [if_neg (by omega), if_neg (by omega), show (i * 3 + 2) / 3 = i by omega]
theorem nd_parts : ∃ i, Try.prog.info? 129 = some i ∧ i.zero = some (.agg #[.int .u32 0, .int .u32 0, .int .i32 0]) ∧ i.size = 3 ∧ i.bytes = 12 := by
  have h := node_info
  cases hi : Try.prog.info? 129 with
  | none => rw [hi] at h; cases h
  | some i => rw [hi] at h; simp at h; exact ⟨i, rfl, h.1, h.2.1, h.2.2⟩
set_option maxRecDepth 100000 in
set_option maxHeartbeats 1000000 in
theorem cloneN_any {W : World} {q M cq : Nat} {F : Fd} (H : Fw W q M F) (h1 : 1 ≤ M) (h2 : M ≤ 5000000) :
    Calls Try.prog 136 #[.slice (some ⟨q, 0, none⟩) M cq] W fun e w' => (∃ g cap, e = .returned (.slice (some ⟨g, 0, none⟩) M cap) ∧ Fw w' g M F ∧ W.heap.size ≤ g) ∧ Below W.heap.size W w' := by
  have q22 : ∀ (w : World) (a : Option Addr) (n c n' c' : Nat), (binOp .eql 124 (.slice a n c) (.slice none n' c')).run Try.prog w = .ok (.bool a.isNone) w := fun w a n c n' c' => Lib.run_eql_slice_nil w _ _ a n c n' c' Try.underlying124
  obtain ⟨i0, hi0, hz0, hz1, hz2⟩ := nd_parts
  have HNW := Lib.hid (fun w' (hb : Below W.heap.size W w') => (H.of (hb.block q H.lt)).news)
  clear H
  go_enter Try.func136, Try.ntmps136
  go_wp2_with (at_builtin; refine wpList_append_own _ rfl (.tmp 5) (.tmp 6) 124 rfl W.heap.size 129 i0 (.agg #[.int .u32 0, .int .u32 0, .int .i32 0]) 3 12 Try.underlying124 hi0 hz0 hz1 hz2 rfl (by decide) _ 0 _ rfl (World.ownsRow_made W #[] 0 (Nat.le_refl _) (Nat.zero_le _) rfl) ⟨q, 0, none⟩ M cq (cellsN F M) rfl (cellsN_len F M) (HNW.out _ (by go_grown)) (cellsN_one F M) (by unfold maxLen; omega) (by omega) (by simp) ?_)
  intro v' w1 hown hgrow _
  obtain ⟨g, cap', rfl, hFw, hbg⟩ := fw_own hown h1
  have hb : Below W.heap.size W w1 := (by go_grown : Below W.heap.size W (W.alloc (.cells #[] 129))).grown hgrow (by simp) (fun k hk => by simp [Value.ownBlock] at hk; omega)
  have HR := Lib.hid hFw
  have HB := Lib.hid hb
  clear hFw hb hown hgrow
  go_wp2
  go_ret
  exact ⟨⟨g, cap', rfl, HR.out, hbg⟩, HB.out⟩
def cellsI (Ls : List (List Nat)) : List Value := Ls.map fun l => .int .i64 (l.length : Int)
theorem Lw.news {w : World} {r : Nat} {Ls : List (List Nat)} (h : Lw w r Ls) (j : Nat) (u : Value) (hu : (cellsI Ls)[j]? = some u) : w.cell? ((⟨r, 0, none⟩ : Addr).add j) = some u := by
  rw [show (⟨r, 0, none⟩ : Addr).add j = ⟨r, j, none⟩ from by unfold Addr.add; split <;> simp_all]
  unfold cellsI at hu
  rw [List.getElem?_map] at hu
  cases hx : Ls[j]? with
  | none => rw [hx] at hu; cases hu
  | some l =>
    rw [hx] at hu
    cases hu
    exact (h.at_ hx).1
theorem lw_own {w : World} {B H : Nat} {v : Value} {Ls : List (List Nat)} (h : w.ownsRow B 3 1 v H (cellsI Ls)) (hM : 1 ≤ H) : ∃ g cap, v = .slice (some ⟨g, 0, none⟩) H cap ∧ Lw w g Ls ∧ B ≤ g := by
  obtain ⟨h0, ⟨hv, hn⟩ | ⟨g, cap, cur, hv, hb, hg, hc, hm, hs, ht⟩⟩ := h
  · omega
  · refine ⟨g, cap, hv, ⟨cur, hg, fun k l hl => ?_⟩, hb⟩
    have : (cellsI Ls)[k]? = some (.int .i64 (l.length : Int)) := by unfold cellsI; rw [List.getElem?_map, hl]; rfl
    rw [← ht, List.getElem?_take] at this
    split at this
    · simpa using this
    · cases this
theorem in_parts : ∃ i, Try.prog.info? 3 = some i ∧ i.zero = some (.int .i64 0) ∧ i.size = 1 ∧ i.bytes = 8 := by
  have h := int_info
  cases hi : Try.prog.info? 3 with
  | none => rw [hi] at h; cases h
  | some i => rw [hi] at h; simp at h; exact ⟨i, rfl, h.1, h.2.1, h.2.2⟩
set_option maxRecDepth 100000 in
set_option maxHeartbeats 1000000 in
theorem cloneI_any {W : World} {r H cr : Nat} {Ls : List (List Nat)} (HL : Lw W r Ls) (hH : Ls.length = H) (h1 : 1 ≤ H) (h2 : H ≤ 5000000) :
    Calls Try.prog 137 #[.slice (some ⟨r, 0, none⟩) H cr] W fun e w' => (∃ g cap, e = .returned (.slice (some ⟨g, 0, none⟩) H cap) ∧ Lw w' g Ls ∧ W.heap.size ≤ g) ∧ Below W.heap.size W w' := by
  have q22 : ∀ (w : World) (a : Option Addr) (n c n' c' : Nat), (binOp .eql 125 (.slice a n c) (.slice none n' c')).run Try.prog w = .ok (.bool a.isNone) w := fun w a n c n' c' => Lib.run_eql_slice_nil w _ _ a n c n' c' Try.underlying125
  obtain ⟨i0, hi0, hz0, hz1, hz2⟩ := in_parts
  have HNW := Lib.hid (fun w' (hb : Below W.heap.size W w') => (HL.of (hb.block r HL.lt)).news)
  have HC := Lib.hid (show (cellsI Ls).length = H * 1 from by unfold cellsI; rw [List.length_map, hH, Nat.mul_one])
  have HO := Lib.hid (show ∀ u ∈ cellsI Ls, u.oneCell' = true from fun u hu => by unfold cellsI at hu; obtain ⟨l, _, rfl⟩ := List.mem_map.1 hu; rfl)
  clear HL hH
  go_enter Try.func137, Try.ntmps137
  go_wp2_with (at_builtin; refine wpList_append_own _ rfl (.tmp 5) (.tmp 6) 125 rfl W.heap.size 3 i0 (.int .i64 0) 1 8 Try.underlying125 hi0 hz0 hz1 hz2 rfl (by decide) _ 0 _ rfl (World.ownsRow_made W #[] 0 (Nat.le_refl _) (Nat.zero_le _) rfl) ⟨r, 0, none⟩ H cr (cellsI Ls) rfl HC.out (HNW.out _ (by go_grown)) HO.out (by unfold maxLen; omega) (by omega) (by simp) ?_)
  intro v' w1 hown hgrow _
  obtain ⟨g, cap', rfl, hFw, hbg⟩ := lw_own hown h1
  have hb : Below W.heap.size W w1 := (by go_grown : Below W.heap.size W (W.alloc (.cells #[] 3))).grown hgrow (by simp) (fun k hk => by simp [Value.ownBlock] at hk; omega)
  have HR := Lib.hid hFw
  have HB := Lib.hid hb
  clear hFw hb hown hgrow
  go_wp2
  go_ret
  exact ⟨⟨g, cap', rfl, HR.out, hbg⟩, HB.out⟩
set_option maxRecDepth 100000 in
set_option maxHeartbeats 1000000 in
theorem Copy_any {w : World} {c q r cq cr N : Nat} {F : Fd} {Ls : List (List Nat)} (H : Lo w c q r cq cr N F Ls) :
    Calls Try.prog 81 #[.pointer (some ⟨c, 0, none⟩)] w fun e w' => (∃ c' q' r' cq' cr', e = .returned (.pointer (some ⟨c', 0, none⟩)) ∧ Lo w' c' q' r' cq' cr' N F Ls ∧ w.heap.size ≤ c' ∧ w.heap.size ≤ q' ∧ w.heap.size ≤ r') ∧ Below w.heap.size w w' := by
  have HZ := Lib.hid (isZero_any H)
  have HC := Lib.hid (fun (v : World) (hb : Below w.heap.size w v) => (H.below hb).cells)
  have HN := Lib.hid (fun (v : World) (hb : Below w.heap.size w v) => cloneN_any (cq := cq) (H.below hb).fw (by have := H.n1; omega) (by have := H.n2; have := H.h2; omega))
  have HI := Lib.hid (fun (v : World) (hb : Below w.heap.size w v) => cloneI_any (cr := cr) (H.below hb).lw rfl H.h1 (by have := H.h2; omega))
  obtain ⟨k0, k1, k2⟩ := H.cells
  have HH := Lib.hid H
  clear H
  go_enter Try.func81, Try.ntmps81
  go_wp2_with fail
  refine HZ.out.mono ?_
  rintro e w1 ⟨rfl, rfl⟩
  go_wp2_with fail
  have SC := Lib.hid (fun (v : World) (hb : Below w.heap.size w v) => (show v.cell? ⟨c, 0, none⟩ = some (.int .i64 (N : Int)) ∧ v.cell? ⟨c, 1, none⟩ = some (.slice (some ⟨q, 0, none⟩) (N + Ls.length) cq) ∧ v.cell? ⟨c, 2, none⟩ = some (.slice (some ⟨r, 0, none⟩) Ls.length cr) ∧ Below w.heap.size w v from ⟨(HC.out v hb).1, (HC.out v hb).2.1, (HC.out v hb).2.2, hb⟩))
  have SK := Lib.hid (fun (v v' : World) (hb : Below v.heap.size v v') (h : v.cell? ⟨c, 0, none⟩ = some (.int .i64 (N : Int)) ∧ v.cell? ⟨c, 1, none⟩ = some (.slice (some ⟨q, 0, none⟩) (N + Ls.length) cq) ∧ v.cell? ⟨c, 2, none⟩ = some (.slice (some ⟨r, 0, none⟩) Ls.length cr) ∧ Below w.heap.size w v) => SC.out v' (tr h.2.2.2 hb))
  have HN2 := Lib.hid (fun (v : World) (h : v.cell? ⟨c, 0, none⟩ = some (.int .i64 (N : Int)) ∧ v.cell? ⟨c, 1, none⟩ = some (.slice (some ⟨q, 0, none⟩) (N + Ls.length) cq) ∧ v.cell? ⟨c, 2, none⟩ = some (.slice (some ⟨r, 0, none⟩) Ls.length cr) ∧ Below w.heap.size w v) => HN.out v h.2.2.2)
  have HI2 := Lib.hid (fun (v : World) (h : v.cell? ⟨c, 0, none⟩ = some (.int .i64 (N : Int)) ∧ v.cell? ⟨c, 1, none⟩ = some (.slice (some ⟨q, 0, none⟩) (N + Ls.length) cq) ∧ v.cell? ⟨c, 2, none⟩ = some (.slice (some ⟨r, 0, none⟩) Ls.length cr) ∧ Below w.heap.size w v) => HI.out v h.2.2.2)
  have SZ := Lib.hid (fun (v : World) (h : v.cell? ⟨c, 0, none⟩ = some (.int .i64 (N : Int)) ∧ v.cell? ⟨c, 1, none⟩ = some (.slice (some ⟨q, 0, none⟩) (N + Ls.length) cq) ∧ v.cell? ⟨c, 2, none⟩ = some (.slice (some ⟨r, 0, none⟩) Ls.length cr) ∧ Below w.heap.size w v) => h.2.2.2.size)
  have SB := Lib.hid (fun (v v' : World) (hb : Below v.heap.size v v') (h : v.cell? ⟨c, 0, none⟩ = some (.int .i64 (N : Int)) ∧ v.cell? ⟨c, 1, none⟩ = some (.slice (some ⟨q, 0, none⟩) (N + Ls.length) cq) ∧ v.cell? ⟨c, 2, none⟩ = some (.slice (some ⟨r, 0, none⟩) Ls.length cr) ∧ Below w.heap.size w v) => tr h.2.2.2 hb)
  go_region_held3 (fun v => v.cell? ⟨c, 0, none⟩ = some (.int .i64 (N : Int)) ∧ v.cell? ⟨c, 1, none⟩ = some (.slice (some ⟨q, 0, none⟩) (N + Ls.length) cq) ∧ v.cell? ⟨c, 2, none⟩ = some (.slice (some ⟨r, 0, none⟩) Ls.length cr) ∧ Below w.heap.size w v)
    (first
      | (exact SC.out _ (Below.drew (Below.refl _ _)))
      | (exact SK.out _ _ bN (by assumption))
      | (exact SK.out _ _ (box_below _ _ _) (by assumption))
      | assumption
      | fail)
    (first
      | (go_at_call 136; refine (HN2.out _ (by assumption)).mono ?_; have z1 := SZ.out _ (by assumption); rintro e u1 ⟨⟨g1, cap1, rfl, fw1, hg1⟩, bN⟩; have FW1 := Lib.hid fw1; have hq1 := Nat.le_trans z1 hg1; clear fw1)
      | (go_at_call 137; refine (HI2.out _ (by assumption)).mono ?_; have z2 := SZ.out _ (by assumption); rintro e u2 ⟨⟨g2, cap2, rfl, lw2, hg2⟩, bN⟩; have LW2 := Lib.hid lw2; have B2 := Lib.hid bN; have BB := Lib.hid (SB.out _ _ bN (by assumption)); clear lw2)
      | fail)
  have f1 := FW1.out.lt
  have f2 := LW2.out.lt
  have f3 := B2.out.size
  have bx := box_below u2 #[.int .i64 (N : Int), .slice (some ⟨g1, 0, none⟩) (N + Ls.length) cap1, .slice (some ⟨g2, 0, none⟩) Ls.length cap2] 127
  have hfin : Lo (u2.alloc (.cells #[.int .i64 (N : Int), .slice (some ⟨g1, 0, none⟩) (N + Ls.length) cap1, .slice (some ⟨g2, 0, none⟩) Ls.length cap2] 127)) u2.heap.size g1 g2 cap1 cap2 N F Ls :=
    ⟨(MapKept.heap_alloc u2 _).1, (FW1.out.of (B2.out.block _ f1)).of (bx.block _ (by omega)), LW2.out.of (bx.block _ f2), HH.out.ring, by omega, by omega, by omega, HH.out.n1, HH.out.n2, HH.out.h1, HH.out.h2⟩
  have HF := Lib.hid hfin
  have HB := Lib.hid (tr BB.out bx)
  have hu2 : w.heap.size ≤ u2.heap.size := BB.out.size
  clear hfin bx
  go_wp2_with fail
  go_ret
  exact ⟨⟨_, _, _, _, _, rfl, HF.out, hu2, hq1, by omega⟩, HB.out⟩
end Go.Proofs.Ytggimkfepcgaoaa.Lnk
