/-
  Links (layer 14): Copy.
-/
import Derived.Test.YtggimkfepcgaoaaLnkBc
import Derived.Test.YtggimkfepcgaoaaGhoP
import Derived.Shelf.SlMaps.Clone
set_option linter.unusedVariables false
set_option linter.unusedSimpArgs false
section
namespace Go.Proofs.Ytggimkfepcgaoaa.Lnk
open Go Go.RowKit Kit
/-- the cells of a row of nodes -/
def ndC (F : Fd) (j : Nat) : Value := if j % 3 = 0 then .int .u32 (F.pv (j / 3) : Int) else if j % 3 = 1 then .int .u32 (F.nx (j / 3) : Int) else .int .i32 (F.hd (j / 3))
def cellsN (F : Fd) (M : Nat) : List Value := (List.range (M * 3)).map (ndC F)
theorem cellsN_len (F : Fd) (M : Nat) : (cellsN F M).length = M * 3 := by unfold cellsN; simp
theorem cellsN_at {F : Fd} {M j : Nat} {u : Value} (h : (cellsN F M)[j]? = some u) : j < M * 3 ∧ u = ndC F j := by
  unfold cellsN at h
  rw [List.getElem?_map] at h
  by_cases hj : j < M * 3
  · rw [List.getElem?_range hj] at h
    simp at h
    exact ⟨hj, h.symm⟩
  · rw [List.getElem?_eq_none (by simp; omega)] at h
    cases h
theorem cellsN_get {F : Fd} {M j : Nat} (hj : j < M * 3) : (cellsN F M)[j]? = some (ndC F j) := by
  unfold cellsN
  rw [List.getElem?_map, List.getElem?_range hj]
  rfl
theorem cellsN_one (F : Fd) (M : Nat) : ∀ u ∈ cellsN F M, u.oneCell' = true := fun u hu => by
  obtain ⟨j, hj⟩ := List.mem_iff_getElem?.1 hu
  rw [(cellsN_at hj).2]
  unfold ndC
  split
  · rfl
  · split <;> rfl
theorem Fw.news {w : World} {q M : Nat} {F : Fd} (h : Fw w q M F) (j : Nat) (u : Value) (hu : (cellsN F M)[j]? = some u) : w.cell? ((⟨q, 0, none⟩ : Addr).add j) = some u := by
  obtain ⟨hj, rfl⟩ := cellsN_at hu
  rw [show (⟨q, 0, none⟩ : Addr).add j = ⟨q, j, none⟩ from by unfold Addr.add; split <;> simp_all]
  obtain ⟨e0, e1, e2⟩ := h.at_ (i := j / 3) (by omega)
  unfold ndC
  split
  · rw [show j = j / 3 * 3 by omega]; simpa using e0
  · split
    · have : j = j / 3 * 3 + 1 := by omega
      rw [← this] at e1
      exact e1
    · have : j = j / 3 * 3 + 2 := by omega
      rw [← this] at e2
      exact e2
theorem fw_own {w : World} {B M : Nat} {v : Value} {F : Fd} (h : w.ownsRow B 129 3 v M (cellsN F M)) (hM : 1 ≤ M) : ∃ g cap, v = .slice (some ⟨g, 0, none⟩) M cap ∧ Fw w g M F ∧ B ≤ g := by
  obtain ⟨h0, ⟨hv, hn⟩ | ⟨g, cap, cur, hv, hb, hg, hc, hm, hs, ht⟩⟩ := h
  · omega
  · refine ⟨g, cap, hv, ⟨cur, hg, fun i hi => ?_⟩, hb⟩
    have key : ∀ j, j < M * 3 → cur[j]? = some (ndC F j) := fun j hj => by
      have := cellsN_get (F := F) hj
      rw [← ht, List.getElem?_take, if_pos hj] at this
      simpa using this
    refine ⟨(key _ (by omega)).trans ?_, (key _ (by omega)).trans ?_, (key _ (by omega)).trans ?_⟩
    · unfold ndC; rw [if_pos (by omega), show i * 3 / 3 = i by omega]
    · unfold ndC; rw [if_neg (by omega), if_pos (by omega), show (i * 3 + 1) / 3 = i by omega]
    · unfold ndC; rw [if_neg (by omega), if_neg (by omega), show (i * 3 + 2) / 3 = i by omega]
theorem nd_parts : ∃ i, Try.prog.info? 129 = some i ∧ i.zero = some (.agg #[.int .u32 0, .int .u32 0, .int .i32 0]) ∧ i.size = 3 ∧ i.bytes = 12 := by
  have h := node_info
  cases hi : Try.prog.info? 129 with
  | none => rw [hi] at h; cases h
  | some i => rw [hi] at h; simp at h; exact ⟨i, rfl, h.1, h.2.1, h.2.2⟩
set_option maxRecDepth 100000 in
set_option maxHeartbeats 1000000 in
theorem cloneN_any {W : World} {q M cq : Nat} {F : Fd} (H : Fw W q M F) (h1 : 1 ≤ M) (h2 : M ≤ 5000000) :
    Calls Try.prog 136 #[.slice (some ⟨q, 0, none⟩) M cq] W fun e w' => (∃ g cap, e = .returned (.slice (some ⟨g, 0, none⟩) M cap) ∧ Fw w' g M F ∧ W.heap.size ≤ g) ∧ Below W.heap.size W w' := by
  have q22 : ∀ (w : World) (a : Option Addr) (n c n' c' : Nat), (binOp .eql 124 (.slice a n c) (.slice none n' c')).run Try.prog w = .ok (.bool a.isNone) w := fun w a n c n' c' => Lib.run_eql_slice_nil w _ _ a n c n' c' Try.underlying124
  obtain ⟨i0, hi0, hz0, hz1, hz2⟩ := nd_parts
  have HNW := Lib.hid (fun w' (hb : Below W.heap.size W w') => (H.of (hb.block q H.lt)).news)
  clear H
  go_enter Try.func136, Try.ntmps136
  go_wp2_with (at_builtin; refine wpList_append_own _ rfl (.tmp 5) (.tmp 6) 124 rfl W.heap.size 129 i0 (.agg #[.int .u32 0, .int .u32 0, .int .i32 0]) 3 12 Try.underlying124 hi0 hz0 hz1 hz2 rfl (by decide) _ 0 _ rfl (World.ownsRow_made W #[] 0 (Nat.le_refl _) (Nat.zero_le _) rfl) ⟨q, 0, none⟩ M cq (cellsN F M) rfl (cellsN_len F M) (HNW.out _ (by go_grown)) (cellsN_one F M) (by unfold maxLen; omega) (by omega) (by simp) ?_)
  intro v' w1 hown hgrow _
  obtain ⟨g, cap', rfl, hFw, hbg⟩ := fw_own hown h1
  have hb : Below W.heap.size W w1 := (by go_grown : Below W.heap.size W (W.alloc (.cells #[] 129))).grown hgrow (by simp) (fun k hk => by simp [Value.ownBlock] at hk; omega)
  have HR := Lib.hid hFw
  have HB := Lib.hid hb
  clear hFw hb hown hgrow
  go_wp2
  go_ret
  exact ⟨⟨g, cap', rfl, HR.out, hbg⟩, HB.out⟩
def cellsI (Ls : List (List Nat)) : List Value := Ls.map fun l => .int .i64 (l.length : Int)
theorem Lw.news {w : World} {r : Nat} {Ls : List (List Nat)} (h : Lw w r Ls) (j : Nat) (u : Value) (hu : (cellsI Ls)[j]? = some u) : w.cell? ((⟨r, 0, none⟩ : Addr).add j) = some u := by
  rw [show (⟨r, 0, none⟩ : Addr).add j = ⟨r, j, none⟩ from by unfold Addr.add; split <;> simp_all]
  unfold cellsI at hu
  rw [List.getElem?_map] at hu
  cases hx : Ls[j]? with
  | none => rw [hx] at hu; cases hu
  | some l =>
    rw [hx] at hu
    cases hu
    exact (h.at_ hx).1
theorem lw_own {w : World} {B H : Nat} {v : Value} {Ls : List (List Nat)} (h : w.ownsRow B 3 1 v H (cellsI Ls)) (hM : 1 ≤ H) : ∃ g cap, v = .slice (some ⟨g, 0, none⟩) H cap ∧ Lw w g Ls ∧ B ≤ g := by
  obtain ⟨h0, ⟨hv, hn⟩ | ⟨g, cap, cur, hv, hb, hg, hc, hm, hs, ht⟩⟩ := h
  · omega
  · refine ⟨g, cap, hv, ⟨cur, hg, fun k l hl => ?_⟩, hb⟩
    have : (cellsI Ls)[k]? = some (.int .i64 (l.length : Int)) := by unfold cellsI; rw [List.getElem?_map, hl]; rfl
    rw [← ht, List.getElem?_take] at this
    split at this
    · simpa using this
    · cases this
theorem in_parts : ∃ i, Try.prog.info? 3 = some i ∧ i.zero = some (.int .i64 0) ∧ i.size = 1 ∧ i.bytes = 8 := by
  have h := int_info
  cases hi : Try.prog.info? 3 with
  | none => rw [hi] at h; cases h
  | some i => rw [hi] at h; simp at h; exact ⟨i, rfl, h.1, h.2.1, h.2.2⟩
set_option maxRecDepth 100000 in
set_option maxHeartbeats 1000000 in
theorem cloneI_any {W : World} {r H cr : Nat} {Ls : List (List Nat)} (HL : Lw W r Ls) (hH : Ls.length = H) (h1 : 1 ≤ H) (h2 : H ≤ 5000000) :
    Calls Try.prog 137 #[.slice (some ⟨r, 0, none⟩) H cr] W fun e w' => (∃ g cap, e = .returned (.slice (some ⟨g, 0, none⟩) H cap) ∧ Lw w' g Ls ∧ W.heap.size ≤ g) ∧ Below W.heap.size W w' := by
  have q22 : ∀ (w : World) (a : Option Addr) (n c n' c' : Nat), (binOp .eql 125 (.slice a n c) (.slice none n' c')).run Try.prog w = .ok (.bool a.isNone) w := fun w a n c n' c' => Lib.run_eql_slice_nil w _ _ a n c n' c' Try.underlying125
  obtain ⟨i0, hi0, hz0, hz1, hz2⟩ := in_parts
  have HNW := Lib.hid (fun w' (hb : Below W.heap.size W w') => (HL.of (hb.block r HL.lt)).news)
  have HC := Lib.hid (show (cellsI Ls).length = H * 1 from by unfold cellsI; rw [List.length_map, hH, Nat.mul_one])
  have HO := Lib.hid (show ∀ u ∈ cellsI Ls, u.oneCell' = true from fun u hu => by unfold cellsI at hu; obtain ⟨l, _, rfl⟩ := List.mem_map.1 hu; rfl)
  clear HL hH
  go_enter Try.func137, Try.ntmps137
  go_wp2_with (at_builtin; refine wpList_append_own _ rfl (.tmp 5) (.tmp 6) 125 rfl W.heap.size 3 i0 (.int .i64 0) 1 8 Try.underlying125 hi0 hz0 hz1 hz2 rfl (by decide) _ 0 _ rfl (World.ownsRow_made W #[] 0 (Nat.le_refl _) (Nat.zero_le _) rfl) ⟨r, 0, none⟩ H cr (cellsI Ls) rfl HC.out (HNW.out _ (by go_grown)) HO.out (by unfold maxLen; omega) (by omega) (by simp) ?_)
  intro v' w1 hown hgrow _
  obtain ⟨g, cap', rfl, hFw, hbg⟩ := lw_own hown h1
  have hb : Below W.heap.size W w1 := (by go_grown : Below W.heap.size W (W.alloc (.cells #[] 3))).grown hgrow (by simp) (fun k hk => by simp [Value.ownBlock] at hk; omega)
  have HR := Lib.hid hFw
  have HB := Lib.hid hb
  clear hFw hb hown hgrow
  go_wp2
  go_ret
  exact ⟨⟨g, cap', rfl, HR.out, hbg⟩, HB.out⟩
set_option maxRecDepth 100000 in
set_option maxHeartbeats 1000000 in
theorem Copy_any {w : World} {c q r cq cr N : Nat} {F : Fd} {Ls : List (List Nat)} (H : Lo w c q r cq cr N F Ls) :
    Calls Try.prog 81 #[.pointer (some ⟨c, 0, none⟩)] w fun e w' => (∃ c' q' r' cq' cr', e = .returned (.pointer (some ⟨c', 0, none⟩)) ∧ Lo w' c' q' r' cq' cr' N F Ls ∧ w.heap.size ≤ c' ∧ w.heap.size ≤ q' ∧ w.heap.size ≤ r') ∧ Below w.heap.size w w' := by
  have HZ := Lib.hid (isZero_any H)
  have HC := Lib.hid (fun (v : World) (hb : Below w.heap.size w v) => (H.below hb).cells)
  have HN := Lib.hid (fun (v : World) (hb : Below w.heap.size w v) => cloneN_any (cq := cq) (H.below hb).fw (by have := H.n1; omega) (by have := H.n2; have := H.h2; omega))
  have HI := Lib.hid (fun (v : World) (hb : Below w.heap.size w v) => cloneI_any (cr := cr) (H.below hb).lw rfl H.h1 (by have := H.h2; omega))
  obtain ⟨k0, k1, k2⟩ := H.cells
  have HH := Lib.hid H
  clear H
  go_enter Try.func81, Try.ntmps81
  go_wp2_with fail
  refine HZ.out.mono ?_
  rintro e w1 ⟨rfl, rfl⟩
  go_wp2_with fail
  have SC := Lib.hid (fun (v : World) (hb : Below w.heap.size w v) => (show v.cell? ⟨c, 0, none⟩ = some (.int .i64 (N : Int)) ∧ v.cell? ⟨c, 1, none⟩ = some (.slice (some ⟨q, 0, none⟩) (N + Ls.length) cq) ∧ v.cell? ⟨c, 2, none⟩ = some (.slice (some ⟨r, 0, none⟩) Ls.length cr) ∧ Below w.heap.size w v from ⟨(HC.out v hb).1, (HC.out v hb).2.1, (HC.out v hb).2.2, hb⟩))
  have SK := Lib.hid (fun (v v' : World) (hb : Below v.heap.size v v') (h : v.cell? ⟨c, 0, none⟩ = some (.int .i64 (N : Int)) ∧ v.cell? ⟨c, 1, none⟩ = some (.slice (some ⟨q, 0, none⟩) (N + Ls.length) cq) ∧ v.cell? ⟨c, 2, none⟩ = some (.slice (some ⟨r, 0, none⟩) Ls.length cr) ∧ Below w.heap.size w v) => SC.out v' (tr h.2.2.2 hb))
  have HN2 := Lib.hid (fun (v : World) (h : v.cell? ⟨c, 0, none⟩ = some (.int .i64 (N : Int)) ∧ v.cell? ⟨c, 1, none⟩ = some (.slice (some ⟨q, 0, none⟩) (N + Ls.length) cq) ∧ v.cell? ⟨c, 2, none⟩ = some (.slice (some ⟨r, 0, none⟩) Ls.length cr) ∧ Below w.heap.size w v) => HN.out v h.2.2.2)
  have HI2 := Lib.hid (fun (v : World) (h : v.cell? ⟨c, 0, none⟩ = some (.int .i64 (N : Int)) ∧ v.cell? ⟨c, 1, none⟩ = some (.slice (some ⟨q, 0, none⟩) (N + Ls.length) cq) ∧ v.cell? ⟨c, 2, none⟩ = some (.slice (some ⟨r, 0, none⟩) Ls.length cr) ∧ Below w.heap.size w v) => HI.out v h.2.2.2)
  have SZ := Lib.hid (fun (v : World) (h : v.cell? ⟨c, 0, none⟩ = some (.int .i64 (N : Int)) ∧ v.cell? ⟨c, 1, none⟩ = some (.slice (some ⟨q, 0, none⟩) (N + Ls.length) cq) ∧ v.cell? ⟨c, 2, none⟩ = some (.slice (some ⟨r, 0, none⟩) Ls.length cr) ∧ Below w.heap.size w v) => h.2.2.2.size)
  have SB := Lib.hid (fun (v v' : World) (hb : Below v.heap.size v v') (h : v.cell? ⟨c, 0, none⟩ = some (.int .i64 (N : Int)) ∧ v.cell? ⟨c, 1, none⟩ = some (.slice (some ⟨q, 0, none⟩) (N + Ls.length) cq) ∧ v.cell? ⟨c, 2, none⟩ = some (.slice (some ⟨r, 0, none⟩) Ls.length cr) ∧ Below w.heap.size w v) => tr h.2.2.2 hb)
  go_region_held3 (fun v => v.cell? ⟨c, 0, none⟩ = some (.int .i64 (N : Int)) ∧ v.cell? ⟨c, 1, none⟩ = some (.slice (some ⟨q, 0, none⟩) (N + Ls.length) cq) ∧ v.cell? ⟨c, 2, none⟩ = some (.slice (some ⟨r, 0, none⟩) Ls.length cr) ∧ Below w.heap.size w v)
    (first
      | (exact SC.out _ (Below.drew (Below.refl _ _)))
      | (exact SK.out _ _ bN (by assumption))
      | (exact SK.out _ _ (box_below _ _ _) (by assumption))
      | assumption
      | fail)
    (first
      | (go_at_call 136; refine (HN2.out _ (by assumption)).mono ?_; have z1 := SZ.out _ (by assumption); rintro e u1 ⟨⟨g1, cap1, rfl, fw1, hg1⟩, bN⟩; have FW1 := Lib.hid fw1; have hq1 := Nat.le_trans z1 hg1; clear fw1)
      | (go_at_call 137; refine (HI2.out _ (by assumption)).mono ?_; have z2 := SZ.out _ (by assumption); rintro e u2 ⟨⟨g2, cap2, rfl, lw2, hg2⟩, bN⟩; have LW2 := Lib.hid lw2; have B2 := Lib.hid bN; have BB := Lib.hid (SB.out _ _ bN (by assumption)); clear lw2)
      | fail)
  have f1 := FW1.out.lt
  have f2 := LW2.out.lt
  have f3 := B2.out.size
  have bx := box_below u2 #[.int .i64 (N : Int), .slice (some ⟨g1, 0, none⟩) (N + Ls.length) cap1, .slice (some ⟨g2, 0, none⟩) Ls.length cap2] 127
  have hfin : Lo (u2.alloc (.cells #[.int .i64 (N : Int), .slice (some ⟨g1, 0, none⟩) (N + Ls.length) cap1, .slice (some ⟨g2, 0, none⟩) Ls.length cap2] 127)) u2.heap.size g1 g2 cap1 cap2 N F Ls :=
    ⟨(MapKept.heap_alloc u2 _).1, (FW1.out.of (B2.out.block _ f1)).of (bx.block _ (by omega)), LW2.out.of (bx.block _ f2), HH.out.ring, by omega, by omega, by omega, HH.out.n1, HH.out.n2, HH.out.h1, HH.out.h2⟩
  have HF := Lib.hid hfin
  have HB := Lib.hid (tr BB.out bx)
  have hu2 : w.heap.size ≤ u2.heap.size := BB.out.size
  clear hfin bx
  go_wp2_with fail
  go_ret
  exact ⟨⟨_, _, _, _, _, rfl, HF.out, hu2, hq1, by omega⟩, HB.out⟩
end Go.Proofs.Ytggimkfepcgaoaa.Lnk
end
section
namespace Go.Proofs.Ytggimkfepcgaoaa.Gho
open Go Go.RowKit Kit Go.Maps Go.Shelf Lnk
set_option maxHeartbeats 2000000 in
set_option maxRecDepth 100000 in
theorem mclone_any {m : Nat} {es : Array MapEntry} {clock : Nat} {w : World} (hb : w.heap[m]? = some (.map es clock)) :
    Calls Try.prog 145 #[.map (some m)] w fun e w' => e = .returned (.map (some w.heap.size)) ∧ w' = w.alloc (.map es clock) := by
  have hq := fun w => run_eql_map_nil_sl (P := Try.prog) w 153 _ _ (some m) und_map
  go_enter Try.func145, Try.ntmps145
  go_wp2
  rw [run_callFunc_extern Try.func155 (by kernel_rfl) (by kernel_rfl) (by kernel_rfl) (e := Extern.MapsClone.clone) (by kernel_rfl), run_maps_clone_sl w 153 hb]
  simp only [Result.andThen]
  rw [Oper.upon_value]
  go_wp2
  rw [run_typeAssert_map_sl _ 153 _ _ _ _ und_map]
  simp only [Result.andThen]
  rw [Oper.upon_value]
  go_wp2
  go_ret
  exact ⟨rfl, rfl⟩
theorem row_news {w : World} {B n g k : Nat} {e : TypeId} {xs : List Value} (h : w.ownsRow B e 1 (.slice (some ⟨g, 0, none⟩) n k) n xs) : ∀ j u, xs[j]? = some u → w.cell? ((⟨g, 0, none⟩ : Addr).add j) = some u := fun j u hj => h.cells (g := g) rfl j u hj
set_option maxRecDepth 100000 in
set_option maxHeartbeats 1000000 in
theorem clone32_any {W : World} {g N kc : Nat} {KL : List Nat} (h : W.ownsRow 0 38 1 (.slice (some ⟨g, 0, none⟩) N kc) N ((ints KL).map (Value.int .u32))) (h1 : 1 ≤ N) (h2 : N ≤ 5000000) :
    Calls Try.prog 144 #[.slice (some ⟨g, 0, none⟩) N kc] W fun e w' => (∃ g' k', e = .returned (.slice (some ⟨g', 0, none⟩) N k') ∧ w'.ownsRow 0 38 1 (.slice (some ⟨g', 0, none⟩) N k') N ((ints KL).map (Value.int .u32)) ∧ W.heap.size ≤ g') ∧ Below W.heap.size W w' := by
  have q22 : ∀ (w : World) (a : Option Addr) (n c n' c' : Nat), (binOp .eql 39 (.slice a n c) (.slice none n' c')).run Try.prog w = .ok (.bool a.isNone) w := fun w a n c n' c' => Lib.run_eql_slice_nil w _ _ a n c n' c' Try.underlying39
  obtain ⟨i0, hi0, hz0, hz1, hz2⟩ := u_parts
  have HNW := Lib.hid (fun w' (hb : Below W.heap.size W w') => row_news (own_of (w' := w') h (hb.block g (h.lt g rfl).2)))
  have HC := Lib.hid (show ((ints KL).map (Value.int .u32)).length = N * 1 from by rw [h.1])
  have HO := Lib.hid (show ∀ u ∈ (ints KL).map (Value.int .u32), u.oneCell' = true from fun u hu => by obtain ⟨l, _, rfl⟩ := List.mem_map.1 hu; rfl)
  clear h
  go_enter Try.func144, Try.ntmps144
  go_wp2_with (at_builtin; refine wpList_append_own _ rfl (.tmp 5) (.tmp 6) 39 rfl W.heap.size 38 i0 (.int .u32 0) 1 4 Try.underlying39 hi0 hz0 hz1 hz2 rfl (by decide) _ 0 _ rfl (World.ownsRow_made W #[] 0 (Nat.le_refl _) (Nat.zero_le _) rfl) ⟨g, 0, none⟩ N kc ((ints KL).map (Value.int .u32)) rfl HC.out (HNW.out _ (by go_grown)) HO.out (by unfold maxLen; omega) (by omega) (by simp) ?_)
  intro v' w1 hown hgrow _
  try rw [Nat.zero_add] at hown
  try rw [List.nil_append] at hown
  have hb : Below W.heap.size W w1 := (by go_grown : Below W.heap.size W (W.alloc (.cells #[] 38))).grown hgrow (by simp) (fun k hk => by simp [Value.ownBlock] at hk; omega)
  obtain ⟨N1, rfl⟩ : ∃ N1, N = N1 + 1 := ⟨N - 1, by omega⟩
  obtain ⟨g', k', rfl⟩ := ownsRow_succ hown
  have HR := Lib.hid (App.own_lift hown (Nat.zero_le _))
  have HG := Lib.hid (hown.lt g' rfl).1
  have HB := Lib.hid hb
  clear hb hown hgrow
  go_wp2
  go_ret
  exact ⟨⟨g', k', rfl, HR.out, HG.out⟩, HB.out⟩
set_option maxRecDepth 100000 in
set_option maxHeartbeats 4000000 in
theorem gcopy_any {w : World} {b c q r cq cr N : Nat} {F : Lnk.Fd} {g kc m nm : Nat} {D : DataW Unit} {most : Int} {L fr KL : List Nat} (H : Gh w b c q r cq cr N F g kc m nm D most L fr KL) (hN : N ≤ 5000000) :
    Calls Try.prog 113 #[.pointer (some ⟨b, 0, none⟩)] w fun e w' => (∃ b' c' q' r' cq' cr' g' kc' m', e = .returned (.pointer (some ⟨b', 0, none⟩)) ∧ Gh w' b' c' q' r' cq' cr' N F g' kc' m' nm D most L fr KL ∧ w.heap.size ≤ b' ∧ w.heap.size ≤ c' ∧ w.heap.size ≤ q' ∧ w.heap.size ≤ r' ∧ w.heap.size ≤ g' ∧ w.heap.size ≤ m') ∧ Below w.heap.size w w' := by
  have HZ := Lib.hid (gzero_any H)
  obtain ⟨es, clock, hmap, hrest⟩ := H.mp
  have HMR := Lib.hid (fun (W : World) (m' : Nat) (h : W.heap[m']? = some (.map es clock)) => (⟨es, clock, h, hrest⟩ : W.ownsMap Try.prog 38 (plainElem Try.prog 38) m' nm D))
  have HL2 := Lib.hid (fun (v : World) (hb : Below w.heap.size w v) => Copy_any (H.lo.below hb))
  have HS2 := Lib.hid (fun (v : World) (hb : Below w.heap.size w v) => clone32_any (own_of (w' := v) H.ks (hb.block g H.lt.2.2.2.2.1)) H.lo.n1 hN)
  have HM2 := Lib.hid (fun (v : World) (hb : Below w.heap.size w v) => mclone_any (w := v) ((hb.block m H.lt.2.2.2.2.2).trans hmap))
  have HH := Lib.hid H
  have SC := Lib.hid (fun (v : World) (hb : Below w.heap.size w v) => (show v.cell? ⟨b, 0, none⟩ = some (.int .i64 most) ∧ v.cell? ⟨b, 1, none⟩ = some (.pointer (some ⟨c, 0, none⟩)) ∧ v.cell? ⟨b, 2, none⟩ = some (.slice (some ⟨g, 0, none⟩) N kc) ∧ v.cell? ⟨b, 3, none⟩ = some (.map (some m)) ∧ Below w.heap.size w v from by
    obtain ⟨c0, c1, c2, c3, -⟩ := (H.below hb).cells
    exact ⟨c0, c1, c2, c3, hb⟩))
  have SB := Lib.hid (fun (v : World) (h : v.cell? ⟨b, 0, none⟩ = some (.int .i64 most) ∧ v.cell? ⟨b, 1, none⟩ = some (.pointer (some ⟨c, 0, none⟩)) ∧ v.cell? ⟨b, 2, none⟩ = some (.slice (some ⟨g, 0, none⟩) N kc) ∧ v.cell? ⟨b, 3, none⟩ = some (.map (some m)) ∧ Below w.heap.size w v) => h.2.2.2.2)
  obtain ⟨c0, c1, c2, c3, -⟩ := H.cells
  clear H hmap hrest
  go_enter Try.func113, Try.ntmps113
  go_wp2_with fail
  refine HZ.out.mono ?_
  rintro e w1 ⟨rfl, rfl⟩
  go_wp2_with fail
  go_region_held3 (fun v => v.cell? ⟨b, 0, none⟩ = some (.int .i64 most) ∧ v.cell? ⟨b, 1, none⟩ = some (.pointer (some ⟨c, 0, none⟩)) ∧ v.cell? ⟨b, 2, none⟩ = some (.slice (some ⟨g, 0, none⟩) N kc) ∧ v.cell? ⟨b, 3, none⟩ = some (.map (some m)) ∧ Below w.heap.size w v)
    (first
      | (exact SC.out _ (Below.drew (Below.refl _ _)))
      | (exact SC.out _ (tr (SB.out _ (by assumption)) bN))
      | (exact SC.out _ (tr (SB.out _ (by assumption)) (box_below _ _ _)))
      | assumption
      | fail)
    (first
      | (go_at_call 145; refine (HM2.out _ (SB.out _ (by assumption))).mono ?_; have z3 := SB.out _ (by assumption); rintro e u3 ⟨rfl, hu3⟩; have HU3 := Lib.hid (And.intro z3 hu3); have bN : Below _ _ u3 := hu3 ▸ ((Below.refl _ _).alloc (Nat.le_refl _) _); clear hu3)
      | (go_at_call 144; refine (HS2.out _ (SB.out _ (by assumption))).mono ?_; have z2 := SB.out _ (by assumption); rintro e u2 ⟨⟨g2, k2, rfl, ks2, hg2⟩, bN⟩; have HU2 := Lib.hid (And.intro z2 (And.intro ks2 (And.intro hg2 bN))); clear ks2)
      | (go_at_call 81; refine (HL2.out _ (SB.out _ (by assumption))).mono ?_; have z1 := SB.out _ (by assumption); rintro e u1 ⟨⟨c1', q1', r1', cq1, cr1, rfl, lo1, hc1, hq1, hr1⟩, bN⟩; have HU1 := Lib.hid (And.intro z1 (And.intro lo1 (And.intro hc1 (And.intro hq1 (And.intro hr1 bN))))); clear lo1)
      | fail)
  have hd := HU1.out
  have he := HU2.out
  have hf := HU3.out
  obtain ⟨d1, lo1, d2, d3, d4, d5⟩ := hd
  obtain ⟨e1, ks2, e2, e3⟩ := he
  obtain ⟨f1, f2⟩ := hf
  have s0 : w.drew.heap.size = w.heap.size := rfl
  have s1 := d5.size
  have s2 := e3.size
  have s3 : u3.heap.size = u2.heap.size + 1 := by rw [f2]; simp
  have l1 := lo1.lt
  have l2 := (ks2.lt g2 rfl).2
  have bx := box_below u3 #[.int .i64 most, .pointer (some ⟨c1', 0, none⟩), .slice (some ⟨g2, 0, none⟩) N k2, .map (some u2.heap.size)] 155
  have hm3 : u3.heap[u2.heap.size]? = some (.map es clock) := by rw [f2]; exact (MapKept.heap_alloc u2 _).1
  have hfin : Gh (u3.alloc (.cells #[.int .i64 most, .pointer (some ⟨c1', 0, none⟩), .slice (some ⟨g2, 0, none⟩) N k2, .map (some u2.heap.size)] 155)) u3.heap.size c1' q1' r1' cq1 cr1 N F g2 k2 u2.heap.size nm D most L fr KL :=
    ⟨(MapKept.heap_alloc u3 _).1, ((lo1.below e3).below bN).below bx, own_of (own_of ks2 (bN.block g2 l2)) (bx.block g2 (by omega)), HH.out.kl, HH.out.kw, HMR.out _ _ ((bx.block _ (by omega)).trans hm3), HH.out.mf, HH.out.pt, by omega, by omega, by omega⟩
  have HF := Lib.hid hfin
  have HB := Lib.hid (tr (tr f1 bN) bx)
  have HLE := Lib.hid (show w.heap.size ≤ u3.heap.size ∧ w.heap.size ≤ c1' ∧ w.heap.size ≤ q1' ∧ w.heap.size ≤ r1' ∧ w.heap.size ≤ g2 ∧ w.heap.size ≤ u2.heap.size from by omega)
  clear hfin bx hm3 lo1 ks2 d5 e3 f2 d1 e1 f1 HU1 HU2 HU3 z1 z2 z3 bN
  go_wp2_with fail
  go_ret
  exact ⟨⟨_, _, _, _, _, _, _, _, _, rfl, HF.out, HLE.out⟩, HB.out⟩
/-- the copy, beside the list -/
theorem Gx.copy {w0 v : World} {b K B : Nat} {most : Int} {keys : List Nat} {X : Nat → Prop} (h : Gx w0 v b K B most keys X) (hB : B ≤ 5000000) :
    Calls Try.prog 113 #[.pointer (some ⟨b, 0, none⟩)] v fun e w' => (∃ b', e = .returned (.pointer (some ⟨b', 0, none⟩)) ∧ Gx w0 w' b' K B most keys (fun k => k < v.heap.size)) ∧ Below v.heap.size v w' := by
  obtain ⟨c, q, r, cq, cr, N, F, g, kc, m, nm, D, L, fr, KL, h1, rfl, h3, h4, h5, h6, h7, h8⟩ := h
  refine (gcopy_any h1 (by omega)).mono ?_
  rintro e w' ⟨⟨b', c', q', r', cq', cr', g', kc', m', rfl, k1, k2, k3, k4, k5, k6, k7⟩, k8⟩
  have hs := h6.size
  have hs2 := k8.size
  refine ⟨⟨b', rfl, c', q', r', cq', cr', N, F, g', kc', m', nm, D, L, fr, KL, k1, rfl, h3, h4, by omega, ((Kp.of (bad := fun _ => False) h6).tr k8).below (fun k hk h => h) (Nat.le_refl _), fun k hk hx => ?_, fun k hx => by omega⟩, k8⟩
  rcases hk with h | (h | h | h) | h | h <;> omega
set_option maxRecDepth 100000 in
theorem Gx.resize_bad {w0 v : World} {b K B : Nat} {most : Int} {keys : List Nat} {X : Nat → Prop} (h : Gx w0 v b K B most keys X) (M : Int) (hM : ¬ (0 ≤ M ∧ M ≤ 4096)) :
    Calls Try.prog 46 #[.pointer (some ⟨b, 0, none⟩), .int .i64 M] v fun e w' => e = .returned (.tuple #[.slice none 0 0, .int .i64 2]) ∧ v = w' := by
  have HZ := Lib.hid h.zero
  have HIB := Lib.hid (isBound_any v M)
  rw [decide_eq_false hM] at HIB
  clear h hM
  go_enter Try.func46, Try.ntmps46
  go_wp2_with fail
  refine HZ.out.mono ?_
  rintro e w1 ⟨rfl, rfl⟩
  go_wp2_with fail
  refine HIB.out.mono ?_
  rintro e w1 ⟨rfl, rfl⟩
  go_wp2_with fail
  go_returns
  exact ⟨rfl, rfl⟩
set_option maxRecDepth 100000 in
theorem Gx.pop_none {w0 v : World} {b K B : Nat} {most : Int} {X : Nat → Prop} (h : Gx w0 v b K B most [] X) :
    Calls Try.prog 45 #[.pointer (some ⟨b, 0, none⟩)] v fun e w' => e = .returned (.tuple #[.int .u32 0, .int .i64 9]) ∧ Below v.heap.size v w' := by
  have HZ := Lib.hid h.zero
  obtain ⟨c, q, r, cq, cr, N, F, g, kc, m, nm, D, L, fr, KL, h1, h2, h3, h4, h5, h6, h7, h8⟩ := h
  obtain rfl : L = [] := by unfold kys at h2; exact List.map_eq_nil_iff.1 h2
  have hLA := Last_ok h1.lo (k := 0) (l := []) rfl
  rw [if_neg (by show ¬ N + 0 < N; omega)] at hLA
  have HLA := Lib.hid hLA
  obtain ⟨c0, c1, c2, c3, cf⟩ := h1.cells
  clear h1 hLA
  go_enter Try.func45, Try.ntmps45
  go_wp2_with fail
  refine HZ.out.mono ?_
  rintro e w1 ⟨rfl, rfl⟩
  go_wp2_with fail
  refine HLA.out.mono ?_
  rintro e w1 ⟨rfl, b1⟩
  have B1 := Lib.hid b1
  clear b1
  simp only [nodeR]
  go_wp2_with fail
  go_returns
  exact ⟨rfl, B1.out⟩
end Go.Proofs.Ytggimkfepcgaoaa.Gho
end
section
namespace Go.Proofs.Ytggimkfepcgaoaa.Gho
open Go Go.RowKit Kit Go.Maps Lnk
/-- n lists at b, the blocks of list i have the colour i -/
structure Mg (w0 v : World) (K B : Nat) (b : Nat → Nat) (L : Nat → List Nat) (n : Nat) (col : Nat → Nat) : Prop where
  g : ∀ i, i < n → Gx w0 v (b i) K B 4096 (L i) (fun k => k < v.heap.size ∧ col k ≠ i)
  lo : ∀ k, col k < n → w0.heap.size ≤ k
  bl : Below w0.heap.size w0 v
/-- another list at i -/
def upd (L : Nat → List Nat) (i : Nat) (l : List Nat) : Nat → List Nat := fun j => if j = i then l else L j
/-- the colours behind a step: new blocks have the colour c -/
def ncol (w : World) (col : Nat → Nat) (c : Nat) : Nat → Nat := fun k => if k < w.heap.size then col k else c
theorem ncol_old {w : World} {col : Nat → Nat} {c k : Nat} (h : k < w.heap.size) : ncol w col c k = col k := if_pos h
theorem ncol_new {w : World} {col : Nat → Nat} {c k : Nat} (h : w.heap.size ≤ k) : ncol w col c k = c := if_neg (by omega)
section
variable {w0 v v' : World} {K B n : Nat} {b : Nat → Nat} {L : Nat → List Nat} {col : Nat → Nat}
theorem kp_of {bad : Nat → Prop} (h : Below w0.heap.size w0 v) (h' : Below w0.heap.size w0 v') (hs : v.heap.size ≤ v'.heap.size) (hb : ∀ k, k < v.heap.size → ¬ bad k → v'.heap[k]? = v.heap[k]?) : Kp bad v v' :=
  ⟨h'.os.trans h.os.symm, h'.tape.trans h.tape.symm, h'.output.trans h.output.symm, hs, hb⟩
theorem Mg.op {i K' : Nat} {l' : List Nat} (h : Mg w0 v K B b L n col) (hi : i < n) (hr : GxR w0 v v' (b i) K' B 4096 l' (fun k => k < v.heap.size ∧ col k ≠ i)) (hK : K ≤ K') : Mg w0 v' K' B b (upd L i l') n (ncol v col i) ∧ Kp (fun k => col k = i) v v' := by
  have hk : Kp (fun k => col k = i) v v' := kp_of h.bl hr.1.bl hr.2.2 fun k hk hb => hr.2.1 k ⟨hk, hb⟩
  have hs := h.bl.size
  refine ⟨⟨fun j hj => ?_, fun k hc => ?_, hr.1.bl⟩, hk⟩
  · unfold upd
    by_cases hij : j = i
    · subst hij
      rw [if_pos rfl]
      refine hr.1.only fun k hx => ?_
      by_cases hlt : k < v.heap.size
      · rw [ncol_old hlt] at hx; exact ⟨hlt, hx.2⟩
      · rw [ncol_new (by omega)] at hx; exact absurd rfl hx.2
    · rw [if_neg hij]
      refine (((h.g j hj).aside hk (fun k hb hlt => ⟨hlt, by rw [hb]; exact fun e => hij e.symm⟩) (fun k hx => ?_)).only fun k hx => ?_).mono hK (Nat.le_refl _)
      · by_cases hc : col k = i
        · exact .inl (h.lo k (by omega))
        · exact .inr hc
      · by_cases hlt : k < v.heap.size
        · rw [ncol_old hlt] at hx; exact .inl ⟨hlt, hx.2⟩
        · exact .inr ⟨by omega, hx.1⟩
  · by_cases hlt : k < v.heap.size
    · rw [ncol_old hlt] at hc; exact h.lo k hc
    · omega
/-- a step that changes blocks of none of the lists, at or past w0's end -/
theorem Mg.other {bad : Nat → Prop} {c : Nat} (h : Mg w0 v K B b L n col) (hk : Kp bad v v') (hb : ∀ k, k < v.heap.size → bad k → n ≤ col k ∧ w0.heap.size ≤ k) (hc : n ≤ c) : Mg w0 v' K B b L n (ncol v col c) := by
  have hs := h.bl.size
  have hs' := hk.size
  refine ⟨fun j hj => ?_, fun k hc => ?_, ?_⟩
  · refine ((h.g j hj).aside (bad := fun k => bad k ∧ k < v.heap.size) ⟨hk.os, hk.tape, hk.output, hk.size, fun k hlt hn => hk.block k hlt fun hb => hn ⟨hb, hlt⟩⟩ (fun k hb' hlt => ⟨hlt, by have := (hb k hlt hb'.1).1; omega⟩) (fun k hx => ?_)).only fun k hx => ?_
    · by_cases hbk : bad k ∧ k < v.heap.size
      · exact .inl (hb k hbk.2 hbk.1).2
      · exact .inr hbk
    · by_cases hlt : k < v.heap.size
      · rw [ncol_old hlt] at hx; exact .inl ⟨hlt, hx.2⟩
      · exact .inr ⟨by omega, hx.1⟩
  · by_cases hlt : k < v.heap.size
    · rw [ncol_old hlt] at hc; exact h.lo k hc
    · omega
  · refine ⟨hk.os.trans h.bl.os, hk.tape.trans h.bl.tape, hk.output.trans h.bl.output, by omega, fun k hlt => (hk.block k (by omega) fun hbk => ?_).trans (h.bl.block k hlt)⟩
    have := (hb k (by omega) hbk).2
    omega
theorem Mg.new {c : Nat} (h : Mg w0 v K B b L n col) (hb : Below v.heap.size v v') (hc : n ≤ c) : Mg w0 v' K B b L n (ncol v col c) :=
  h.other (bad := fun _ => False) (Kp.of hb) (fun _ _ h => h.elim) hc
theorem Mg.mono {K' : Nat} (h : Mg w0 v K B b L n col) (hK : K ≤ K') : Mg w0 v K' B b L n col := ⟨fun i hi => (h.g i hi).mono hK (Nat.le_refl _), h.lo, h.bl⟩
theorem Mg.congr {L' : Nat → List Nat} (h : Mg w0 v K B b L n col) (e : ∀ i, i < n → L' i = L i) : Mg w0 v K B b L' n col := ⟨fun i hi => by rw [e i hi]; exact h.g i hi, h.lo, h.bl⟩
end
end Go.Proofs.Ytggimkfepcgaoaa.Gho
end
