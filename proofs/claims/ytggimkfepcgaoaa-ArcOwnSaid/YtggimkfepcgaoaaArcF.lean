/-
  Adaptive replacement (layer 29): again, for the ghosts of often.
-/
import Derived.Test.YtggimkfepcgaoaaArqG
set_option linter.unusedVariables false
set_option linter.unusedSimpArgs false
namespace Go.Proofs.Ytggimkfepcgaoaa.Arc
open Go Go.RowKit Kit Go.Maps Lnk Gho
section
variable {w0 v : World} {o K s : Nat} {t : Int} {b : Nat → Nat} {L : Nat → List Nat} {X : Nat → Prop}
def ldT3 : Op := Op.load 3 (.tmp 36)
set_option maxRecDepth 100000 in
set_option maxHeartbeats 4000000 in
theorem again_three (h : Ax w0 v o K s t b L X) (hs : 1 ≤ s) (hs2 : s ≤ 1024) (ht : 0 ≤ t ∧ t ≤ 1024) (hL : ∀ i, i < 4 → (L i).length ≤ 4096) (hn : 1 ≤ (L 3).length) {left : Bool} {x : Nat} {L' : Nat → List Nat}
    (hroom : ∀ u Y, Ax w0 u o K s (tgt3 t L) b L Y → Calls Try.prog 152 #[ap o, .bool true] u fun e w' => RoomQ w0 u o K s (tgt3 t L) b Y left x L' e w') :
    Calls Try.prog 127 #[ap o, .int .i64 3] v fun e w' => e = .returned (tv false left (x : Int)) ∧ AxR w0 v w' o (K + 1) s (tgt3 t L) b L' X := by
  have hb0 : Below v.heap.size v (v.alloc (.cells #[.bool false, .bool false, .int .u32 0] 110)) := by go_grown
  have hx0 := (MapKept.heap_alloc v (.cells #[.bool false, .bool false, .int .u32 0] 110)).1
  have HRM := Lib.hid hroom
  have HX := Lib.hid h
  have HL := Lib.hid (len_one h hL)
  have HI := Lib.hid (show (∀ k, X k → k < v.heap.size) ∧ w0.heap.size ≤ v.heap.size from ⟨h.xlt, h.bl.size⟩)
  obtain ⟨c0, c1, -, -, -, -, cf⟩ := (h.below' hb0).cells
  have ho : o < (v.alloc (.cells #[.bool false, .bool false, .int .u32 0] 110)).heap.size := (h.below' hb0).olt
  have hl2 := hL 2 (by omega)
  have hl3 := hL 3 (by omega)
  unfold tgt3
  unfold tgt3 at HRM
  obtain ⟨m2, hm2⟩ : ∃ m, (L 2).length = m := ⟨_, rfl⟩
  obtain ⟨m3, hm3⟩ : ∃ m, (L 3).length = m := ⟨_, rfl⟩
  rw [hm2, hm3] at HRM ⊢
  rw [hm3] at hn hl3
  rw [hm2] at hl2
  obtain ⟨q, hq⟩ : ∃ q, Int.tdiv (m2 : Int) (m3 : Int) = q := ⟨_, rfl⟩
  have hq0 : 0 ≤ q := by rw [← hq]; exact Int.tdiv_nonneg (by omega) (by omega)
  have hq1 : q ≤ 4096 := by rw [← hq]; exact Int.le_trans (Int.tdiv_le_self _ (by omega)) (by omega)
  rw [hq] at HRM ⊢
  obtain ⟨M, hM⟩ : ∃ M : Int, max 1 q = M := ⟨_, rfl⟩
  have hM2 : 1 ≤ M ∧ M ≤ 4096 := by omega
  rw [hM] at HRM ⊢
  obtain ⟨T, hT⟩ : ∃ T : Int, max 0 (t - M) = T := ⟨_, rfl⟩
  rw [hT] at HRM ⊢
  have hmx : (if 1 < q then q else 1) = M := by split <;> omega
  have hmn : (if M < t then t - M else 0) = T := by split <;> omega
  clear hM hT
  have HQ := Lib.hid hq
  have HM := Lib.hid (And.intro hm2 hm3)
  clear hq hm2 hm3 h hL hroom
  have hsz : (v.alloc (.cells #[.bool false, .bool false, .int .u32 0] 110)).heap.size = v.heap.size + 1 := by simp
  go_enter Try.func127, Try.ntmps127
  go_upto_region 6 with fail
  generalize v.alloc (.cells #[.bool false, .bool false, .int .u32 0] 110) = v1 at *
  have X0 := Lib.hid hx0
  have B0 := Lib.hid hb0
  have SZ := Lib.hid hsz
  have wq := IntWalk.i64_in q (by omega)
  have wt := IntWalk.i64_in (t - M) (by omega)
  have hz0 : ((m3 : Int) == 0) = false := by rw [beq_eq_false_iff_ne]; omega
  have hz1 : ¬ m3 = 0 := by omega
  have hz2 : ¬ (m3 : Int) = 0 := by omega
  have hz3 : (0 : Int) < (m3 : Int) := by omega
  have HY := Lib.hid (show ∀ u, Below (v1.setCell ⟨o, 1, none⟩ (.int .i64 T)).heap.size (v1.setCell ⟨o, 1, none⟩ (.int .i64 T)) u → AxR w0 v1 u o K s T b L (fun k => X k ∨ k = v.heap.size) from fun u hb => by
    have h1 := (HX.out.below B0.out).only (X' := fun k => X k ∨ k = v.heap.size) fun k hk => hk.imp id fun e => by have := SZ.out; omega
    obtain ⟨h2, h3, h4⟩ := h1.setT T
    exact ⟨h2.below' hb, fun k hk => (hb.block k (h2.xlt k hk)).trans (h3 k hk), Nat.le_trans h4 hb.size⟩)
  have HLL := Lib.hid (show ∀ u, Below v1.heap.size v1 u → ∀ g, (u.cell? ⟨g, 0, none⟩ = some (.int .i64 2) → Calls Try.prog 130 #[ap o, .slice (some ⟨g, 0, none⟩) 1 1] u fun e w' => e = .returned (.int .i64 (m2 : Int)) ∧ u = w') ∧ (u.cell? ⟨g, 0, none⟩ = some (.int .i64 3) → Calls Try.prog 130 #[ap o, .slice (some ⟨g, 0, none⟩) 1 1] u fun e w' => e = .returned (.int .i64 (m3 : Int)) ∧ u = w') from fun u hb g => by
    rw [← HM.out.1, ← HM.out.2]
    exact ⟨HL.out u (tr B0.out hb) 2 g (by omega), HL.out u (tr B0.out hb) 3 g (by omega)⟩)
  have hq := HQ.out
  clear hb0 hx0 hsz HL
  go_cut [] from 33 to 52 (fun wx => Hid (AxR w0 v1 wx o K s T b L (fun k => X k ∨ k = v.heap.size)))
  case first =>
    clear hM2 hq0 hq1 hl2 hl3 hn hs hs2 ht
    have HS := Lib.hid (fun u (hb : Below v1.heap.size v1 u) => (show u.cell? ⟨o, 0, none⟩ = some (.int .i64 (s : Int)) ∧ Hid (Kp (fun j => j = o) v1 u) from by
      have h1 := (HX.out.below' (tr B0.out hb)).cells.1
      exact ⟨h1, Lib.hid (Kp.of hb)⟩))
    have HS2 := Lib.hid (fun u (hb : Below (v1.setCell ⟨o, 1, none⟩ (.int .i64 T)).heap.size (v1.setCell ⟨o, 1, none⟩ (.int .i64 T)) u) => (show u.cell? ⟨o, 0, none⟩ = some (.int .i64 (s : Int)) ∧ Hid (Kp (fun j => j = o) v1 u) from by
      have h1 := (HY.out u hb).1.cells.1
      have hb2 := (Below.refl o v1).setCell (p := ⟨o, 1, none⟩) (Nat.le_refl _) (.int .i64 T)
      exact ⟨h1, Lib.hid (Kp.tr ⟨hb2.os, hb2.tape, hb2.output, hb2.size, fun j hj hn => Below.heap_setCell v1 ⟨o, 1, none⟩ _ j hn⟩ hb)⟩))
    have K0 := Lib.hid (HS.out (v1.drew) (by go_grown))
    have K1 := Lib.hid (HS.out ((v1.alloc (.cells #[.int .i64 3] 3)).drew) (by go_grown))
    have K2 := Lib.hid (HS.out ((v1.alloc (.cells #[.int .i64 2] 3)).drew) (by go_grown))
    have K3 := Lib.hid (HS.out (((v1.alloc (.cells #[.int .i64 3] 3)).alloc (.cells #[.int .i64 2] 3)).drew) (by go_grown))
    have K4 := Lib.hid (HS.out (((v1.alloc (.cells #[.int .i64 2] 3)).alloc (.cells #[.int .i64 3] 3)).drew) (by go_grown))
    have K5 := Lib.hid (HS2.out ((((v1.setCell ⟨o, 1, none⟩ (.int .i64 T)).alloc (.cells #[.int .i64 3] 3)).alloc (.cells #[.int .i64 2] 3)).drew) (by go_grown))
    have K6 := Lib.hid (HS2.out ((((v1.setCell ⟨o, 1, none⟩ (.int .i64 T)).alloc (.cells #[.int .i64 2] 3)).alloc (.cells #[.int .i64 3] 3)).drew) (by go_grown))
    have hld : ldT3 = Op.load 3 (.tmp 36) := rfl
    rw [← hld]
    go_region_held3 (fun u => u.cell? ⟨o, 0, none⟩ = some (.int .i64 (s : Int)) ∧ Hid (Kp (fun j => j = o) v1 u))
      (first
        | assumption
        | with_reducible exact K0.out
        | with_reducible exact K1.out
        | with_reducible exact K2.out
        | with_reducible exact K3.out
        | with_reducible exact K4.out
        | with_reducible exact K5.out
        | with_reducible exact K6.out
        | fail)
      (first
        | (go_at_call 130; have h9 := FLAG; refine ((HLL.out _ (by go_grown) _).2 (by go_simp)).mono ?_; rintro e u2 ⟨rfl, rfl⟩)
        | (go_at_call 130; refine ((HLL.out _ (by go_grown) _).1 (by go_simp)).mono ?_; rintro e u2 ⟨rfl, rfl⟩; have FLAG := True.intro)
        | fail)
    all_goals (go_wp2_with fail; go_meet; case rel => exact Lib.hid (HY.out _ (by go_grown)))
  case rest =>
    have HR := hcut
    have hbx := (HR.out.2.1 v.heap.size (.inr rfl)).trans X0.out
    have HBX := Lib.hid hbx
    have HRO := Lib.hid (HRM.out _ _ HR.out.1)
    clear hcut hbx HQ hq wq wt hz0 hz1 hz2 hz3 hM2 hq0 hq1 hl2 hl3 hn hs hs2 ht HY HLL HRM c0 c1 cf ho
    go_wp2_with fail
    refine HRO.out.mono ?_
    rintro e w4 ⟨rfl, hr⟩
    have HR2 := Lib.hid (HR.out.trans hr)
    have hx5 := (HR2.out.2.1 v.heap.size (.inr rfl)).trans X0.out
    obtain ⟨z0, z1, z2, zf⟩ := tbox hx5
    have X5 := Lib.hid hx5
    clear hr hx5
    go_wp2_with fail
    obtain ⟨hx6, hk6⟩ := tset (d0 := .bool false) (d1 := .bool left) (d2 := .int .u32 (x : Int)) X5.out
    generalize ((w4.setCell ⟨v.heap.size, 0, none⟩ (.bool false)).setCell ⟨v.heap.size, 1, none⟩ (.bool left)).setCell ⟨v.heap.size, 2, none⟩ (.int .u32 (x : Int)) = w6 at *
    obtain ⟨y0, y1, y2, -⟩ := tbox hx6
    exact bodyPost_ret (v := tv false left (x : Int)) (by simp [results, Try.results127, go_sem, y0, y1, y2]) rfl ⟨rfl, AxR.unbox (Y := fun k => X k ∨ k = v.heap.size) B0.out (fun k hk => .inl hk) HI.out.1 (Nat.le_refl _) (.inr rfl) HI.out.2 HR2.out hk6⟩
end
end Go.Proofs.Ytggimkfepcgaoaa.Arc
