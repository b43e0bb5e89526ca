/-
  Second chance (layer 31): Copy.
-/
import Derived.Test.YteppcjolgpdenaaSeqP
set_option linter.unusedVariables false
set_option linter.unusedSimpArgs false
namespace Go.Proofs.Yteppcjolgpdenaa.Seq
open Go Go.RowKit Kit Go.Maps
theorem own_map {W : World} {m N : Nat} {D : DataW Unit} (h : W.ownsMap Try.prog 40 (plainElem Try.prog 3) m N D) :
    ∃ es clock, W.heap[m]? = some (.map es clock) ∧ ∀ (w' : World) (m' : Nat), w'.heap[m']? = some (.map es clock) → w'.ownsMap Try.prog 40 (plainElem Try.prog 3) m' N D := by
  obtain ⟨es, clock, h1, r⟩ := h
  exact ⟨es, clock, h1, fun w' m' h2 => ⟨es, clock, h2, r⟩⟩
theorem copy_obj {W wx : World} {c q m cap N lo hi g cap' : Nat} {l : List Pl} {h : Nat} {D : DataW Unit} {es : Array MapEntry} {clock : Nat} (H : So W c q m cap N lo hi l h D) (M : Mp D l) (HMO : ∀ (w' : World) (m' : Nat), w'.heap[m']? = some (.map es clock) → w'.ownsMap Try.prog 40 (plainElem Try.prog 3) m' (Maps.size D) D)
    (hB : Below W.heap.size W wx) (hRw : Rw wx g l) (hbg : W.heap.size ≤ g) (hc1 : l.length ≤ cap') (hc2 : cap' ≤ maxLen) :
    Sc ((wx.alloc (.map es clock)).alloc (.cells #[.slice (some ⟨g, 0, none⟩) l.length cap', .int .i64 (h : Int), .map (some wx.heap.size)] 58)) (wx.heap.size + 1) W.heap.size (wx.heap.size + 2) l h := by
  have hg := hRw.lt
  have hs := hB.size
  have e0 : ∀ b, b < wx.heap.size → ((wx.alloc (.map es clock)).alloc (.cells #[.slice (some ⟨g, 0, none⟩) l.length cap', .int .i64 (h : Int), .map (some wx.heap.size)] 58)).heap[b]? = wx.heap[b]? := fun b hb =>
    (((Below.refl wx.heap.size wx).alloc (Nat.le_refl _) _).alloc (by simp) _).block b hb
  have e1 := (MapKept.heap_alloc wx (.map es clock)).1
  have e2 : ((wx.alloc (.map es clock)).alloc (.cells #[.slice (some ⟨g, 0, none⟩) l.length cap', .int .i64 (h : Int), .map (some wx.heap.size)] 58)).heap[wx.heap.size]? = some (.map es clock) :=
    ((Below.refl _ (wx.alloc (.map es clock))).alloc (Nat.le_refl _) _ |>.block wx.heap.size (by simp)).trans e1
  have e3 := (MapKept.heap_alloc (wx.alloc (.map es clock)) (.cells #[.slice (some ⟨g, 0, none⟩) l.length cap', .int .i64 (h : Int), .map (some wx.heap.size)] 58)).1
  rw [World.size_alloc] at e3
  exact So.sc (q := g) (m := wx.heap.size) (cap := cap') (N := Maps.size D) (D := D) ⟨e3, hRw.of (e0 g hg), HMO _ _ e2, by rw [M.size]; have := full_le l; have := H.l2; omega, hc1, hc2, by omega, by omega, by omega, by omega, by omega, by omega, H.l1, H.l2, H.hh, H.rng, by simp⟩ M
set_option maxHeartbeats 2000000 in
set_option maxRecDepth 100000 in
theorem copy_any {W : World} {c lo hi : Nat} {l : List Pl} {h : Nat} (H0 : Sc W c lo hi l h) :
    Calls Try.prog 20 #[.pointer (some ⟨c, 0, none⟩)] W fun e w' => ∃ c' hi', e = .returned (.pointer (some ⟨c', 0, none⟩)) ∧ Sc w' c' W.heap.size hi' l h ∧ Below W.heap.size W w' := by
  have HZ := Lib.hid H0.zero
  obtain ⟨q, m, cap, N, D, H, M⟩ := H0.so
  obtain ⟨es, clock, hm, HM⟩ := own_map (tight H.map)
  have HC := Lib.hid (fun w' (hb : Below W.heap.size W w') => clone_any (H.row.of (hb.block q H.row.lt)) H.l1 H.l2 H.lc)
  have HMC := Lib.hid (fun w' (hb : Below W.heap.size W w') => mclone_any (w := w') ((hb.block m (Array.getElem?_eq_some_iff.1 hm).1).trans hm))
  have HCS := Lib.hid (fun w' (hb : Below W.heap.size W w') => (H.keepB hb).cs)
  have HH := Lib.hid H
  have HMM := Lib.hid M
  have HMO := Lib.hid HM
  clear H H0 M HM hm
  obtain ⟨n, hn⟩ : ∃ n, l.length = n := ⟨_, rfl⟩
  have HN := Lib.hid hn
  rw [hn] at HC HCS
  clear hn
  obtain ⟨c0, c1, c2, cf⟩ := HCS.out _ (Below.refl _ _)
  go_enter Try.func20, Try.ntmps20
  go_wp2_with fail
  refine HZ.out.mono ?_
  rintro e w1 ⟨rfl, rfl⟩
  go_wp2_with fail
  have HS := Lib.hid (show ∀ w', Below W.heap.size W w' → (w'.cell? ⟨c, 0, none⟩ = some (.slice (some ⟨q, 0, none⟩) n cap) ∧ w'.cell? ⟨c, 1, none⟩ = some (.int .i64 (h : Int)) ∧ w'.cell? ⟨c, 2, none⟩ = some (.map (some m)) ∧ Below W.heap.size W w') from fun w' hb => by
    obtain ⟨x0, x1, x2, -⟩ := HCS.out w' hb
    exact ⟨x0, x1, x2, hb⟩)
  clear c0 c1 c2 cf
  obtain ⟨c0, c1, c2, -⟩ := HS.out _ (Below.refl _ _)
  go_region_held3 (fun w' => w'.cell? ⟨c, 0, none⟩ = some (.slice (some ⟨q, 0, none⟩) n cap) ∧ w'.cell? ⟨c, 1, none⟩ = some (.int .i64 (h : Int)) ∧ w'.cell? ⟨c, 2, none⟩ = some (.map (some m)) ∧ Below W.heap.size W w')
    (first
      | (exact HS.out _ (Below.drew (Below.refl _ _)))
      | assumption
      | (exact HS.out _ (tr (by assumption : _ ∧ _ ∧ _ ∧ Below W.heap.size W _).2.2.2 o1))
      | (exact HS.out _ ((by assumption : _ ∧ _ ∧ _ ∧ Below W.heap.size W _).2.2.2.alloc (by assumption : _ ∧ _ ∧ _ ∧ Below W.heap.size W _).2.2.2.size _))
      | fail)
    (first
      | (go_at_call 33; refine (HC.out _ (by assumption : _ ∧ _ ∧ _ ∧ Below W.heap.size W _).2.2.2).mono ?_; rintro e w' ⟨g, cap', rfl, hRw, hbg, hc1, hc2, o1⟩; have HB1 := Lib.hid (tr (by assumption : _ ∧ _ ∧ _ ∧ Below W.heap.size W _).2.2.2 o1))
      | (go_at_call 34; refine (HMC.out _ (by assumption : _ ∧ _ ∧ _ ∧ Below W.heap.size W _).2.2.2).mono ?_; rintro e w' ⟨rfl, hmw⟩; have o1 := (show Below _ _ w' from by rw [hmw]; exact (Below.refl _ _).alloc (Nat.le_refl _) _))
      | fail)
  clear o1
  rename_i A1 HA1 wx hh
  have hSc := copy_obj HH.out HMM.out HMO.out HB1.out hRw (by simpa using hbg) (by rw [HN.out]; exact hc1) hc2
  rw [HN.out] at hSc
  have HSc := Lib.hid hSc
  have hs := HB1.out.size
  have HB2 := Lib.hid ((HB1.out.alloc hs (.map es clock)).alloc (by simp; omega) (.cells #[.slice (some ⟨g, 0, none⟩) n cap', .int .i64 (h : Int), .map (some wx.heap.size)] 58))
  clear hSc hh hmw hRw hbg hc1 hc2
  go_wp2_with fail
  go_ret
  exact ⟨_, _, rfl, HSc.out, HB2.out⟩
end Go.Proofs.Yteppcjolgpdenaa.Seq
