/-
  Ghost lists (layer 28): Copy; what goes wrong.
-/
import Derived.Test.YtggimkfepcgaoaaGhoP
import Derived.Test.YtggimkfepcgaoaaLnkBb
import Derived.Shelf.SlMaps.Clone
set_option linter.unusedVariables false
set_option linter.unusedSimpArgs false
namespace Go.Proofs.Ytggimkfepcgaoaa.Gho
open Go Go.RowKit Kit Go.Maps Go.Shelf Lnk
set_option maxHeartbeats 2000000 in
set_option maxRecDepth 100000 in
theorem mclone_any {m : Nat} {es : Array MapEntry} {clock : Nat} {w : World} (hb : w.heap[m]? = some (.map es clock)) :
    Calls Try.prog 145 #[.map (some m)] w fun e w' => e = .returned (.map (some w.heap.size)) ∧ w' = w.alloc (.map es clock) := by
  have hq := fun w => run_eql_map_nil_sl (P := Try.prog) w 153 _ _ (some m) und_map
  go_enter Try.func145, Try.ntmps145
  go_wp2
  rw [run_callFunc_extern Try.func155 (by kernel_rfl) (by kernel_rfl) (by kernel_rfl) (e := Extern.MapsClone.clone) (by kernel_rfl), run_maps_clone_sl w 153 hb]
  simp only [Result.andThen]
  rw [Oper.upon_value]
  go_wp2
  rw [run_typeAssert_map_sl _ 153 _ _ _ _ und_map]
  simp only [Result.andThen]
  rw [Oper.upon_value]
  go_wp2
  go_ret
  exact ⟨rfl, rfl⟩
theorem row_news {w : World} {B n g k : Nat} {e : TypeId} {xs : List Value} (h : w.ownsRow B e 1 (.slice (some ⟨g, 0, none⟩) n k) n xs) : ∀ j u, xs[j]? = some u → w.cell? ((⟨g, 0, none⟩ : Addr).add j) = some u := fun j u hj => h.cells (g := g) rfl j u hj
set_option maxRecDepth 100000 in
set_option maxHeartbeats 1000000 in
theorem clone32_any {W : World} {g N kc : Nat} {KL : List Nat} (h : W.ownsRow 0 38 1 (.slice (some ⟨g, 0, none⟩) N kc) N ((ints KL).map (Value.int .u32))) (h1 : 1 ≤ N) (h2 : N ≤ 5000000) :
    Calls Try.prog 144 #[.slice (some ⟨g, 0, none⟩) N kc] W fun e w' => (∃ g' k', e = .returned (.slice (some ⟨g', 0, none⟩) N k') ∧ w'.ownsRow 0 38 1 (.slice (some ⟨g', 0, none⟩) N k') N ((ints KL).map (Value.int .u32)) ∧ W.heap.size ≤ g') ∧ Below W.heap.size W w' := by
  have q22 : ∀ (w : World) (a : Option Addr) (n c n' c' : Nat), (binOp .eql 39 (.slice a n c) (.slice none n' c')).run Try.prog w = .ok (.bool a.isNone) w := fun w a n c n' c' => Lib.run_eql_slice_nil w _ _ a n c n' c' Try.underlying39
  obtain ⟨i0, hi0, hz0, hz1, hz2⟩ := u_parts
  have HNW := Lib.hid (fun w' (hb : Below W.heap.size W w') => row_news (own_of (w' := w') h (hb.block g (h.lt g rfl).2)))
  have HC := Lib.hid (show ((ints KL).map (Value.int .u32)).length = N * 1 from by rw [h.1])
  have HO := Lib.hid (show ∀ u ∈ (ints KL).map (Value.int .u32), u.oneCell' = true from fun u hu => by obtain ⟨l, _, rfl⟩ := List.mem_map.1 hu; rfl)
  clear h
  go_enter Try.func144, Try.ntmps144
  go_wp2_with (at_builtin; refine wpList_append_own _ rfl (.tmp 5) (.tmp 6) 39 rfl W.heap.size 38 i0 (.int .u32 0) 1 4 Try.underlying39 hi0 hz0 hz1 hz2 rfl (by decide) _ 0 _ rfl (World.ownsRow_made W #[] 0 (Nat.le_refl _) (Nat.zero_le _) rfl) ⟨g, 0, none⟩ N kc ((ints KL).map (Value.int .u32)) rfl HC.out (HNW.out _ (by go_grown)) HO.out (by unfold maxLen; omega) (by omega) (by simp) ?_)
  intro v' w1 hown hgrow _
  try rw [Nat.zero_add] at hown
  try rw [List.nil_append] at hown
  have hb : Below W.heap.size W w1 := (by go_grown : Below W.heap.size W (W.alloc (.cells #[] 38))).grown hgrow (by simp) (fun k hk => by simp [Value.ownBlock] at hk; omega)
  obtain ⟨N1, rfl⟩ : ∃ N1, N = N1 + 1 := ⟨N - 1, by omega⟩
  obtain ⟨g', k', rfl⟩ := ownsRow_succ hown
  have HR := Lib.hid (App.own_lift hown (Nat.zero_le _))
  have HG := Lib.hid (hown.lt g' rfl).1
  have HB := Lib.hid hb
  clear hb hown hgrow
  go_wp2
  go_ret
  exact ⟨⟨g', k', rfl, HR.out, HG.out⟩, HB.out⟩
set_option maxRecDepth 100000 in
set_option maxHeartbeats 4000000 in
theorem gcopy_any {w : World} {b c q r cq cr N : Nat} {F : Lnk.Fd} {g kc m nm : Nat} {D : DataW Unit} {most : Int} {L fr KL : List Nat} (H : Gh w b c q r cq cr N F g kc m nm D most L fr KL) (hN : N ≤ 5000000) :
    Calls Try.prog 113 #[.pointer (some ⟨b, 0, none⟩)] w fun e w' => (∃ b' c' q' r' cq' cr' g' kc' m', e = .returned (.pointer (some ⟨b', 0, none⟩)) ∧ Gh w' b' c' q' r' cq' cr' N F g' kc' m' nm D most L fr KL ∧ w.heap.size ≤ b' ∧ w.heap.size ≤ c' ∧ w.heap.size ≤ q' ∧ w.heap.size ≤ r' ∧ w.heap.size ≤ g' ∧ w.heap.size ≤ m') ∧ Below w.heap.size w w' := by
  have HZ := Lib.hid (gzero_any H)
  obtain ⟨es, clock, hmap, hrest⟩ := H.mp
  have HMR := Lib.hid (fun (W : World) (m' : Nat) (h : W.heap[m']? = some (.map es clock)) => (⟨es, clock, h, hrest⟩ : W.ownsMap Try.prog 38 (plainElem Try.prog 38) m' nm D))
  have HL2 := Lib.hid (fun (v : World) (hb : Below w.heap.size w v) => Copy_any (H.lo.below hb))
  have HS2 := Lib.hid (fun (v : World) (hb : Below w.heap.size w v) => clone32_any (own_of (w' := v) H.ks (hb.block g H.lt.2.2.2.2.1)) H.lo.n1 hN)
  have HM2 := Lib.hid (fun (v : World) (hb : Below w.heap.size w v) => mclone_any (w := v) ((hb.block m H.lt.2.2.2.2.2).trans hmap))
  have HH := Lib.hid H
  have SC := Lib.hid (fun (v : World) (hb : Below w.heap.size w v) => (show v.cell? ⟨b, 0, none⟩ = some (.int .i64 most) ∧ v.cell? ⟨b, 1, none⟩ = some (.pointer (some ⟨c, 0, none⟩)) ∧ v.cell? ⟨b, 2, none⟩ = some (.slice (some ⟨g, 0, none⟩) N kc) ∧ v.cell? ⟨b, 3, none⟩ = some (.map (some m)) ∧ Below w.heap.size w v from by
    obtain ⟨c0, c1, c2, c3, -⟩ := (H.below hb).cells
    exact ⟨c0, c1, c2, c3, hb⟩))
  have SB := Lib.hid (fun (v : World) (h : v.cell? ⟨b, 0, none⟩ = some (.int .i64 most) ∧ v.cell? ⟨b, 1, none⟩ = some (.pointer (some ⟨c, 0, none⟩)) ∧ v.cell? ⟨b, 2, none⟩ = some (.slice (some ⟨g, 0, none⟩) N kc) ∧ v.cell? ⟨b, 3, none⟩ = some (.map (some m)) ∧ Below w.heap.size w v) => h.2.2.2.2)
  obtain ⟨c0, c1, c2, c3, -⟩ := H.cells
  clear H hmap hrest
  go_enter Try.func113, Try.ntmps113
  go_wp2_with fail
  refine HZ.out.mono ?_
  rintro e w1 ⟨rfl, rfl⟩
  go_wp2_with fail
  go_region_held3 (fun v => v.cell? ⟨b, 0, none⟩ = some (.int .i64 most) ∧ v.cell? ⟨b, 1, none⟩ = some (.pointer (some ⟨c, 0, none⟩)) ∧ v.cell? ⟨b, 2, none⟩ = some (.slice (some ⟨g, 0, none⟩) N kc) ∧ v.cell? ⟨b, 3, none⟩ = some (.map (some m)) ∧ Below w.heap.size w v)
    (first
      | (exact SC.out _ (Below.drew (Below.refl _ _)))
      | (exact SC.out _ (tr (SB.out _ (by assumption)) bN))
      | (exact SC.out _ (tr (SB.out _ (by assumption)) (box_below _ _ _)))
      | assumption
      | fail)
    (first
      | (go_at_call 145; refine (HM2.out _ (SB.out _ (by assumption))).mono ?_; have z3 := SB.out _ (by assumption); rintro e u3 ⟨rfl, hu3⟩; have HU3 := Lib.hid (And.intro z3 hu3); have bN : Below _ _ u3 := hu3 ▸ ((Below.refl _ _).alloc (Nat.le_refl _) _); clear hu3)
      | (go_at_call 144; refine (HS2.out _ (SB.out _ (by assumption))).mono ?_; have z2 := SB.out _ (by assumption); rintro e u2 ⟨⟨g2, k2, rfl, ks2, hg2⟩, bN⟩; have HU2 := Lib.hid (And.intro z2 (And.intro ks2 (And.intro hg2 bN))); clear ks2)
      | (go_at_call 81; refine (HL2.out _ (SB.out _ (by assumption))).mono ?_; have z1 := SB.out _ (by assumption); rintro e u1 ⟨⟨c1', q1', r1', cq1, cr1, rfl, lo1, hc1, hq1, hr1⟩, bN⟩; have HU1 := Lib.hid (And.intro z1 (And.intro lo1 (And.intro hc1 (And.intro hq1 (And.intro hr1 bN))))); clear lo1)
      | fail)
  have hd := HU1.out
  have he := HU2.out
  have hf := HU3.out
  obtain ⟨d1, lo1, d2, d3, d4, d5⟩ := hd
  obtain ⟨e1, ks2, e2, e3⟩ := he
  obtain ⟨f1, f2⟩ := hf
  have s0 : w.drew.heap.size = w.heap.size := rfl
  have s1 := d5.size
  have s2 := e3.size
  have s3 : u3.heap.size = u2.heap.size + 1 := by rw [f2]; simp
  have l1 := lo1.lt
  have l2 := (ks2.lt g2 rfl).2
  have bx := box_below u3 #[.int .i64 most, .pointer (some ⟨c1', 0, none⟩), .slice (some ⟨g2, 0, none⟩) N k2, .map (some u2.heap.size)] 155
  have hm3 : u3.heap[u2.heap.size]? = some (.map es clock) := by rw [f2]; exact (MapKept.heap_alloc u2 _).1
  have hfin : Gh (u3.alloc (.cells #[.int .i64 most, .pointer (some ⟨c1', 0, none⟩), .slice (some ⟨g2, 0, none⟩) N k2, .map (some u2.heap.size)] 155)) u3.heap.size c1' q1' r1' cq1 cr1 N F g2 k2 u2.heap.size nm D most L fr KL :=
    ⟨(MapKept.heap_alloc u3 _).1, ((lo1.below e3).below bN).below bx, own_of (own_of ks2 (bN.block g2 l2)) (bx.block g2 (by omega)), HH.out.kl, HH.out.kw, HMR.out _ _ ((bx.block _ (by omega)).trans hm3), HH.out.mf, HH.out.pt, by omega, by omega, by omega⟩
  have HF := Lib.hid hfin
  have HB := Lib.hid (tr (tr f1 bN) bx)
  have HLE := Lib.hid (show w.heap.size ≤ u3.heap.size ∧ w.heap.size ≤ c1' ∧ w.heap.size ≤ q1' ∧ w.heap.size ≤ r1' ∧ w.heap.size ≤ g2 ∧ w.heap.size ≤ u2.heap.size from by omega)
  clear hfin bx hm3 lo1 ks2 d5 e3 f2 d1 e1 f1 HU1 HU2 HU3 z1 z2 z3 bN
  go_wp2_with fail
  go_ret
  exact ⟨⟨_, _, _, _, _, _, _, _, _, rfl, HF.out, HLE.out⟩, HB.out⟩
/-- the copy, beside the list -/
theorem Gx.copy {w0 v : World} {b K B : Nat} {most : Int} {keys : List Nat} {X : Nat → Prop} (h : Gx w0 v b K B most keys X) (hB : B ≤ 5000000) :
    Calls Try.prog 113 #[.pointer (some ⟨b, 0, none⟩)] v fun e w' => (∃ b', e = .returned (.pointer (some ⟨b', 0, none⟩)) ∧ Gx w0 w' b' K B most keys (fun k => k < v.heap.size)) ∧ Below v.heap.size v w' := by
  obtain ⟨c, q, r, cq, cr, N, F, g, kc, m, nm, D, L, fr, KL, h1, rfl, h3, h4, h5, h6, h7, h8⟩ := h
  refine (gcopy_any h1 (by omega)).mono ?_
  rintro e w' ⟨⟨b', c', q', r', cq', cr', g', kc', m', rfl, k1, k2, k3, k4, k5, k6, k7⟩, k8⟩
  have hs := h6.size
  have hs2 := k8.size
  refine ⟨⟨b', rfl, c', q', r', cq', cr', N, F, g', kc', m', nm, D, L, fr, KL, k1, rfl, h3, h4, by omega, ((Kp.of (bad := fun _ => False) h6).tr k8).below (fun k hk h => h) (Nat.le_refl _), fun k hk hx => ?_, fun k hx => by omega⟩, k8⟩
  rcases hk with h | (h | h | h) | h | h <;> omega
set_option maxRecDepth 100000 in
theorem Gx.resize_bad {w0 v : World} {b K B : Nat} {most : Int} {keys : List Nat} {X : Nat → Prop} (h : Gx w0 v b K B most keys X) (M : Int) (hM : ¬ (0 ≤ M ∧ M ≤ 4096)) :
    Calls Try.prog 46 #[.pointer (some ⟨b, 0, none⟩), .int .i64 M] v fun e w' => e = .returned (.tuple #[.slice none 0 0, .int .i64 2]) ∧ v = w' := by
  have HZ := Lib.hid h.zero
  have HIB := Lib.hid (isBound_any v M)
  rw [decide_eq_false hM] at HIB
  clear h hM
  go_enter Try.func46, Try.ntmps46
  go_wp2_with fail
  refine HZ.out.mono ?_
  rintro e w1 ⟨rfl, rfl⟩
  go_wp2_with fail
  refine HIB.out.mono ?_
  rintro e w1 ⟨rfl, rfl⟩
  go_wp2_with fail
  go_returns
  exact ⟨rfl, rfl⟩
set_option maxRecDepth 100000 in
theorem Gx.pop_none {w0 v : World} {b K B : Nat} {most : Int} {X : Nat → Prop} (h : Gx w0 v b K B most [] X) :
    Calls Try.prog 45 #[.pointer (some ⟨b, 0, none⟩)] v fun e w' => e = .returned (.tuple #[.int .u32 0, .int .i64 9]) ∧ Below v.heap.size v w' := by
  have HZ := Lib.hid h.zero
  obtain ⟨c, q, r, cq, cr, N, F, g, kc, m, nm, D, L, fr, KL, h1, h2, h3, h4, h5, h6, h7, h8⟩ := h
  obtain rfl : L = [] := by unfold kys at h2; exact List.map_eq_nil_iff.1 h2
  have hLA := Last_ok h1.lo (k := 0) (l := []) rfl
  rw [if_neg (by show ¬ N + 0 < N; omega)] at hLA
  have HLA := Lib.hid hLA
  obtain ⟨c0, c1, c2, c3, cf⟩ := h1.cells
  clear h1 hLA
  go_enter Try.func45, Try.ntmps45
  go_wp2_with fail
  refine HZ.out.mono ?_
  rintro e w1 ⟨rfl, rfl⟩
  go_wp2_with fail
  refine HLA.out.mono ?_
  rintro e w1 ⟨rfl, b1⟩
  have B1 := Lib.hid b1
  clear b1
  simp only [nodeR]
  go_wp2_with fail
  go_returns
  exact ⟨rfl, B1.out⟩
end Go.Proofs.Ytggimkfepcgaoaa.Gho
