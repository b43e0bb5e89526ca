/-
  Ghost lists (layer 28): Copy; what goes wrong.
-/
import Derived.Test.YtjcabdnjimcdgaaGhoP
import Derived.Test.YtjcabdnjimcdgaaLnkBb
import Derived.Shelf.SlMaps.Clone
import Derived.Maps.RangeWalk
set_option linter.unusedVariables false
set_option linter.unusedSimpArgs false
namespace Go.Proofs.Ytjcabdnjimcdgaa.Gho
open Go Go.RowKit Kit Go.Maps Go.Shelf Lnk
set_option maxHeartbeats 2000000 in
set_option maxRecDepth 100000 in
theorem mclone_any {m : Nat} {es : Array MapEntry} {clock : Nat} {w : World} (hb : w.heap[m]? = some (.map es clock)) :
    Calls Try.prog 169 #[.map (some m)] w fun e w' => e = .returned (.map (some w.heap.size)) ∧ w' = w.alloc (.map es clock) := by
  have hq := fun w => run_eql_map_nil_sl (P := Try.prog) w 184 _ _ (some m) und_map
  go_enter Try.func169, Try.ntmps169
  go_wp2
  rw [run_callFunc_extern Try.func172 (by kernel_rfl) (by kernel_rfl) (by kernel_rfl) (e := Extern.MapsClone.clone) (by kernel_rfl), run_maps_clone_sl w 184 hb]
  simp only [Result.andThen]
  rw [Oper.upon_value]
  go_wp2
  rw [run_typeAssert_map_sl _ 184 _ _ _ _ und_map]
  simp only [Result.andThen]
  rw [Oper.upon_value]
  go_wp2
  go_ret
  exact ⟨rfl, rfl⟩
theorem row_news {w : World} {B n g k : Nat} {e : TypeId} {xs : List Value} (h : w.ownsRow B e 1 (.slice (some ⟨g, 0, none⟩) n k) n xs) : ∀ j u, xs[j]? = some u → w.cell? ((⟨g, 0, none⟩ : Addr).add j) = some u := fun j u hj => h.cells (g := g) rfl j u hj
set_option maxRecDepth 100000 in
set_option maxHeartbeats 1000000 in
theorem clone32_any {W : World} {g N kc : Nat} {KL : List Nat} (h : W.ownsRow 0 38 1 (.slice (some ⟨g, 0, none⟩) N kc) N ((ints KL).map (Value.int .u32))) (h1 : 1 ≤ N) (h2 : N ≤ 5000000) :
    Calls Try.prog 168 #[.slice (some ⟨g, 0, none⟩) N kc] W fun e w' => (∃ g' k', e = .returned (.slice (some ⟨g', 0, none⟩) N k') ∧ w'.ownsRow 0 38 1 (.slice (some ⟨g', 0, none⟩) N k') N ((ints KL).map (Value.int .u32)) ∧ W.heap.size ≤ g') ∧ Below W.heap.size W w' := by
  have q22 : ∀ (w : World) (a : Option Addr) (n c n' c' : Nat), (binOp .eql 39 (.slice a n c) (.slice none n' c')).run Try.prog w = .ok (.bool a.isNone) w := fun w a n c n' c' => Lib.run_eql_slice_nil w _ _ a n c n' c' Try.underlying39
  obtain ⟨i0, hi0, hz0, hz1, hz2⟩ := u_parts
  have HNW := Lib.hid (fun w' (hb : Below W.heap.size W w') => row_news (own_of (w' := w') h (hb.block g (h.lt g rfl).2)))
  have HC := Lib.hid (show ((ints KL).map (Value.int .u32)).length = N * 1 from by rw [h.1])
  have HO := Lib.hid (show ∀ u ∈ (ints KL).map (Value.int .u32), u.oneCell' = true from fun u hu => by obtain ⟨l, _, rfl⟩ := List.mem_map.1 hu; rfl)
  clear h
  go_enter Try.func168, Try.ntmps168
  go_wp2_with (at_builtin; refine wpList_append_own _ rfl (.tmp 5) (.tmp 6) 39 rfl W.heap.size 38 i0 (.int .u32 0) 1 4 Try.underlying39 hi0 hz0 hz1 hz2 rfl (by decide) _ 0 _ rfl (World.ownsRow_made W #[] 0 (Nat.le_refl _) (Nat.zero_le _) rfl) ⟨g, 0, none⟩ N kc ((ints KL).map (Value.int .u32)) rfl HC.out (HNW.out _ (by go_grown)) HO.out (by unfold maxLen; omega) (by omega) (by simp) ?_)
  intro v' w1 hown hgrow _
  try rw [Nat.zero_add] at hown
  try rw [List.nil_append] at hown
  have hb : Below W.heap.size W w1 := (by go_grown : Below W.heap.size W (W.alloc (.cells #[] 38))).grown hgrow (by simp) (fun k hk => by simp [Value.ownBlock] at hk; omega)
  obtain ⟨N1, rfl⟩ : ∃ N1, N = N1 + 1 := ⟨N - 1, by omega⟩
  obtain ⟨g', k', rfl⟩ := ownsRow_succ hown
  have HR := Lib.hid (App.own_lift hown (Nat.zero_le _))
  have HG := Lib.hid (hown.lt g' rfl).1
  have HB := Lib.hid hb
  clear hb hown hgrow
  go_wp2
  go_ret
  exact ⟨⟨g', k', rfl, HR.out, HG.out⟩, HB.out⟩
set_option maxRecDepth 100000 in
set_option maxHeartbeats 4000000 in
theorem gcopy_any {w : World} {b c q r cq cr N : Nat} {F : Lnk.Fd} {g kc m nm : Nat} {D : DataW Unit} {most : Int} {L fr KL : List Nat} (H : Gh w b c q r cq cr N F g kc m nm D most L fr KL) (hN : N ≤ 5000000) :
    Calls Try.prog 143 #[.pointer (some ⟨b, 0, none⟩)] w fun e w' => (∃ b' c' q' r' cq' cr' g' kc' m', e = .returned (.pointer (some ⟨b', 0, none⟩)) ∧ Gh w' b' c' q' r' cq' cr' N F g' kc' m' nm D most L fr KL ∧ w.heap.size ≤ b' ∧ w.heap.size ≤ c' ∧ w.heap.size ≤ q' ∧ w.heap.size ≤ r' ∧ w.heap.size ≤ g' ∧ w.heap.size ≤ m') ∧ Below w.heap.size w w' := by
  have HZ := Lib.hid (gzero_any H)
  obtain ⟨es, clock, hmap, hrest⟩ := H.mp
  have HMR := Lib.hid (fun (W : World) (m' : Nat) (h : W.heap[m']? = some (.map es clock)) => (⟨es, clock, h, hrest⟩ : W.ownsMap Try.prog 38 (plainElem Try.prog 38) m' nm D))
  have HL2 := Lib.hid (fun (v : World) (hb : Below w.heap.size w v) => Copy_any (H.lo.below hb))
  have HS2 := Lib.hid (fun (v : World) (hb : Below w.heap.size w v) => clone32_any (own_of (w' := v) H.ks (hb.block g H.lt.2.2.2.2.1)) H.lo.n1 hN)
  have HM2 := Lib.hid (fun (v : World) (hb : Below w.heap.size w v) => mclone_any (w := v) ((hb.block m H.lt.2.2.2.2.2).trans hmap))
  have HH := Lib.hid H
  have SC := Lib.hid (fun (v : World) (hb : Below w.heap.size w v) => (show v.cell? ⟨b, 0, none⟩ = some (.int .i64 most) ∧ v.cell? ⟨b, 1, none⟩ = some (.pointer (some ⟨c, 0, none⟩)) ∧ v.cell? ⟨b, 2, none⟩ = some (.slice (some ⟨g, 0, none⟩) N kc) ∧ v.cell? ⟨b, 3, none⟩ = some (.map (some m)) ∧ Below w.heap.size w v from by
    obtain ⟨c0, c1, c2, c3, -⟩ := (H.below hb).cells
    exact ⟨c0, c1, c2, c3, hb⟩))
  have SB := Lib.hid (fun (v : World) (h : v.cell? ⟨b, 0, none⟩ = some (.int .i64 most) ∧ v.cell? ⟨b, 1, none⟩ = some (.pointer (some ⟨c, 0, none⟩)) ∧ v.cell? ⟨b, 2, none⟩ = some (.slice (some ⟨g, 0, none⟩) N kc) ∧ v.cell? ⟨b, 3, none⟩ = some (.map (some m)) ∧ Below w.heap.size w v) => h.2.2.2.2)
  obtain ⟨c0, c1, c2, c3, -⟩ := H.cells
  clear H hmap hrest
  go_enter Try.func143, Try.ntmps143
  go_wp2_with fail
  refine HZ.out.mono ?_
  rintro e w1 ⟨rfl, rfl⟩
  go_wp2_with fail
  go_region_held3 (fun v => v.cell? ⟨b, 0, none⟩ = some (.int .i64 most) ∧ v.cell? ⟨b, 1, none⟩ = some (.pointer (some ⟨c, 0, none⟩)) ∧ v.cell? ⟨b, 2, none⟩ = some (.slice (some ⟨g, 0, none⟩) N kc) ∧ v.cell? ⟨b, 3, none⟩ = some (.map (some m)) ∧ Below w.heap.size w v)
    (first
      | (exact SC.out _ (Below.drew (Below.refl _ _)))
      | (exact SC.out _ (tr (SB.out _ (by assumption)) bN))
      | (exact SC.out _ (tr (SB.out _ (by assumption)) (box_below _ _ _)))
      | assumption
      | fail)
    (first
      | (go_at_call 169; refine (HM2.out _ (SB.out _ (by assumption))).mono ?_; have z3 := SB.out _ (by assumption); rintro e u3 ⟨rfl, hu3⟩; have HU3 := Lib.hid (And.intro z3 hu3); have bN : Below _ _ u3 := hu3 ▸ ((Below.refl _ _).alloc (Nat.le_refl _) _); clear hu3)
      | (go_at_call 168; refine (HS2.out _ (SB.out _ (by assumption))).mono ?_; have z2 := SB.out _ (by assumption); rintro e u2 ⟨⟨g2, k2, rfl, ks2, hg2⟩, bN⟩; have HU2 := Lib.hid (And.intro z2 (And.intro ks2 (And.intro hg2 bN))); clear ks2)
      | (go_at_call 92; refine (HL2.out _ (SB.out _ (by assumption))).mono ?_; have z1 := SB.out _ (by assumption); rintro e u1 ⟨⟨c1', q1', r1', cq1, cr1, rfl, lo1, hc1, hq1, hr1⟩, bN⟩; have HU1 := Lib.hid (And.intro z1 (And.intro lo1 (And.intro hc1 (And.intro hq1 (And.intro hr1 bN))))); clear lo1)
      | fail)
  have hd := HU1.out
  have he := HU2.out
  have hf := HU3.out
  obtain ⟨d1, lo1, d2, d3, d4, d5⟩ := hd
  obtain ⟨e1, ks2, e2, e3⟩ := he
  obtain ⟨f1, f2⟩ := hf
  have s0 : w.drew.heap.size = w.heap.size := rfl
  have s1 := d5.size
  have s2 := e3.size
  have s3 : u3.heap.size = u2.heap.size + 1 := by rw [f2]; simp
  have l1 := lo1.lt
  have l2 := (ks2.lt g2 rfl).2
  have bx := box_below u3 #[.int .i64 most, .pointer (some ⟨c1', 0, none⟩), .slice (some ⟨g2, 0, none⟩) N k2, .map (some u2.heap.size)] 186
  have hm3 : u3.heap[u2.heap.size]? = some (.map es clock) := by rw [f2]; exact (MapKept.heap_alloc u2 _).1
  have hfin : Gh (u3.alloc (.cells #[.int .i64 most, .pointer (some ⟨c1', 0, none⟩), .slice (some ⟨g2, 0, none⟩) N k2, .map (some u2.heap.size)] 186)) u3.heap.size c1' q1' r1' cq1 cr1 N F g2 k2 u2.heap.size nm D most L fr KL :=
    ⟨(MapKept.heap_alloc u3 _).1, ((lo1.below e3).below bN).below bx, own_of (own_of ks2 (bN.block g2 l2)) (bx.block g2 (by omega)), HH.out.kl, HH.out.kw, HMR.out _ _ ((bx.block _ (by omega)).trans hm3), HH.out.mf, HH.out.pt, by omega, by omega, by omega⟩
  have HF := Lib.hid hfin
  have HB := Lib.hid (tr (tr f1 bN) bx)
  have HLE := Lib.hid (show w.heap.size ≤ u3.heap.size ∧ w.heap.size ≤ c1' ∧ w.heap.size ≤ q1' ∧ w.heap.size ≤ r1' ∧ w.heap.size ≤ g2 ∧ w.heap.size ≤ u2.heap.size from by omega)
  clear hfin bx hm3 lo1 ks2 d5 e3 f2 d1 e1 f1 HU1 HU2 HU3 z1 z2 z3 bN
  go_wp2_with fail
  go_ret
  exact ⟨⟨_, _, _, _, _, _, _, _, _, rfl, HF.out, HLE.out⟩, HB.out⟩
/-- the copy, beside the list -/
theorem Gx.copy {w0 v : World} {b K B : Nat} {most : Int} {keys : List Nat} {X : Nat → Prop} (h : Gx w0 v b K B most keys X) (hB : B ≤ 5000000) :
    Calls Try.prog 143 #[.pointer (some ⟨b, 0, none⟩)] v fun e w' => (∃ b', e = .returned (.pointer (some ⟨b', 0, none⟩)) ∧ Gx w0 w' b' K B most keys (fun k => k < v.heap.size)) ∧ Below v.heap.size v w' := by
  obtain ⟨c, q, r, cq, cr, N, F, g, kc, m, nm, D, L, fr, KL, h1, rfl, h3, h4, h5, h6, h7, h8⟩ := h
  refine (gcopy_any h1 (by omega)).mono ?_
  rintro e w' ⟨⟨b', c', q', r', cq', cr', g', kc', m', rfl, k1, k2, k3, k4, k5, k6, k7⟩, k8⟩
  have hs := h6.size
  have hs2 := k8.size
  refine ⟨⟨b', rfl, c', q', r', cq', cr', N, F, g', kc', m', nm, D, L, fr, KL, k1, rfl, h3, h4, by omega, ((Kp.of (bad := fun _ => False) h6).tr k8).below (fun k hk h => h) (Nat.le_refl _), fun k hk hx => ?_, fun k hx => by omega⟩, k8⟩
  rcases hk with h | (h | h | h) | h | h <;> omega
set_option maxRecDepth 100000 in
theorem Gx.resize_bad {w0 v : World} {b K B : Nat} {most : Int} {keys : List Nat} {X : Nat → Prop} (h : Gx w0 v b K B most keys X) (M : Int) (hM : ¬ (0 ≤ M ∧ M ≤ 4096)) :
    Calls Try.prog 67 #[.pointer (some ⟨b, 0, none⟩), .int .i64 M] v fun e w' => e = .returned (.tuple #[.slice none 0 0, .int .i64 2]) ∧ v = w' := by
  have HZ := Lib.hid h.zero
  have HIB := Lib.hid (isBound_any v M)
  rw [decide_eq_false hM] at HIB
  clear h hM
  go_enter Try.func67, Try.ntmps67
  go_wp2_with fail
  refine HZ.out.mono ?_
  rintro e w1 ⟨rfl, rfl⟩
  go_wp2_with fail
  refine HIB.out.mono ?_
  rintro e w1 ⟨rfl, rfl⟩
  go_wp2_with fail
  go_returns
  exact ⟨rfl, rfl⟩
set_option maxRecDepth 100000 in
theorem Gx.pop_none {w0 v : World} {b K B : Nat} {most : Int} {X : Nat → Prop} (h : Gx w0 v b K B most [] X) :
    Calls Try.prog 66 #[.pointer (some ⟨b, 0, none⟩)] v fun e w' => e = .returned (.tuple #[.int .u32 0, .int .i64 9]) ∧ Below v.heap.size v w' := by
  have HZ := Lib.hid h.zero
  obtain ⟨c, q, r, cq, cr, N, F, g, kc, m, nm, D, L, fr, KL, h1, h2, h3, h4, h5, h6, h7, h8⟩ := h
  obtain rfl : L = [] := by unfold kys at h2; exact List.map_eq_nil_iff.1 h2
  have hLA := Last_ok h1.lo (k := 0) (l := []) rfl
  rw [if_neg (by show ¬ N + 0 < N; omega)] at hLA
  have HLA := Lib.hid hLA
  obtain ⟨c0, c1, c2, c3, cf⟩ := h1.cells
  clear h1 hLA
  go_enter Try.func66, Try.ntmps66
  go_wp2_with fail
  refine HZ.out.mono ?_
  rintro e w1 ⟨rfl, rfl⟩
  go_wp2_with fail
  refine HLA.out.mono ?_
  rintro e w1 ⟨rfl, b1⟩
  have B1 := Lib.hid b1
  clear b1
  simp only [nodeR]
  go_wp2_with fail
  go_returns
  exact ⟨rfl, B1.out⟩
/-- a map of times, by its entries -/
structure Mi (D : DataW Unit) (S : List (Nat × Nat)) : Prop where
  at_ : ∀ k n, (k, n) ∈ S → has D (.int .u32 (k : Int)) = true ∧ ∀ z, D.atKey (.int .u32 (k : Int)) z = .lit (.int .i64 (n : Int))
  no : ∀ k : Nat, (∀ n, (k, n) ∉ S) → has D (.int .u32 (k : Int)) = false
  size : Maps.size D = S.length
  nd : (S.map Prod.fst).Nodup
theorem Mi.nil : Mi (.map []) [] := ⟨fun k n h => (by cases h), fun k _ => rfl, rfl, List.nodup_nil⟩
/-- the entries without a key -/
def wo (S : List (Nat × Nat)) (k : Nat) : List (Nat × Nat) := S.filter fun p => p.1 != k
theorem wo_mem {S : List (Nat × Nat)} {k : Nat} {p : Nat × Nat} : p ∈ wo S k ↔ p ∈ S ∧ p.1 ≠ k := by unfold wo; rw [List.mem_filter]; simp
theorem wo_fst {S : List (Nat × Nat)} {k : Nat} (h : (S.map Prod.fst).Nodup) : (wo S k).map Prod.fst = (S.map Prod.fst).erase k := by
  rw [List.Nodup.erase_eq_filter h]
  unfold wo
  rw [List.filter_map]
  rfl
theorem wo_no {S : List (Nat × Nat)} {k : Nat} (h : k ∉ S.map Prod.fst) : wo S k = S := by
  unfold wo
  rw [List.filter_eq_self]
  rintro ⟨a, b⟩ hm
  simp only [bne_iff_ne, ne_eq]
  rintro rfl
  exact h (List.mem_map.2 ⟨_, hm, rfl⟩)
theorem Mi.keys {D : DataW Unit} {S : List (Nat × Nat)} (h : Mi D S) (k : Nat) : has D (.int .u32 (k : Int)) = decide (k ∈ S.map Prod.fst) := by
  by_cases hk : k ∈ S.map Prod.fst
  · obtain ⟨⟨a, b⟩, hm, rfl⟩ := List.mem_map.1 hk
    rw [(h.at_ a b hm).1, decide_eq_true hk]
  · rw [h.no k fun n hn => hk (List.mem_map.2 ⟨_, hn, rfl⟩), decide_eq_false hk]
theorem Mi.put {D : DataW Unit} {S : List (Nat × Nat)} (h : Mi D S) (ht : Tidy D) (k n : Nat) : Mi (D.put (.int .u32 (k : Int)) (.lit (.int .i64 (n : Int)))) ((k, n) :: wo S k) := by
  have hkl : WideAt.IsKeyLit (Lit.int .u32 (k : Int)) := by trivial
  refine ⟨fun k' n' hm => ?_, fun k' hk' => ?_, ?_, ?_⟩
  · rcases List.mem_cons.1 hm with e | hm2
    · cases e
      exact ⟨has_put_same ht.isMap hkl _, fun z => atKey_put_same ht.isMap hkl _ z⟩
    · obtain ⟨hm3, hkk⟩ := wo_mem.1 hm2
      obtain ⟨a1, a2⟩ := h.at_ k' n' hm3
      exact ⟨by rw [has_put_other (key_ne hkk)]; exact a1, fun z => by rw [atKey_put_other (key_ne hkk)]; exact a2 z⟩
  · have hkk : k' ≠ k := by rintro rfl; exact hk' n (List.mem_cons_self ..)
    rw [has_put_other (key_ne hkk)]
    exact h.no k' fun n' hn' => hk' n' (List.mem_cons_of_mem _ (wo_mem.2 ⟨hn', hkk⟩))
  · rw [size_put ht, h.keys k, h.size]
    have hl : (wo S k).length = ((S.map Prod.fst).erase k).length := by rw [← wo_fst h.nd, List.length_map]
    rw [List.length_cons, hl, List.length_erase, List.length_map]
    by_cases hk : k ∈ S.map Prod.fst
    · have : 0 < S.length := by
        have := List.length_pos_of_mem hk
        rwa [List.length_map] at this
      simp only [hk, decide_true, if_true]
      omega
    · simp only [hk, decide_false, if_false]
      simp
  · rw [List.map_cons]
    refine List.nodup_cons.2 ⟨fun hm => ?_, ?_⟩
    · obtain ⟨⟨a, b⟩, hm2, e⟩ := List.mem_map.1 hm
      cases e
      exact (wo_mem.1 hm2).2 rfl
    · rw [wo_fst h.nd]; exact h.nd.erase _
theorem Mi.del {D : DataW Unit} {S : List (Nat × Nat)} (h : Mi D S) (ht : Tidy D) (k : Nat) : Mi (D.del (.int .u32 (k : Int))) (wo S k) := by
  refine ⟨fun k' n' hm => ?_, fun k' hk' => ?_, ?_, ?_⟩
  · obtain ⟨hm3, hkk⟩ := wo_mem.1 hm
    obtain ⟨a1, a2⟩ := h.at_ k' n' hm3
    exact ⟨by rw [has_del_other (key_ne hkk)]; exact a1, fun z => by rw [atKey_del_other (key_ne hkk)]; exact a2 z⟩
  · by_cases hkk : k' = k
    · subst hkk
      exact has_del_same
    · rw [has_del_other (key_ne hkk)]
      exact h.no k' fun n' hn' => hk' n' (wo_mem.2 ⟨hn', hkk⟩)
  · have h1 := size_del ht (k := .int .u32 (k : Int))
    rw [h.keys k, h.size] at h1
    have hl : (wo S k).length = ((S.map Prod.fst).erase k).length := by rw [← wo_fst h.nd, List.length_map]
    rw [hl, List.length_erase, List.length_map]
    by_cases hk : k ∈ S.map Prod.fst
    · simp only [hk, decide_true, if_true] at h1 ⊢
      omega
    · simp only [hk, decide_false, if_false] at h1 ⊢
      simpa using h1
  · rw [wo_fst h.nd]; exact h.nd.erase _
theorem und_mapi : Try.prog.underlying 111 = some (.map 38 3) := by kernel_rfl
theorem und_int : Try.prog.underlying 3 = some (.int .i64) := by kernel_rfl
set_option maxRecDepth 100000
theorem looki_in {W : World} {m N : Nat} {D : DataW Unit} {S : List (Nat × Nat)} (h3 : W.ownsMap Try.prog 38 (plainElem Try.prog 3) m N D) (h4 : Mi D S) {k n : Nat} (hk : k < 4294967296) (hm : (k, n) ∈ S) :
    (Instr.lookup 111 (.map (some m)) (.int .u32 (k : Int)) true).run Try.prog W = .ok (.tuple #[.int .i64 (n : Int), .bool true]) W := by
  have K := Maps.int_keyed (P := Try.prog) und_u32
  have hkey := Maps.keyOf_int_mk (P := Try.prog) und_u32 (wf32 hk)
  have hz : (zeroValue 3).run Try.prog W = .ok (.int .i64 0) W := by kernel_rfl
  obtain ⟨v, ps, hrun, hR⟩ := h3.look_ok K und_mapi hz (plainElem_int und_int (by decide)) hkey
  obtain ⟨c, rfl, hc, -⟩ := plainElem_int_inv und_int hR
  obtain ⟨hh, ha⟩ := h4.at_ k n hm
  have h1 := ha (.lit (.int .i64 0))
  have h2 := congrArg Prod.fst hc
  simp only at h2
  rw [h1] at h2
  injection h2 with h2
  injection h2 with _ h2
  rw [hrun, hh, h2]
theorem looki_one {W : World} {m N : Nat} {D : DataW Unit} {S : List (Nat × Nat)} (h3 : W.ownsMap Try.prog 38 (plainElem Try.prog 3) m N D) (h4 : Mi D S) {k n : Nat} (hk : k < 4294967296) (hm : (k, n) ∈ S) :
    (Instr.lookup 111 (.map (some m)) (.int .u32 (k : Int)) false).run Try.prog W = .ok (.int .i64 (n : Int)) W := by
  have K := Maps.int_keyed (P := Try.prog) und_u32
  have hkey := Maps.keyOf_int_mk (P := Try.prog) und_u32 (wf32 hk)
  have h := looki_in h3 h4 hk hm
  obtain ⟨es, clock, hb, F, hs, -⟩ := h3
  simp only [Instr.lookup, Sem.run_bind, run_underlying und_mapi, MapKept.run_getObj_map hb, K.check W es.isEmpty hkey, Result.andThen] at h ⊢
  rcases K.find W hkey es.toList F.keys with ⟨h1, h2⟩ | ⟨j, e0, h1, h2, h3⟩
  · exfalso
    simp [h1, Result.andThen, run_underlying und_mapi, MapKept.run_getObj_map hb, K.check W es.isEmpty hkey] at h
  · simp [h1, Result.andThen, run_underlying und_mapi, MapKept.run_getObj_map hb, K.check W es.isEmpty hkey] at h ⊢
    first | exact h | simpa using h
theorem looki_no {W : World} {m N : Nat} {D : DataW Unit} {S : List (Nat × Nat)} (h3 : W.ownsMap Try.prog 38 (plainElem Try.prog 3) m N D) (h4 : Mi D S) {k : Nat} (hk : k < 4294967296) (hm : ∀ n, (k, n) ∉ S) :
    ∃ v : Int, (Instr.lookup 111 (.map (some m)) (.int .u32 (k : Int)) true).run Try.prog W = .ok (.tuple #[.int .i64 v, .bool false]) W := by
  have K := Maps.int_keyed (P := Try.prog) und_u32
  have hkey := Maps.keyOf_int_mk (P := Try.prog) und_u32 (wf32 hk)
  have hz : (zeroValue 3).run Try.prog W = .ok (.int .i64 0) W := by kernel_rfl
  obtain ⟨v, ps, hrun, hR⟩ := h3.look_ok K und_mapi hz (plainElem_int und_int (by decide)) hkey
  obtain ⟨c, rfl, hc, -⟩ := plainElem_int_inv und_int hR
  exact ⟨c, by rw [hrun, h4.no k hm]⟩
/-- a map of times at block m -/
def Mo (W : World) (m nm : Nat) (S : List (Nat × Nat)) : Prop := ∃ D, W.ownsMap Try.prog 38 (plainElem Try.prog 3) m nm D ∧ Mi D S
theorem old_no (w : World) (m : Value) :
    Calls Try.prog 61 #[m, .int .u32 0, .bool false] w fun e w' => e = .returned (.bool true) ∧ w = w' := by
  go_enter Try.func61, Try.ntmps61
  go_wp2_with fail
  refine bodyPost_ret (v := .bool true) (by simp [results, Try.results61, go_sem]) rfl ?_
  exact ⟨rfl, rfl⟩
/-- the loop of oldest -/
structure Og (w v : World) (m r nm : Nat) (D : DataW Unit) (S : List (Nat × Nat)) (left : Lit → Bool) (cn : Nat) : Prop where
  rg : v.ranges Try.prog 38 (plainElem Try.prog 3) m r nm D left cn
  sub : ∀ z, left z = true → has D z = true
  k : Below w.heap.size w v
theorem grown_below {w u v : World} {row : Option Nat} (h : u.grownBy v row) (hr : ∀ r, row = some r → w.heap.size ≤ r) (hb : Below w.heap.size w u) : Below w.heap.size w v := by
  obtain ⟨e1, e2, e3, e4, e5⟩ := h
  have hs := hb.size
  refine ⟨?_, ?_, ?_, by omega, fun k hk => (e5 k (by omega) fun e => by have := hr k e.symm; omega).trans (hb.block k hk)⟩
  · first | exact e1.trans hb.os | exact e1.symm.trans hb.os
  · first | exact e2.trans hb.tape | exact e2.symm.trans hb.tape
  · first | exact e3.trans hb.output | exact e3.symm.trans hb.output
set_option maxRecDepth 100000 in
set_option maxHeartbeats 4000000 in
theorem old_in {w : World} {m nm k n : Nat} {S : List (Nat × Nat)} (h : Mo w m nm S) (hm : (k, n) ∈ S) (hk : k < 4294967296) (hn : ∀ p ∈ S, n ≤ p.2) :
    Calls Try.prog 61 #[.map (some m), .int .u32 (k : Int), .bool true] w fun e w' => e = .returned (.bool true) ∧ Mo w' m nm (wo S k) ∧ Kp (fun j => j = m) w w' := by
  obtain ⟨D, ho, hi⟩ := h
  have K := Maps.int_keyed (P := Try.prog) und_u32
  have HKE := Lib.hid (Maps.keyOf_int_mk (P := Try.prog) und_u32 (wf32 hk))
  have hlk := looki_in ho hi hk hm
  have HD := Lib.hid (show w.ownsMap Try.prog 38 (plainElem Try.prog 3) m nm D ∧ Mi D S ∧ (k, n) ∈ S ∧ k < 4294967296 ∧ (∀ p ∈ S, n ≤ p.2) from ⟨ho, hi, hm, hk, hn⟩)
  clear ho hi hm hk hn
  go_enter Try.func61, Try.ntmps61
  go_wp2_with (first
    | (at_range; refine wpList_range_own _ rfl _ 111 rfl 38 3 K und_mapi (plainElem Try.prog 3) m _ _ rfl HD.out.1 ?_; intro w0 hrg0 hg0 hs0)
    | fail)
  go_frame
  go_loopw [10] (fun _ v => ∃ (left : Lit → Bool) (cn : Nat), Og w v m w.heap.size nm D S left cn) (fun _ v => v.rangeLeft m w.heap.size)
  case atStart => exact ⟨_, _, hrg0, fun z hz => hz, grown_below hg0 (by simp) (Below.refl _ _)⟩
  case round =>
    obtain ⟨left, cn, hR⟩ := hrel
    have RG := Lib.hid hR
    clear hR hrg0 hg0 hs0
    go_wp2_with (first
      | (at_next; refine wpList_next_ranges_ii _ rfl _ rfl 38 3 .u32 .i64 K und_u32 und_int m w.heap.size nm _ _ _ rfl RG.out.rg ?_ ?_)
      | fail)
    · intro hc0 hl0
      have HO := Lib.hid (map_of HD.out.1 (RG.out.k.block m (World.ownsMap.lt HD.out.1)))
      clear hlk
      go_wp2_with (first
        | (at_delete; refine wpList_delete_own _ rfl _ _ 111 38 rfl 3 K und_mapi (plainElem Try.prog 3) m nm D rfl HO.out _ (.int .u32 (k : Int)) rfl HKE.out ?_; intro w5 ho5 ht5; have HO5 := Lib.hid ho5; have HT5 := Lib.hid ht5; clear ho5 ht5)
        | fail)
      refine bodyPost_ret (v := .bool true) (by simp [results, Try.results61, go_sem]) rfl ⟨rfl, ⟨_, HO5.out, HD.out.2.1.del (HD.out.1.tidy K) k⟩, ?_⟩
      obtain ⟨e1, e2, e3, e4, e5⟩ := HT5.out.grown
      have hb := RG.out.k
      have hs := hb.size
      refine ⟨?_, ?_, ?_, by omega, fun j hj hne => (e5 j (by omega) (by simpa using hne)).trans (hb.block j hj)⟩
      · first | exact e1.trans hb.os | exact e1.symm.trans hb.os
      · first | exact e2.trans hb.tape | exact e2.symm.trans hb.tape
      · first | exact e3.trans hb.output | exact e3.symm.trans hb.output
    · intro x c w1 cnt1 hwx hwc hlx hat hrg1 hlt hg1 hs1 hen
      have hx : 0 ≤ x ∧ x < 4294967296 := by
        have h' : (decide ((0 : Int) ≤ x) && decide (x ≤ 4294967295)) = true := hwx
        simp at h'
        omega
      have hc : (n : Int) ≤ c := by
        obtain ⟨xn, rfl⟩ : ∃ xn : Nat, x = xn := ⟨x.toNat, by omega⟩
        have hh := RG.out.sub _ hlx
        rw [HD.out.2.1.keys xn, decide_eq_true_iff] at hh
        obtain ⟨⟨a, b⟩, hab, rfl⟩ := List.mem_map.1 hh
        have h1 := (HD.out.2.1.at_ a b hab).2 (.lit (.int .i64 0))
        have h2 := hat (.lit (.int .i64 0))
        have h3 := h1.symm.trans h2
        injection h3 with h3
        injection h3 with _ h3
        have h4 := HD.out.2.2.2.2 _ hab
        simp only at h4
        omega
      have hcn : ¬ c < (n : Int) := by omega
      have HRG1 := Lib.hid (show Og w w1 m w.heap.size nm D S _ cnt1 from ⟨hrg1, fun z hz => RG.out.sub z (by simp at hz; exact hz.1), grown_below hg1 (by simp) RG.out.k⟩)
      clear hwx hlx hat hrg1 hg1 hlk
      go_wp2_with fail
      go_roundw
      case rel => exact ⟨_, cnt1, HRG1.out⟩
      case measure => rw [HRG1.out.rg.left_eq, RG.out.rg.left_eq]; omega
/-- the calls: what, key, n -/
def Ac3 (B : Nat) (w : World) (a : Option Addr) (len : Nat) (f0 f1 f2 : Nat → Int) : Prop := ∀ i, i < len → ∃ x, a = some x ∧ x.block < B ∧ w.cell? (x.add (i * 3)) = some (.int .i64 (f0 i)) ∧ w.cell? ⟨(x.add (i * 3)).block, (x.add (i * 3)).off + 1, none⟩ = some (.int .u32 (f1 i)) ∧ w.cell? ⟨(x.add (i * 3)).block, (x.add (i * 3)).off + 2, none⟩ = some (.int .i64 (f2 i)) ∧ 0 ≤ f1 i ∧ f1 i < 4294967296
theorem a3_pos (x : Addr) (m k : Nat) (hk : k ≠ 0) : x.add (m + k) = ⟨(x.add m).block, (x.add m).off + k, none⟩ := by
  unfold Addr.add
  by_cases h1 : m = 0
  · subst h1; simp [hk]
  · simp [h1, hk, Nat.add_assoc]
theorem a3_block (x : Addr) (m : Nat) : (x.add m).block = x.block := by unfold Addr.add; split <;> rfl
theorem a3_lt {w : World} {x : Addr} {v : Value} (h : w.cell? x = some v) : x.block < w.heap.size := by
  rcases Nat.lt_or_ge x.block w.heap.size with h' | h'
  · exact h'
  · simp [World.cell?, Array.getElem?_eq_none h'] at h
theorem a3_u32 {z : Int} (h : (Lit.int .u32 z).wf = true) : 0 ≤ z ∧ z < 4294967296 := by
  have h' : (decide ((0 : Int) ≤ z) && decide (z ≤ 4294967295)) = true := h
  simp at h'
  omega
theorem ac3_of {w : World} {a : Option Addr} {len cap : Nat} (h : (a = none ∧ len = 0) ∨ ∃ x, a = some x ∧ len ≤ cap ∧ cap ≤ maxLen ∧ ∀ i, i < len → ∃ (z0 : Int) (z1 : Int) (z2 : Int), w.cell? (x.add (i * 3 + 0)) = some (.int .i64 z0) ∧ w.cell? (x.add (i * 3 + 1)) = some (.int .u32 z1) ∧ w.cell? (x.add (i * 3 + 2)) = some (.int .i64 z2) ∧ (Lit.int .i64 z0).wf = true ∧ (Lit.int .u32 z1).wf = true ∧ (Lit.int .i64 z2).wf = true) :
    ∃ f0 f1 f2, Ac3 w.heap.size w a len f0 f1 f2 := by
  rcases h with ⟨-, rfl⟩ | ⟨x, rfl, -, -, h⟩
  · exact ⟨fun _ => 0, fun _ => 0, fun _ => 0, fun i hi => by omega⟩
  · have h' : ∀ i : Nat, ∃ p : Int × Int × Int, i < len → x.block < w.heap.size ∧ w.cell? (x.add (i * 3)) = some (.int .i64 p.1) ∧ w.cell? ⟨(x.add (i * 3)).block, (x.add (i * 3)).off + 1, none⟩ = some (.int .u32 p.2.1) ∧ w.cell? ⟨(x.add (i * 3)).block, (x.add (i * 3)).off + 2, none⟩ = some (.int .i64 p.2.2) ∧ 0 ≤ p.2.1 ∧ p.2.1 < 4294967296 := fun i => by
      by_cases hi : i < len
      · obtain ⟨z0, z1, z2, h0, h1, h2, -, h3, -⟩ := h i hi
        rw [a3_pos x _ 1 (by decide)] at h1
        rw [a3_pos x _ 2 (by decide)] at h2
        rw [Nat.add_zero] at h0
        have := a3_lt h0
        rw [a3_block] at this
        exact ⟨(z0, z1, z2), fun _ => ⟨this, h0, h1, h2, a3_u32 h3⟩⟩
      · exact ⟨(0, 0, 0), fun hh => absurd hh hi⟩
    refine ⟨fun i => (h' i).choose.1, fun i => (h' i).choose.2.1, fun i => (h' i).choose.2.2, fun i hi => ?_⟩
    exact ⟨x, rfl, (h' i).choose_spec hi⟩
theorem Ac3.below {B : Nat} {w w' : World} {a : Option Addr} {len : Nat} {f0 f1 f2 : Nat → Int} (h : Ac3 B w a len f0 f1 f2) (hb : Below B w w') : Ac3 B w' a len f0 f1 f2 := fun i hi => by
  obtain ⟨x, h0, hx, h3, h4, h5, h6⟩ := h i hi
  have e := hb.block x.block hx
  refine ⟨x, h0, hx, ?_, ?_, ?_, h6⟩
  · exact (World.cell?_of_block (a := x.add (i * 3)) (show w'.heap[(x.add (i * 3)).block]? = w.heap[(x.add (i * 3)).block]? by rw [a3_block]; exact e)).trans h3
  · exact (World.cell?_of_block (a := ⟨(x.add (i * 3)).block, (x.add (i * 3)).off + 1, none⟩) (show w'.heap[(x.add (i * 3)).block]? = w.heap[(x.add (i * 3)).block]? by rw [a3_block]; exact e)).trans h4
  · exact (World.cell?_of_block (a := ⟨(x.add (i * 3)).block, (x.add (i * 3)).off + 2, none⟩) (show w'.heap[(x.add (i * 3)).block]? = w.heap[(x.add (i * 3)).block]? by rw [a3_block]; exact e)).trans h5
/-- the state between two calls: the list at b, the map of times at m -/
structure Hs (w v : World) (b m i : Nat) (most : Nat) (S : List (Nat × Nat)) : Prop where
  gx : Gx w v b i 10000 (most : Int) (S.map Prod.fst) (fun j => j = m)
  mo : ∃ nm, nm ≤ i ∧ Mo v m nm S
  dec : S.Pairwise fun p q => q.2 < p.2
  lt : ∀ p ∈ S, p.2 < i
  ml : w.heap.size ≤ m
  mb : most ≤ 100
  len : S.length ≤ most
section
variable {w v v' : World} {b m i most : Nat} {S : List (Nat × Nat)}
theorem Mo.of {nm : Nat} (h : Mo v m nm S) (e : v'.heap[m]? = v.heap[m]?) : Mo v' m nm S := by
  obtain ⟨D, h1, h2⟩ := h
  exact ⟨D, map_of h1 e, h2⟩
theorem Mo.lt {nm : Nat} (h : Mo v m nm S) : m < v.heap.size := by
  obtain ⟨D, h1, h2⟩ := h
  exact World.ownsMap.lt h1
theorem Hs.mlt (h : Hs w v b m i most S) : m < v.heap.size := by
  obtain ⟨nm, h1, h2⟩ := h.mo
  exact h2.lt
theorem Hs.below (h : Hs w v b m i most S) (hb : Below v.heap.size v v') : Hs w v' b m i most S := by
  obtain ⟨nm, h1, h2⟩ := h.mo
  exact ⟨h.gx.below' hb, ⟨nm, h1, h2.of (hb.block m h2.lt)⟩, h.dec, h.lt, h.ml, h.mb, h.len⟩
theorem Hs.next (h : Hs w v b m i most S) : Hs w v b m (i + 1) most S := by
  obtain ⟨nm, h1, h2⟩ := h.mo
  exact ⟨h.gx.mono (by omega) (Nat.le_refl _), ⟨nm, by omega, h2⟩, h.dec, fun p hp => by have := h.lt p hp; omega, h.ml, h.mb, h.len⟩
theorem Hs.klt (h : Hs w v b m i most S) : ∀ p ∈ S, p.1 < 4294967296 := fun p hp => h.gx.klt _ (List.mem_map.2 ⟨p, hp, rfl⟩)
/-- an operation of the object, the map aside -/
theorem Hs.gxr {most' : Nat} {S' : List (Nat × Nat)} {K : Nat} (h : Hs w v b m i most S) (hr : GxR w v v' b K 10000 (most' : Int) (S'.map Prod.fst) (fun j => j = m)) : Gx w v' b K 10000 (most' : Int) (S'.map Prod.fst) (fun j => j = m) ∧ ∃ nm, nm ≤ i ∧ Mo v' m nm S := by
  obtain ⟨nm, h1, h2⟩ := h.mo
  exact ⟨hr.1, nm, h1, h2.of (hr.2.1 m rfl)⟩
/-- oldest turns the map alone -/
theorem Gx.maps {K B : Nat} {z : Int} {keys : List Nat} (h : Gx w v b K B z keys (fun j => j = m)) (hk : Kp (fun j => j = m) v v') (hm : m < v.heap.size) (hml : w.heap.size ≤ m) : Gx w v' b K B z keys (fun j => j = m) :=
  (h.aside hk (fun k hk _ => hk) (fun k hk => .inl (by omega))).only fun k hk => .inl hk
end
/-- within a round: the list, the map of times, the box of the call -/
structure Hb (w v : World) (b m bx K : Nat) (most : Int) (keys : List Nat) (nm : Nat) (S : List (Nat × Nat)) (what k z : Int) : Prop where
  gx : Gx w v b K 10000 most keys (fun j => j = m ∨ j = bx)
  mo : Mo v m nm S
  box : v.heap[bx]? = some (.cells #[.int .i64 what, .int .u32 k, .int .i64 z] 113 (0, 0))
  ml : w.heap.size ≤ m
  xl : w.heap.size ≤ bx
  ne : m ≠ bx
section
variable {w v v' : World} {b m bx K nm i : Nat} {most : Int} {keys : List Nat} {S : List (Nat × Nat)} {what k z : Int}
theorem Hb.cells (h : Hb w v b m bx K most keys nm S what k z) : v.cell? ⟨bx, 0, none⟩ = some (.int .i64 what) ∧ v.cell? ⟨bx, 1, none⟩ = some (.int .u32 k) ∧ v.cell? ⟨bx, 2, none⟩ = some (.int .i64 z) := by
  have h1 := h.box
  refine ⟨?_, ?_, ?_⟩ <;> simp [World.cell?, h1]
theorem Hb.op {K' : Nat} {most' : Int} {keys' : List Nat} (h : Hb w v b m bx K most keys nm S what k z) (hr : GxR w v v' b K' 10000 most' keys' (fun j => j = m ∨ j = bx)) : Hb w v' b m bx K' most' keys' nm S what k z :=
  ⟨hr.1, h.mo.of (hr.2.1 m (.inl rfl)), (hr.2.1 bx (.inr rfl)).trans h.box, h.ml, h.xl, h.ne⟩
theorem Hb.blt (h : Hb w v b m bx K most keys nm S what k z) : bx < v.heap.size := (Array.getElem?_eq_some_iff.1 h.box).1
theorem Hb.old {nm' : Nat} {S' : List (Nat × Nat)} (h : Hb w v b m bx K most keys nm S what k z) (mo : Mo v' m nm' S') (hk : Kp (fun j => j = m) v v') : Hb w v' b m bx K most keys nm' S' what k z :=
  ⟨(h.gx.aside hk (fun k hk _ => .inl hk) (fun k hk => .inl (by rcases hk with rfl | rfl; exact h.ml; exact h.xl))).only fun k hk => .inl hk, mo, (hk.block bx h.blt fun e => h.ne e.symm).trans h.box, h.ml, h.xl, h.ne⟩
theorem Hb.below (h : Hb w v b m bx K most keys nm S what k z) (hb : Below v.heap.size v v') : Hb w v' b m bx K most keys nm S what k z :=
  ⟨h.gx.below' hb, h.mo.of (hb.block m h.mo.lt), (hb.block bx h.blt).trans h.box, h.ml, h.xl, h.ne⟩
theorem Hs.box {mst : Nat} (h : Hs w v b m i mst S) : ∃ nm, nm ≤ i ∧ Hb w (v.alloc (.cells #[.int .i64 what, .int .u32 k, .int .i64 z] 113)) b m v.heap.size i (mst : Int) (S.map Prod.fst) nm S what k z := by
  obtain ⟨nm, h1, h2⟩ := h.mo
  have hb : Below v.heap.size v (v.alloc (.cells #[.int .i64 what, .int .u32 k, .int .i64 z] 113)) := by go_grown
  have hs := h.gx.bl.size
  refine ⟨nm, h1, (h.gx.below hb).only fun j hj => ?_, h2.of (hb.block m h2.lt), (MapKept.heap_alloc v _).1, h.ml, hs, by have := h2.lt; omega⟩
  rcases hj with hj | hj
  · exact .inl hj
  · exact .inr ⟨by omega, by rw [World.size_alloc]; omega⟩
theorem Hb.hs {mst : Nat} (h : Hb w v b m bx K (mst : Int) keys nm S what k z) (e : S.map Prod.fst = keys) (hK : K ≤ i) (hnm : nm ≤ i) (dec : S.Pairwise fun p q => q.2 < p.2) (lt : ∀ p ∈ S, p.2 < i) (mb : mst ≤ 100) (len : S.length ≤ mst) : Hs w v b m i mst S :=
  ⟨e ▸ ((h.gx.only fun k hk => .inl hk).mono hK (Nat.le_refl _)), ⟨nm, hnm, h.mo⟩, dec, lt, h.ml, mb, len⟩
end
theorem kp_grown {w v : World} {m : Nat} (h : w.grownBy v (some m)) : Kp (fun j => j = m) w v := by
  obtain ⟨e1, e2, e3, e4, e5⟩ := h
  refine ⟨?_, ?_, ?_, by omega, fun j hj hne => e5 j hj (by simpa using hne)⟩
  · first | exact e1 | exact e1.symm
  · first | exact e2 | exact e2.symm
  · first | exact e3 | exact e3.symm
theorem wo_last {T : List (Nat × Nat)} {x n : Nat} (h : ((T ++ [(x, n)]).map Prod.fst).Nodup) : wo (T ++ [(x, n)]) x = T := by
  have h1 : x ∉ T.map Prod.fst := by
    rw [List.map_append] at h
    exact fun hx => (List.nodup_append.1 h).2.2 _ hx _ (by simp) rfl
  have h2 := wo_no h1
  unfold wo at *
  rw [List.filter_append, h2]
  simp
theorem last_le {T : List (Nat × Nat)} {x n : Nat} (h : (T ++ [(x, n)]).Pairwise fun p q => q.2 < p.2) : ∀ p ∈ T ++ [(x, n)], n ≤ p.2 := by
  intro p hp
  rcases List.mem_append.1 hp with hp | hp
  · have := (List.pairwise_append.1 h).2.2 p hp (x, n) (by simp)
    simp only at this
    omega
  · cases List.mem_singleton.1 hp
    exact Nat.le_refl _
theorem res_at {S : List (Nat × Nat)} {M j : Nat} (h : j < S.length - M) : ∃ xk xn : Nat, S.take (S.length - j) = S.take (S.length - (j + 1)) ++ [(xk, xn)] ∧ (ints (((S.map Prod.fst).drop M).reverse))[j]? = some (xk : Int) := by
  have hq : S.length - (j + 1) < S.length := by omega
  refine ⟨(S[S.length - (j + 1)]).1, (S[S.length - (j + 1)]).2, ?_, ?_⟩
  · rw [show S.length - j = S.length - (j + 1) + 1 by omega, List.take_add_one, List.getElem?_eq_getElem hq]
    rfl
  · unfold ints
    rw [List.getElem?_map, List.getElem?_reverse (by simp; omega), List.getElem?_drop, List.getElem?_map, List.length_drop, List.length_map, show M + (S.length - M - 1 - j) = S.length - (j + 1) by omega, List.getElem?_eq_getElem hq]
    rfl
theorem take_end (S : List (Nat × Nat)) (M : Nat) : S.take (S.length - (S.length - M)) = S.take M := by
  by_cases h : M ≤ S.length
  · rw [show S.length - (S.length - M) = M by omega]
  · rw [List.take_of_length_le (by omega), List.take_of_length_le (by omega)]
theorem row_ru {w : World} {B n : Nat} {v : Value} {l : List Int} (h : w.ownsRow B 38 1 v n (l.map (Value.int .u32))) (hl : l.length = n) : ∃ p c, v = .slice p n c ∧ Ru w p l ∧ ∀ y, p = some y → B ≤ y.block := by
  subst hl
  rcases own_cases h with ⟨rfl, rfl⟩ | ⟨g, cap, rfl, h1, h2, h3, h4, h5⟩
  · exact ⟨none, 0, rfl, fun i x hx => by simp at hx, fun y hy => by cases hy⟩
  · refine ⟨_, cap, rfl, fun i x hx => ?_, fun y hy => by cases hy; exact h1⟩
    obtain ⟨hi, he⟩ := List.getElem?_eq_some_iff.1 hx
    exact ⟨_, rfl, h2, by rw [add2]; have := h5 i hi; rw [he] at this; exact this⟩
/-- what Add makes of the times -/
theorem add_S {S : List (Nat × Nat)} {k i most : Nat} (hnd : (S.map Prod.fst).Nodup) (dec : S.Pairwise fun p q => q.2 < p.2) (lt : ∀ p ∈ S, p.2 < i) (len : S.length ≤ most) :
    ∃ S', S'.map Prod.fst = (addG (most : Int) (S.map Prod.fst) k).1 ∧ (S'.Pairwise fun p q => q.2 < p.2) ∧ (∀ p ∈ S', p.2 < i + 1) ∧ S'.length ≤ most ∧
      (((addG (most : Int) (S.map Prod.fst) k).2.2 = false ∧ (addG (most : Int) (S.map Prod.fst) k).2.1 = 0 ∧ S' = (k, i) :: wo S k) ∨
       ((addG (most : Int) (S.map Prod.fst) k).2.2 = true ∧ ∃ n, ((addG (most : Int) (S.map Prod.fst) k).2.1, n) ∈ (k, i) :: wo S k ∧ (∀ p ∈ (k, i) :: wo S k, n ≤ p.2) ∧ S' = wo ((k, i) :: wo S k) (addG (most : Int) (S.map Prod.fst) k).2.1)) ∧
      (0 < most → ∃ tl, (addG (most : Int) (S.map Prod.fst) k).1 = k :: tl) := by
  have dw : ((k, i) :: wo S k).Pairwise fun p q => q.2 < p.2 := List.pairwise_cons.2 ⟨fun p hp => lt p (wo_mem.1 hp).1, dec.filter _⟩
  have lw : ∀ p ∈ (k, i) :: wo S k, p.2 < i + 1 := by
    intro p hp
    rcases List.mem_cons.1 hp with e | hp
    · cases e; show i < i + 1; omega
    · have := lt p (wo_mem.1 hp).1; omega
  unfold addG
  by_cases hin : k ∈ S.map Prod.fst
  · simp only [if_pos hin]
    refine ⟨(k, i) :: wo S k, by rw [List.map_cons, wo_fst hnd], dw, lw, ?_, .inl ⟨trivial, trivial, rfl⟩, fun _ => ⟨_, rfl⟩⟩
    have hl : (wo S k).length = ((S.map Prod.fst).erase k).length := by rw [← wo_fst hnd, List.length_map]
    have hp := List.length_pos_of_mem hin
    rw [List.length_map] at hp
    rw [List.length_cons, hl, List.length_erase_of_mem hin, List.length_map]
    omega
  · simp only [if_neg hin]
    have hw := wo_no hin
    rw [List.length_map]
    rw [hw] at dw lw ⊢
    by_cases hc : (S.length : Int) + 1 ≤ most
    · simp only [if_pos hc]
      exact ⟨(k, i) :: S, rfl, dw, lw, by rw [List.length_cons]; omega, .inl ⟨trivial, trivial, rfl⟩, fun _ => ⟨_, rfl⟩⟩
    · simp only [if_neg hc]
      have hne : (k, i) :: S ≠ [] := by simp
      obtain ⟨T, ⟨x, n⟩, hT⟩ : ∃ T p, (k, i) :: S = T ++ [p] := ⟨_, _, (List.dropLast_concat_getLast hne).symm⟩
      have hk : k :: S.map Prod.fst = T.map Prod.fst ++ [x] := by rw [← List.map_cons (f := Prod.fst) (a := (k, i)), hT]; simp
      have hnd1 : ((T ++ [(x, n)]).map Prod.fst).Nodup := by
        rw [← hT, List.map_cons]
        exact List.nodup_cons.2 ⟨hin, hnd⟩
      have hx : (k :: S.map Prod.fst).getLastD 0 = x := by rw [hk]; simp [List.getLastD_eq_getLast?]
      have hd : (k :: S.map Prod.fst).dropLast = T.map Prod.fst := by rw [hk]; simp
      have hlT : T.length = S.length := by
        have := congrArg List.length hT
        simp at this
        omega
      rw [hx, hd]
      rw [hT] at dw lw ⊢
      refine ⟨T, rfl, (List.pairwise_append.1 dw).1, fun p hp => lw p (by simp [hp]), by omega, .inr ⟨trivial, n, by simp, last_le dw, (wo_last hnd1).symm⟩, fun h0 => ?_⟩
      have hSn : S ≠ [] := by rintro rfl; simp at hc; omega
      refine ⟨(S.map Prod.fst).dropLast, ?_⟩
      rw [← hd]
      exact List.dropLast_cons_of_ne_nil (by simpa using hSn)
end Go.Proofs.Ytjcabdnjimcdgaa.Gho
