/-
  Ghost lists (layer 28): the iterator over the keys.
-/
import Derived.Test.YtggimkfepcgaoaaGhoH
import Derived.Test.YtggimkfepcgaoaaLnkDb
import Derived.Test.YtggimkfepcgaoaaNst
import Derived.Test.YtggimkfepcgaoaaQrd
set_option linter.unusedVariables false
set_option linter.unusedSimpArgs false
namespace Go.Proofs.Ytggimkfepcgaoaa.Gho
open Go Go.RowKit Kit Go.Maps Lnk
attribute [local go_sem] Oper.semAt_some
/-- what must stand while the keys are gone over -/
def Kpg (b c q r g m Bx : Nat) (V : World) (hi : Nat) (A B : World) : Prop := ∀ k, (Obg b c q r g m k ∨ k = Bx ∨ (V.heap.size ≤ k ∧ k < hi)) → B.heap[k]? = A.heap[k]?
theorem key_in {KL L : List Nat} {x : El (ints L)} : ((ky KL x.val.toNat : Nat) : Int) ∈ ints (kys KL L) := by
  have h := x.property
  unfold ints at h ⊢
  obtain ⟨s, hs, e⟩ := List.mem_map.1 h
  refine List.mem_map.2 ⟨ky KL s, List.mem_map.2 ⟨s, hs, rfl⟩, ?_⟩
  rw [← e]
  simp
/-- the key of a node -/
def kel (KL L : List Nat) (x : El (ints L)) : El (ints (kys KL L)) := ⟨(ky KL x.val.toNat : Int), key_in⟩
theorem kel_vals {KL L : List Nat} {ys : List (El (ints L))} (h : vals ys = ints L) : vals (ys.map (kel KL L)) = ints (kys KL L) := by
  have : vals (ys.map (kel KL L)) = (vals ys).map fun z => ((ky KL z.toNat : Nat) : Int) := by
    unfold vals
    rw [List.map_map, List.map_map]
    rfl
  rw [this, h]
  unfold ints kys
  rw [List.map_map, List.map_map]
  apply List.map_congr_left
  intro s _
  simp
theorem own_mono {β : Type} {B B' : Nat} {I : β → World → Prop} (h : OwnFrom B I) (hB : B ≤ B') : OwnFrom B' I := fun s W W' row hs hg hr => h s W W' row hs hg fun r e => ⟨Nat.le_trans hB (hr r e).1, (hr r e).2⟩
theorem own_drew {β : Type} {B : Nat} {I : β → World → Prop} (h : OwnFrom B I) {s : β} {W : World} (hs : I s W) : I s W.drew := h s W _ none hs ⟨rfl, rfl, rfl, Nat.le_refl _, fun _ _ _ => rfl⟩ (fun r e => by cases e)
set_option maxRecDepth 100000 in
theorem gall_any (W : World) (b : Nat) :
    Calls Try.prog 118 #[.pointer (some ⟨b, 0, none⟩)] W fun e w' => e = .returned (.func (.func 147) #[] #[.pointer (some ⟨W.heap.size, 0, none⟩)]) ∧ w' = W.alloc (.cells #[.pointer (some ⟨b, 0, none⟩)] 65) := by
  go_enter Try.func118, Try.ntmps118
  go_wp2_with fail
  go_returns
  exact ⟨rfl, rfl⟩
/-- what a round leaves -/
def Yw (z : Bool) (A B : World → Prop) (W : World) : Prop := (z = true → A W) ∧ (z = false → B W)
set_option maxRecDepth 100000 in
set_option maxHeartbeats 4000000 in
theorem gall_in {w : World} {b c q r cq cr N : Nat} {F : Lnk.Fd} {g kc m nm : Nat} {D : DataW Unit} {most : Int} {L fr KL : List Nat} (H : Gh w b c q r cq cr N F g kc m nm D most L fr KL) {Bx : Nat} (hx : w.heap[Bx]? = some (.cells #[.pointer (some ⟨b, 0, none⟩)] 65 (0, 0))) :
    Nst.SeqOwn Fence.wide 6 3 Try.prog 147 #[.pointer (some ⟨Bx, 0, none⟩)] (fun x : El (ints (kys KL L)) => #[.int .u32 x.val]) (Kpg b c q r g m Bx) (fun ys => vals ys = ints (kys KL L)) (fun pre => True) L.length w := by
  intro l J Jx V hb hJ hJx hY h0
  have HH := Lib.hid (H.below hb)
  have hxl : Bx < w.heap.size := (Array.getElem?_eq_some_iff.1 hx).1
  have HX := Lib.hid (show V.heap[Bx]? = some (.cells #[.pointer (some ⟨b, 0, none⟩)] 65 (0, 0)) ∧ Bx < V.heap.size from ⟨(hb.block _ hxl).trans hx, Nat.lt_of_lt_of_le hxl hb.size⟩)
  have HO := Lib.hid (And.intro hJ (And.intro hJx (And.intro hY h0)))
  have B0 := Lib.hid (box_below V #[.func (.yield l) #[] #[]] 88)
  have Y0 := Lib.hid (MapKept.heap_alloc V (.cells #[.func (.yield l) #[] #[]] 88)).1
  have hs1 : (V.alloc (.cells #[.func (.yield l) #[] #[]] 88)).heap.size = V.heap.size + 1 := by simp
  obtain ⟨V1, hV1⟩ : ∃ V1, V.alloc (.cells #[.func (.yield l) #[] #[]] 88) = V1 := ⟨_, rfl⟩
  rw [hV1] at B0 Y0 hs1
  have H1 := Lib.hid (HH.out.below B0.out)
  have hb1 : V1.cell? ⟨Bx, 0, none⟩ = some (.pointer (some ⟨b, 0, none⟩)) := by
    have := (B0.out.block _ HX.out.2).trans HX.out.1
    simp [World.cell?, this]
  obtain ⟨c0, c1, c2, c3, -⟩ := H1.out.cells
  have HALL := Lib.hid (All_any H1.out.lo (h := 0) (l := L) rfl)
  clear hJ hJx hY h0 hb H hx hxl
  refine callsIn_of_wp_marks Try.func147 rfl trivial ?_ rfl
  simp only [Try.ntmps147, List.size_toArray, List.length_cons, List.length_nil, Nat.reduceAdd, Nat.reduceSub, Array.replicate_succ, Array.replicate_zero, List.push_toArray, List.append_toArray, List.nil_append, List.cons_append]
  gi_wp2
  clear hV1
  refine ⟨trivial, ?_⟩
  refine (callsIn_wide.2 HALL.out).mono ?_
  rintro e V2 ⟨⟨g2, p, cp, rfl, hg1, hg2, hcg, hru, hpf⟩, b2⟩
  have H2 := Lib.hid (H1.out.below b2)
  have BB := Lib.hid (B0.out.trans (b2.mono (by omega)))
  have hsz := b2.size
  have HG := Lib.hid (show V1.heap.size ≤ g2 ∧ g2 < V2.heap.size ∧ V2.cell? ⟨g2, 0, none⟩ = some (.slice p (ints L).length cp) ∧ Ru V2 p (ints L) ∧ (∀ y, p = some y → V1.heap.size ≤ y.block) from ⟨hg1, hg2, hcg, hru, hpf⟩)
  have HLN := Lib.hid (show (ints L).length ≤ 4194304 from by rw [ints_len]; exact H1.out.lo.len_le (show [L, fr][0]? = some L from rfl))
  have Y2 := Lib.hid ((b2.block V.heap.size (by omega)).trans Y0.out)
  have X2 := Lib.hid ((BB.out.block Bx HX.out.2).trans HX.out.1)
  have OBL := Lib.hid (show ∀ k, Obg b c q r g m k → k < V.heap.size from fun k hk => HH.out.blk hk)
  have hp : ∀ (A B : World), Kpg b c q r g m Bx V V2.heap.size A B ∧ A.heap.size ≤ B.heap.size → V2.heap.size ≤ A.heap.size → True := fun _ _ _ _ => trivial
  clear HALL hg1 hg2 hcg hru hpf b2 hb1 c0 c1 c2 c3 hp
  gi_wp2
  refine' wpIn_rangeFunc_ownG (encs := fun x : El (ints L) => #[.int .u32 x.val]) (Kp := fun A B => Kpg b c q r g m Bx V V2.heap.size A B ∧ A.heap.size ≤ B.heap.size) (S := fun ys => vals ys = ints L) (Sp := fun pre => vals pre <+: ints L) (N := (ints L).length) rfl (by decide) (gf := 89) (lb := #[.pointer (some ⟨g2, 0, none⟩)]) rfl trivial (enters_of Try.func89 (by kernel_rfl) rfl)
    (w0 := V2)
    (fun l2 J2 Jx2 W hW _ _ hY2 h02 => allsub_in (fun A B => Kpg b c q r g m Bx V V2.heap.size A B ∧ A.heap.size ≤ B.heap.size) l2 g2 p cp (ints L) HLN.out J2 Jx2
      (fun W1 W2 hh r i x hx => by
        obtain ⟨y, hy, hyb, hyc⟩ := r i x hx
        obtain ⟨y', hy', hyb', -⟩ := HG.out.2.2.2.1 i x hx
        rw [hy] at hy'
        cases hy'
        refine ⟨y, hy, Nat.lt_of_lt_of_le hyb hh.2, ?_⟩
        rw [← hyc]
        unfold World.cell?
        rw [add_block, hh.1 y.block (.inr (.inr ⟨by have := HG.out.2.2.2.2 y hy; omega, hyb'⟩))])
      hY2 W ((hW.cell (p := ⟨g2, 0, none⟩) HG.out.2.1).trans HG.out.2.2.1) (HG.out.2.2.2.1.below hW) h02)
    (fun h k => ⟨fun x hx => (k.1 x hx).trans (h.1 x hx), Nat.le_trans h.2 k.2⟩)
    (fun W l o o' h1 h2 h3 h4 => ⟨fun k hk => World.putObj_heap_other (by
      rcases hk with hk | rfl | ⟨-, hk⟩
      · have := OBL.out k hk; omega
      · have := HX.out.2; omega
      · omega), by simp [World.putObj]⟩) (Below.refl _ _) (fun _ => rfl)
    (fun pre W => J V2.heap.size (pre.map (kel KL L)) W ∧ (∀ k, k < V2.heap.size → (Obg b c q r g m k ∨ k = Bx ∨ V.heap.size ≤ k) → W.heap[k]? = V2.heap[k]?) ∧ V2.heap.size ≤ W.heap.size)
    (fun cd pre W => cd = .ret ∧ ∃ pre', Jx V2.heap.size pre' W)
    (fun pre W W' row hI hg hr => ?ownI) (fun cd pre W W' row hI hg hr => ?ownX) ⟨HO.out.2.2.2 V2 BB.out, fun _ _ _ => rfl, Nat.le_refl _⟩
    _ ?assign ?body ?done ?stop
  case ownI =>
    obtain ⟨h1, h2, h3⟩ := hI
    refine ⟨own_mono (HO.out.1 _) (by omega) _ _ _ _ h1 hg hr, fun k hk hk2 => ?_, Nat.le_trans h3 hg.size⟩
    rw [hg.block k (by omega) fun e => by have := (hr k e.symm).1; omega]
    exact h2 k hk hk2
  case ownX =>
    obtain ⟨h1, p', h2⟩ := hI
    exact ⟨h1, p', own_mono (HO.out.2.1 _) (by omega) _ _ _ _ h2 hg hr⟩
  case assign =>
    intro l x W K hK
    gi_wp2
    exact hK
  case body =>
    rintro l2 pre x W ⟨hJ, hst, hsw⟩ hlt
    obtain ⟨xv, hxp⟩ := x
    obtain ⟨s, hsL, rfl⟩ := List.mem_map.1 (show xv ∈ L.map (fun s : Nat => (s : Int)) from hxp)
    have HJW := Lib.hid (own_drew (HO.out.1 V2.heap.size) hJ)
    have HWG := Lib.hid (H2.out.of (w' := W) fun k hk => hst k (by have := OBL.out k hk; omega) (.inl hk))
    have HW := Lib.hid (show (∀ k, k < V2.heap.size → (Obg b c q r g m k ∨ k = Bx ∨ V.heap.size ≤ k) → W.heap[k]? = V2.heap[k]?) ∧ V2.heap.size ≤ W.heap.size from ⟨hst, hsw⟩)
    obtain ⟨c0, c1, c2, c3, -⟩ := HWG.out.cells
    have d2 : W.drew.cell? ⟨b, 2, none⟩ = some (.slice (some ⟨g, 0, none⟩) N kc) := c2
    have d1 : W.drew.cell? ⟨Bx, 0, none⟩ = some (.pointer (some ⟨b, 0, none⟩)) := by
      have := (hst Bx (by have := HX.out.2; omega) (.inr (.inl rfl))).trans X2.out
      show W.cell? _ = _
      simp [World.cell?, this]
    have d0 : W.drew.cell? ⟨V.heap.size, 0, none⟩ = some (.func (.yield l) #[] #[]) := by
      have := (hst V.heap.size (by omega) (.inr (.inr (Nat.le_refl _)))).trans Y2.out
      show W.cell? _ = _
      simp [World.cell?, this]
    obtain ⟨key, hkey⟩ : ∃ key : Int, ((ky KL s : Nat) : Int) = key := ⟨_, rfl⟩
    have hsN : s < N := HWG.out.nodeLt hsL
    have dk : W.drew.cell? ⟨g, s, none⟩ = some (.int .u32 key) := by
      have h := (HWG.out.ks.cells (g := g) rfl s (.int .u32 key) (by
        unfold ints
        rw [List.map_map, List.getElem?_map, List.getElem?_eq_getElem (by rw [HWG.out.kl]; exact hsN), ← hkey]
        unfold ky
        rw [List.getElem?_eq_getElem (by rw [HWG.out.kl]; exact hsN)]
        rfl))
      rw [App.add2] at h
      exact h
    have i1 : (s : Int) < (N : Int) := by omega
    have i2 : (0 : Int) ≤ (s : Int) := by omega
    have hkx : (kel KL L ⟨(s : Int), hxp⟩).val = key := by unfold kel; rw [← hkey]; simp
    obtain ⟨fn, tmps, assign, body, hy, hR⟩ := HO.out.2.2.1 V2.heap.size (pre.map (kel KL L)) (kel KL L ⟨(s : Int), hxp⟩) W.drew (by omega) HJW.out (by rw [List.length_map]; rw [ints_len] at hlt; exact hlt)
    rw [hkx] at hy
    have HRR := Lib.hid (hR.mono (R' := fun e W' => ∃ z : Bool, e = .returned (.bool z) ∧ Hid (Yw z (fun W' => J V2.heap.size (pre.map (kel KL L) ++ [kel KL L ⟨(s : Int), hxp⟩]) W' ∧ KeepsFrom V.heap.size W.drew W' ∧ Kpg b c q r g m Bx V V2.heap.size W.drew W') (fun W' => Jx V2.heap.size (pre.map (kel KL L) ++ [kel KL L ⟨(s : Int), hxp⟩]) W' ∧ KeepsFrom V.heap.size W.drew W') W')) fun e W' h => by
      rcases h with ⟨rfl, h1, h2, h3⟩ | ⟨rfl, h1, h2⟩
      · exact ⟨true, rfl, Lib.hid ⟨fun _ => ⟨h1, h2, h3⟩, (fun h => by cases h)⟩⟩
      · exact ⟨false, rfl, Lib.hid ⟨(fun h => by cases h), fun _ => ⟨h1, h2⟩⟩⟩)
    clear hJ hst hsw hR hsL c0 c1 c2 c3 hkey hkx hsN hlt
    have hmix : Try.prog.follows .mixedOrders = true := by kernel_rfl
    gi_wp2
    refine Qrd.region_tail 8 (by kernel_rfl) (by kernel_rfl) (by kernel_rfl) ?_
    simp only [List.take_succ_cons, List.take_zero, List.drop_succ_cons, List.drop_zero]
    repeat still_step
    try refine wpStill_nil ?_
    gi_wp2
    refine HRR.out.mono ?_
    rintro e W3 ⟨z, rfl, HY3⟩
    clear hy HRR d0 d1 d2 dk
    cases z with
    | true =>
      gi_wp2
      obtain ⟨h1, h2, h3⟩ := HY3.out.1 rfl
      refine ⟨⟨h2.size, fun k o hB ho hc => h2.same k o (by omega) ho hc⟩, ⟨h3, h2.size⟩, ?_, fun k hk hk2 => (h3 k ?_).trans (HW.out.1 k hk hk2), Nat.le_trans HW.out.2 h2.size⟩
      · rw [List.map_append]
        exact h1
      · rcases hk2 with h | h | h
        · exact .inl h
        · exact .inr (.inl h)
        · exact .inr (.inr ⟨h, hk⟩)
    | false =>
      gi_wp2
      obtain ⟨h1, h2⟩ := HY3.out.2 rfl
      exact ⟨⟨h2.size, fun k o hB ho hc => h2.same k o (by omega) ho hc⟩, rfl, _, h1⟩
  case done =>
    rintro D1 ys W hD hys ⟨hJ, -, -⟩ hK
    gi_wp2
    refine ⟨by simp, .inl ⟨_, _, rfl, run_takeDeferred hK, ?_⟩⟩
    exact ⟨.tuple #[], by simp [results, Try.results147, go_sem], ⟨_, rfl⟩, .inl ⟨V2.heap.size, _, by omega, kel_vals hys, (HO.out.1 _).putObj _ hJ (by omega) hK rfl⟩⟩
  case stop =>
    rintro D1 cd pre W hD hpre ⟨rfl, p', hJ⟩ hK
    gi_wp2
    refine ⟨by simp, .inl ⟨_, _, rfl, run_takeDeferred hK, ?_⟩⟩
    exact ⟨.tuple #[], by simp [results, Try.results147, go_sem], ⟨_, rfl⟩, .inr ⟨V2.heap.size, p', by omega, trivial, (HO.out.2.1 _).putObj _ hJ (by omega) hK rfl⟩⟩
end Go.Proofs.Ytggimkfepcgaoaa.Gho
