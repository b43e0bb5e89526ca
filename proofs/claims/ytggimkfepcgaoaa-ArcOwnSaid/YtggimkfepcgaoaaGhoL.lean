/-
  Ghost lists (layer 28): the iterator over the keys.
-/
import Derived.Test.YtggimkfepcgaoaaGhoH
import Derived.Test.YtggimkfepcgaoaaLnkDb
import Derived.Test.YtggimkfepcgaoaaQrd
import Derived.Test.YtggimkfepcgaoaaGhoD
import Derived.Maps.OwnIn
set_option linter.unusedVariables false
set_option linter.unusedSimpArgs false
section
namespace Go.Proofs.Ytggimkfepcgaoaa.Gho
open Go Go.RowKit Kit Go.Maps Lnk
attribute [local go_sem] Oper.semAt_some
/-- what must stand while the keys are gone over -/
def Kpg (b c q r g m Bx : Nat) (V : World) (hi : Nat) (A B : World) : Prop := ∀ k, (Obg b c q r g m k ∨ k = Bx ∨ (V.heap.size ≤ k ∧ k < hi)) → B.heap[k]? = A.heap[k]?
theorem key_in {KL L : List Nat} {x : El (ints L)} : ((ky KL x.val.toNat : Nat) : Int) ∈ ints (kys KL L) := by
  have h := x.property
  unfold ints at h ⊢
  obtain ⟨s, hs, e⟩ := List.mem_map.1 h
  refine List.mem_map.2 ⟨ky KL s, List.mem_map.2 ⟨s, hs, rfl⟩, ?_⟩
  rw [← e]
  simp
/-- the key of a node -/
def kel (KL L : List Nat) (x : El (ints L)) : El (ints (kys KL L)) := ⟨(ky KL x.val.toNat : Int), key_in⟩
theorem kel_vals {KL L : List Nat} {ys : List (El (ints L))} (h : vals ys = ints L) : vals (ys.map (kel KL L)) = ints (kys KL L) := by
  have : vals (ys.map (kel KL L)) = (vals ys).map fun z => ((ky KL z.toNat : Nat) : Int) := by
    unfold vals
    rw [List.map_map, List.map_map]
    rfl
  rw [this, h]
  unfold ints kys
  rw [List.map_map, List.map_map]
  apply List.map_congr_left
  intro s _
  simp
theorem own_mono {β : Type} {B B' : Nat} {I : β → World → Prop} (h : OwnFrom B I) (hB : B ≤ B') : OwnFrom B' I := fun s W W' row hs hg hr => h s W W' row hs hg fun r e => ⟨Nat.le_trans hB (hr r e).1, (hr r e).2⟩
theorem own_drew {β : Type} {B : Nat} {I : β → World → Prop} (h : OwnFrom B I) {s : β} {W : World} (hs : I s W) : I s W.drew := h s W _ none hs ⟨rfl, rfl, rfl, Nat.le_refl _, fun _ _ _ => rfl⟩ (fun r e => by cases e)
set_option maxRecDepth 100000 in
theorem gall_any (W : World) (b : Nat) :
    Calls Try.prog 118 #[.pointer (some ⟨b, 0, none⟩)] W fun e w' => e = .returned (.func (.func 147) #[] #[.pointer (some ⟨W.heap.size, 0, none⟩)]) ∧ w' = W.alloc (.cells #[.pointer (some ⟨b, 0, none⟩)] 65) := by
  go_enter Try.func118, Try.ntmps118
  go_wp2_with fail
  go_returns
  exact ⟨rfl, rfl⟩
/-- what a round leaves -/
def Yw (z : Bool) (A B : World → Prop) (W : World) : Prop := (z = true → A W) ∧ (z = false → B W)
set_option maxRecDepth 100000 in
set_option maxHeartbeats 4000000 in
theorem gall_in {w : World} {b c q r cq cr N : Nat} {F : Lnk.Fd} {g kc m nm : Nat} {D : DataW Unit} {most : Int} {L fr KL : List Nat} (H : Gh w b c q r cq cr N F g kc m nm D most L fr KL) {Bx : Nat} (hx : w.heap[Bx]? = some (.cells #[.pointer (some ⟨b, 0, none⟩)] 65 (0, 0))) :
    Nst.SeqOwn Fence.wide 6 3 Try.prog 147 #[.pointer (some ⟨Bx, 0, none⟩)] (fun x : El (ints (kys KL L)) => #[.int .u32 x.val]) (Kpg b c q r g m Bx) (fun ys => vals ys = ints (kys KL L)) (fun pre => True) L.length w := by
  intro l J Jx V hb hJ hJx hY h0
  have HH := Lib.hid (H.below hb)
  have hxl : Bx < w.heap.size := (Array.getElem?_eq_some_iff.1 hx).1
  have HX := Lib.hid (show V.heap[Bx]? = some (.cells #[.pointer (some ⟨b, 0, none⟩)] 65 (0, 0)) ∧ Bx < V.heap.size from ⟨(hb.block _ hxl).trans hx, Nat.lt_of_lt_of_le hxl hb.size⟩)
  have HO := Lib.hid (And.intro hJ (And.intro hJx (And.intro hY h0)))
  have B0 := Lib.hid (box_below V #[.func (.yield l) #[] #[]] 88)
  have Y0 := Lib.hid (MapKept.heap_alloc V (.cells #[.func (.yield l) #[] #[]] 88)).1
  have hs1 : (V.alloc (.cells #[.func (.yield l) #[] #[]] 88)).heap.size = V.heap.size + 1 := by simp
  obtain ⟨V1, hV1⟩ : ∃ V1, V.alloc (.cells #[.func (.yield l) #[] #[]] 88) = V1 := ⟨_, rfl⟩
  rw [hV1] at B0 Y0 hs1
  have H1 := Lib.hid (HH.out.below B0.out)
  have hb1 : V1.cell? ⟨Bx, 0, none⟩ = some (.pointer (some ⟨b, 0, none⟩)) := by
    have := (B0.out.block _ HX.out.2).trans HX.out.1
    simp [World.cell?, this]
  obtain ⟨c0, c1, c2, c3, -⟩ := H1.out.cells
  have HALL := Lib.hid (All_any H1.out.lo (h := 0) (l := L) rfl)
  clear hJ hJx hY h0 hb H hx hxl
  refine callsIn_of_wp_marks Try.func147 rfl trivial ?_ rfl
  simp only [Try.ntmps147, List.size_toArray, List.length_cons, List.length_nil, Nat.reduceAdd, Nat.reduceSub, Array.replicate_succ, Array.replicate_zero, List.push_toArray, List.append_toArray, List.nil_append, List.cons_append]
  gi_wp2
  clear hV1
  refine ⟨trivial, ?_⟩
  refine (callsIn_wide.2 HALL.out).mono ?_
  rintro e V2 ⟨⟨g2, p, cp, rfl, hg1, hg2, hcg, hru, hpf⟩, b2⟩
  have H2 := Lib.hid (H1.out.below b2)
  have BB := Lib.hid (B0.out.trans (b2.mono (by omega)))
  have hsz := b2.size
  have HG := Lib.hid (show V1.heap.size ≤ g2 ∧ g2 < V2.heap.size ∧ V2.cell? ⟨g2, 0, none⟩ = some (.slice p (ints L).length cp) ∧ Ru V2 p (ints L) ∧ (∀ y, p = some y → V1.heap.size ≤ y.block) from ⟨hg1, hg2, hcg, hru, hpf⟩)
  have HLN := Lib.hid (show (ints L).length ≤ 4194304 from by rw [ints_len]; exact H1.out.lo.len_le (show [L, fr][0]? = some L from rfl))
  have Y2 := Lib.hid ((b2.block V.heap.size (by omega)).trans Y0.out)
  have X2 := Lib.hid ((BB.out.block Bx HX.out.2).trans HX.out.1)
  have OBL := Lib.hid (show ∀ k, Obg b c q r g m k → k < V.heap.size from fun k hk => HH.out.blk hk)
  have hp : ∀ (A B : World), Kpg b c q r g m Bx V V2.heap.size A B ∧ A.heap.size ≤ B.heap.size → V2.heap.size ≤ A.heap.size → True := fun _ _ _ _ => trivial
  clear HALL hg1 hg2 hcg hru hpf b2 hb1 c0 c1 c2 c3 hp
  gi_wp2
  refine' wpIn_rangeFunc_ownG (encs := fun x : El (ints L) => #[.int .u32 x.val]) (Kp := fun A B => Kpg b c q r g m Bx V V2.heap.size A B ∧ A.heap.size ≤ B.heap.size) (S := fun ys => vals ys = ints L) (Sp := fun pre => vals pre <+: ints L) (N := (ints L).length) rfl (by decide) (gf := 89) (lb := #[.pointer (some ⟨g2, 0, none⟩)]) rfl trivial (enters_of Try.func89 (by kernel_rfl) rfl)
    (w0 := V2)
    (fun l2 J2 Jx2 W hW _ _ hY2 h02 => allsub_in (fun A B => Kpg b c q r g m Bx V V2.heap.size A B ∧ A.heap.size ≤ B.heap.size) l2 g2 p cp (ints L) HLN.out J2 Jx2
      (fun W1 W2 hh r i x hx => by
        obtain ⟨y, hy, hyb, hyc⟩ := r i x hx
        obtain ⟨y', hy', hyb', -⟩ := HG.out.2.2.2.1 i x hx
        rw [hy] at hy'
        cases hy'
        refine ⟨y, hy, Nat.lt_of_lt_of_le hyb hh.2, ?_⟩
        rw [← hyc]
        unfold World.cell?
        rw [add_block, hh.1 y.block (.inr (.inr ⟨by have := HG.out.2.2.2.2 y hy; omega, hyb'⟩))])
      hY2 W ((hW.cell (p := ⟨g2, 0, none⟩) HG.out.2.1).trans HG.out.2.2.1) (HG.out.2.2.2.1.below hW) h02)
    (fun h k => ⟨fun x hx => (k.1 x hx).trans (h.1 x hx), Nat.le_trans h.2 k.2⟩)
    (fun W l o o' h1 h2 h3 h4 => ⟨fun k hk => World.putObj_heap_other (by
      rcases hk with hk | rfl | ⟨-, hk⟩
      · have := OBL.out k hk; omega
      · have := HX.out.2; omega
      · omega), by simp [World.putObj]⟩) (Below.refl _ _) (fun _ => rfl)
    (fun pre W => J V2.heap.size (pre.map (kel KL L)) W ∧ (∀ k, k < V2.heap.size → (Obg b c q r g m k ∨ k = Bx ∨ V.heap.size ≤ k) → W.heap[k]? = V2.heap[k]?) ∧ V2.heap.size ≤ W.heap.size)
    (fun cd pre W => cd = .ret ∧ ∃ pre', Jx V2.heap.size pre' W)
    (fun pre W W' row hI hg hr => ?ownI) (fun cd pre W W' row hI hg hr => ?ownX) ⟨HO.out.2.2.2 V2 BB.out, fun _ _ _ => rfl, Nat.le_refl _⟩
    _ ?assign ?body ?done ?stop
  case ownI =>
    obtain ⟨h1, h2, h3⟩ := hI
    refine ⟨own_mono (HO.out.1 _) (by omega) _ _ _ _ h1 hg hr, fun k hk hk2 => ?_, Nat.le_trans h3 hg.size⟩
    rw [hg.block k (by omega) fun e => by have := (hr k e.symm).1; omega]
    exact h2 k hk hk2
  case ownX =>
    obtain ⟨h1, p', h2⟩ := hI
    exact ⟨h1, p', own_mono (HO.out.2.1 _) (by omega) _ _ _ _ h2 hg hr⟩
  case assign =>
    intro l x W K hK
    gi_wp2
    exact hK
  case body =>
    rintro l2 pre x W ⟨hJ, hst, hsw⟩ hlt
    obtain ⟨xv, hxp⟩ := x
    obtain ⟨s, hsL, rfl⟩ := List.mem_map.1 (show xv ∈ L.map (fun s : Nat => (s : Int)) from hxp)
    have HJW := Lib.hid (own_drew (HO.out.1 V2.heap.size) hJ)
    have HWG := Lib.hid (H2.out.of (w' := W) fun k hk => hst k (by have := OBL.out k hk; omega) (.inl hk))
    have HW := Lib.hid (show (∀ k, k < V2.heap.size → (Obg b c q r g m k ∨ k = Bx ∨ V.heap.size ≤ k) → W.heap[k]? = V2.heap[k]?) ∧ V2.heap.size ≤ W.heap.size from ⟨hst, hsw⟩)
    obtain ⟨c0, c1, c2, c3, -⟩ := HWG.out.cells
    have d2 : W.drew.cell? ⟨b, 2, none⟩ = some (.slice (some ⟨g, 0, none⟩) N kc) := c2
    have d1 : W.drew.cell? ⟨Bx, 0, none⟩ = some (.pointer (some ⟨b, 0, none⟩)) := by
      have := (hst Bx (by have := HX.out.2; omega) (.inr (.inl rfl))).trans X2.out
      show W.cell? _ = _
      simp [World.cell?, this]
    have d0 : W.drew.cell? ⟨V.heap.size, 0, none⟩ = some (.func (.yield l) #[] #[]) := by
      have := (hst V.heap.size (by omega) (.inr (.inr (Nat.le_refl _)))).trans Y2.out
      show W.cell? _ = _
      simp [World.cell?, this]
    obtain ⟨key, hkey⟩ : ∃ key : Int, ((ky KL s : Nat) : Int) = key := ⟨_, rfl⟩
    have hsN : s < N := HWG.out.nodeLt hsL
    have dk : W.drew.cell? ⟨g, s, none⟩ = some (.int .u32 key) := by
      have h := (HWG.out.ks.cells (g := g) rfl s (.int .u32 key) (by
        unfold ints
        rw [List.map_map, List.getElem?_map, List.getElem?_eq_getElem (by rw [HWG.out.kl]; exact hsN), ← hkey]
        unfold ky
        rw [List.getElem?_eq_getElem (by rw [HWG.out.kl]; exact hsN)]
        rfl))
      rw [App.add2] at h
      exact h
    have i1 : (s : Int) < (N : Int) := by omega
    have i2 : (0 : Int) ≤ (s : Int) := by omega
    have hkx : (kel KL L ⟨(s : Int), hxp⟩).val = key := by unfold kel; rw [← hkey]; simp
    obtain ⟨fn, tmps, assign, body, hy, hR⟩ := HO.out.2.2.1 V2.heap.size (pre.map (kel KL L)) (kel KL L ⟨(s : Int), hxp⟩) W.drew (by omega) HJW.out (by rw [List.length_map]; rw [ints_len] at hlt; exact hlt)
    rw [hkx] at hy
    have HRR := Lib.hid (hR.mono (R' := fun e W' => ∃ z : Bool, e = .returned (.bool z) ∧ Hid (Yw z (fun W' => J V2.heap.size (pre.map (kel KL L) ++ [kel KL L ⟨(s : Int), hxp⟩]) W' ∧ KeepsFrom V.heap.size W.drew W' ∧ Kpg b c q r g m Bx V V2.heap.size W.drew W') (fun W' => Jx V2.heap.size (pre.map (kel KL L) ++ [kel KL L ⟨(s : Int), hxp⟩]) W' ∧ KeepsFrom V.heap.size W.drew W') W')) fun e W' h => by
      rcases h with ⟨rfl, h1, h2, h3⟩ | ⟨rfl, h1, h2⟩
      · exact ⟨true, rfl, Lib.hid ⟨fun _ => ⟨h1, h2, h3⟩, (fun h => by cases h)⟩⟩
      · exact ⟨false, rfl, Lib.hid ⟨(fun h => by cases h), fun _ => ⟨h1, h2⟩⟩⟩)
    clear hJ hst hsw hR hsL c0 c1 c2 c3 hkey hkx hsN hlt
    have hmix : Try.prog.follows .mixedOrders = true := by kernel_rfl
    gi_wp2
    refine Qrd.region_tail 8 (by kernel_rfl) (by kernel_rfl) (by kernel_rfl) ?_
    simp only [List.take_succ_cons, List.take_zero, List.drop_succ_cons, List.drop_zero]
    repeat still_step
    try refine wpStill_nil ?_
    gi_wp2
    refine HRR.out.mono ?_
    rintro e W3 ⟨z, rfl, HY3⟩
    clear hy HRR d0 d1 d2 dk
    cases z with
    | true =>
      gi_wp2
      obtain ⟨h1, h2, h3⟩ := HY3.out.1 rfl
      refine ⟨⟨h2.size, fun k o hB ho hc => h2.same k o (by omega) ho hc⟩, ⟨h3, h2.size⟩, ?_, fun k hk hk2 => (h3 k ?_).trans (HW.out.1 k hk hk2), Nat.le_trans HW.out.2 h2.size⟩
      · rw [List.map_append]
        exact h1
      · rcases hk2 with h | h | h
        · exact .inl h
        · exact .inr (.inl h)
        · exact .inr (.inr ⟨h, hk⟩)
    | false =>
      gi_wp2
      obtain ⟨h1, h2⟩ := HY3.out.2 rfl
      exact ⟨⟨h2.size, fun k o hB ho hc => h2.same k o (by omega) ho hc⟩, rfl, _, h1⟩
  case done =>
    rintro D1 ys W hD hys ⟨hJ, -, -⟩ hK
    gi_wp2
    refine ⟨by simp, .inl ⟨_, _, rfl, run_takeDeferred hK, ?_⟩⟩
    exact ⟨.tuple #[], by simp [results, Try.results147, go_sem], ⟨_, rfl⟩, .inl ⟨V2.heap.size, _, by omega, kel_vals hys, (HO.out.1 _).putObj _ hJ (by omega) hK rfl⟩⟩
  case stop =>
    rintro D1 cd pre W hD hpre ⟨rfl, p', hJ⟩ hK
    gi_wp2
    refine ⟨by simp, .inl ⟨_, _, rfl, run_takeDeferred hK, ?_⟩⟩
    exact ⟨.tuple #[], by simp [results, Try.results147, go_sem], ⟨_, rfl⟩, .inr ⟨V2.heap.size, p', by omega, trivial, (HO.out.2.1 _).putObj _ hJ (by omega) hK rfl⟩⟩
end Go.Proofs.Ytggimkfepcgaoaa.Gho
end
section
namespace Go.Proofs.Ytggimkfepcgaoaa.Gho
open Go Go.RowKit Kit Go.Maps Lnk
attribute [local go_sem] Oper.semAt_some
theorem mk_cap32 {n : Nat} (hn : n ≤ 1000000) (v : World) : (Instr.makeSlice 39 (.int .i64 0) (.int .i64 (n : Int))).run Try.prog v = .ok (.slice (some ⟨v.heap.size, 0, none⟩) 0 n) (v.alloc (.cells (madeCells #[.int .u32 0] n) 38)) := by
  obtain ⟨i0, hi0, hz0, hz1, hz2⟩ := u_parts
  have hr := run_make (P := Try.prog) v 39 38 i0 (.int .u32 0) Try.underlying39 hi0 hz0 .i64 .i64 0 (n : Int) (Int.le_refl _) (by omega) (by rw [hz2]; omega) (by omega)
  rw [hz1] at hr
  simp only [Int.toNat_zero, Int.toNat_natCast] at hr
  simpa [Value.cells] using hr
/-- the list of keys that is made -/
structure Kst (w V0 : World) (K hi : Nat) (pre : List Int) (W : World) : Prop where
  v : ∃ v, Boxed W (w.heap.size + 1) 39 v ∧ W.ownsRow w.heap.size 38 1 v pre.length (pre.map (Value.int .u32)) ∧ ∀ g, v.ownBlock = some g → g = w.heap.size ∨ hi ≤ g
  kp : ∀ k, k < hi → k < V0.heap.size → k ≠ w.heap.size → k ≠ w.heap.size + 1 → W.heap[k]? = V0.heap[k]?
  sz : V0.heap.size ≤ W.heap.size
  bl : Below w.heap.size w W
  hh : V0.heap.size ≤ hi
  hw : hi ≤ W.heap.size
theorem Kst.own {w V0 : World} {K B : Nat} (hB : w.heap.size + 2 ≤ B) (hV : V0.heap.size ≤ B) {hi : Nat} : OwnFrom B (fun (pre : List Int) W => Kst w V0 K hi pre W) := fun s W W' row hs hg hr => by
  obtain ⟨⟨v, h1, h2, h3⟩, h4, h5, h6, h7, h8⟩ := hs
  have hk : ∀ (k : Nat) (ob : Obj), W.heap[k]? = some ob → ob.isCells = true → W'.heap[k]? = W.heap[k]? := fun k ob e1 e2 => grownBy_keeps_cells hg (fun r e => (hr r e).2) e1 e2
  refine ⟨⟨v, (hk _ _ h1 rfl).trans h1, ?_, h3⟩, fun k k1 k2 k3 k4 => ?_, Nat.le_trans h5 hg.size, h6.grown hg h6.size fun k hk' => ?_, h7, Nat.le_trans h8 hg.size⟩
  · obtain ⟨a0, ⟨hv, hn⟩ | ⟨g', cap, cur, hv, hb, hgg, hr'⟩⟩ := h2
    · exact ⟨a0, .inl ⟨hv, hn⟩⟩
    · exact ⟨a0, .inr ⟨g', cap, cur, hv, hb, (hk _ _ hgg rfl).trans hgg, hr'⟩⟩
  · rw [hg.block k (by omega) fun e => by have := (hr k e.symm).1; omega]
    exact h4 k k1 k2 k3 k4
  · have := (hr k hk').1; omega
/-- one key more -/
theorem Kst.next {w V0 W w4 : World} {K hi : Nat} {pre : List Int} {x : Int} {va : Option Addr} {vc g4 c4 n : Nat} (hn : pre.length = n) (h : Kst w V0 K hi pre W) (h2 : w.heap.size + 2 ≤ V0.heap.size)
    (hbx : W.heap[w.heap.size + 1]? = some (.cells #[.slice va n vc] 39 (0, 0))) (hvb : ∀ g, (Value.slice va n vc).ownBlock = some g → g = w.heap.size ∨ hi ≤ g)
    (hne : ∀ g, (Value.slice va n vc).ownBlock = some g → g ≠ w.heap.size + 1)
    (hown : w4.ownsRow w.heap.size 38 1 (.slice (some ⟨g4, 0, none⟩) (n + 1) c4) (n + 1) (pre.map (Value.int .u32) ++ [.int .u32 x]))
    (hgr : (W.alloc (.cells #[.int .u32 x] 38)).grownBy w4 (Value.slice va n vc).ownBlock)
    (hat : (Value.slice (some ⟨g4, 0, none⟩) (n + 1) c4).ownBlock = (Value.slice va n vc).ownBlock ∨ (Value.slice (some ⟨g4, 0, none⟩) (n + 1) c4).ownBlock = some (W.alloc (.cells #[.int .u32 x] 38)).heap.size) :
    w4.heap[w.heap.size + 1]? = some (.cells #[.slice va n vc] 39 (0, 0)) ∧
    KeepsFrom (w.heap.size + 2) W (w4.setCell ⟨w.heap.size + 1, 0, none⟩ (.slice (some ⟨g4, 0, none⟩) (n + 1) c4)) ∧
    (∀ k, k < hi → k ≠ w.heap.size → k ≠ w.heap.size + 1 → (w4.setCell ⟨w.heap.size + 1, 0, none⟩ (.slice (some ⟨g4, 0, none⟩) (n + 1) c4)).heap[k]? = W.heap[k]?) ∧
    Kst w V0 K hi (pre ++ [x]) (w4.setCell ⟨w.heap.size + 1, 0, none⟩ (.slice (some ⟨g4, 0, none⟩) (n + 1) c4)) := by
  subst hn
  have hs1 : (W.alloc (.cells #[.int .u32 x] 38)).heap.size = W.heap.size + 1 := by simp
  have hs4 := hgr.size
  have hV := h.sz
  have hVh := h.hh
  have hhi := h.hw
  have hb4 : ∀ k, k < W.heap.size → (∀ g, (Value.slice va pre.length vc).ownBlock = some g → k ≠ g) → w4.heap[k]? = W.heap[k]? := fun k hk hn => (hgr.block k (by omega) fun e => hn k e.symm rfl).trans (Below.heap_alloc W _ k hk)
  have hx4 : w4.heap[w.heap.size + 1]? = some (.cells #[.slice va pre.length vc] 39 (0, 0)) := (hb4 _ (by omega) fun g hg => (hne g hg).symm).trans hbx
  have hset : ∀ k, k ≠ w.heap.size + 1 → (w4.setCell ⟨w.heap.size + 1, 0, none⟩ (.slice (some ⟨g4, 0, none⟩) (pre.length + 1) c4)).heap[k]? = w4.heap[k]? := fun k hk => Below.heap_setCell w4 ⟨w.heap.size + 1, 0, none⟩ _ k (by show k ≠ w.heap.size + 1; exact hk)
  have hss : (w4.setCell ⟨w.heap.size + 1, 0, none⟩ (.slice (some ⟨g4, 0, none⟩) (pre.length + 1) c4)).heap.size = w4.heap.size := by simp
  have hg4 : g4 = w.heap.size ∨ hi ≤ g4 := by
    rcases hat with e | e
    · exact hvb g4 (by rw [← e]; rfl)
    · have e' : g4 = (W.alloc (.cells #[.int .u32 x] 38)).heap.size := Option.some.inj e
      right
      omega
  have hkeep : ∀ k, k < hi → k ≠ w.heap.size → k ≠ w.heap.size + 1 → (w4.setCell ⟨w.heap.size + 1, 0, none⟩ (.slice (some ⟨g4, 0, none⟩) (pre.length + 1) c4)).heap[k]? = W.heap[k]? := fun k h1 h2 h3 => by
    rw [hset k h3]
    exact hb4 k (by omega) fun g hg e => by rcases hvb g hg with h | h <;> omega
  refine ⟨hx4, ⟨by omega, fun k o hB ho hc => ?_⟩, hkeep, ⟨⟨_, by unfold Boxed; exact heap_set (j := 0) hx4 _, ?_, fun g hg => by have e' : g4 = g := Option.some.inj hg; omega⟩, fun k k1 k2 k3 k4 => (hkeep k k1 k3 k4).trans (h.kp k k1 k2 k3 k4), by omega, ?_, hVh, by omega⟩⟩
  · rw [hset k (by omega)]
    refine (hb4 k (Array.getElem?_eq_some_iff.1 ho).1 fun g hg e => ?_).trans ho
    subst e
    rcases hvb k hg with h1 | h1
    · omega
    · obtain ⟨v, e1, e2, e3⟩ := h.v
      unfold Boxed at e1
      rw [hbx] at e1
      injection e1 with e1
      injection e1 with e1 _ _
      injection e1 with e1
      injection e1 with e1 _
      subst e1
      obtain ⟨_, ⟨hv, hn⟩ | ⟨g', cap, cur, hv, hb, hgg, hr'⟩⟩ := e2
      · injection hv with hv _ _
        subst hv
        cases hg
      · injection hv with hv _ _
        subst hv
        obtain rfl : g' = k := Option.some.inj hg
        rw [ho] at hgg
        cases hgg
        cases hc
  · rw [List.length_append, List.length_singleton, List.map_append]
    have hne4 : g4 ≠ w.heap.size + 1 := by omega
    obtain ⟨a0, ⟨hv, hn⟩ | ⟨g', cap, cur, hv, hb, hgg, hr'⟩⟩ := hown
    · cases hv
    · cases hv
      exact ⟨a0, .inr ⟨g4, c4, cur, rfl, hb, (hset g4 hne4).trans hgg, hr'⟩⟩
  · refine ⟨hgr.os.trans h.bl.os, hgr.tape.trans h.bl.tape, hgr.output.trans h.bl.output, by have := h.bl.size; omega, fun k hk => ?_⟩
    rw [hset k (by omega)]
    exact (hb4 k (by omega) fun g hg e => by rcases hvb g hg with h | h <;> omega).trans (h.bl.block k hk)
end Go.Proofs.Ytggimkfepcgaoaa.Gho
end
section
namespace Go.Proofs.Ytggimkfepcgaoaa.Gho
open Go Go.RowKit Kit Go.Maps Lnk
attribute [local go_sem] Oper.semAt_some
set_option maxRecDepth 100000 in
set_option maxHeartbeats 4000000 in
theorem gkeys_any {w : World} {b c q r cq cr N : Nat} {F : Lnk.Fd} {g kc m nm : Nat} {D : DataW Unit} {most : Int} {L fr KL : List Nat} (H : Gh w b c q r cq cr N F g kc m nm D most L fr KL) (hL : L.length ≤ 1000000) :
    Calls Try.prog 43 #[.pointer (some ⟨b, 0, none⟩)] w fun e w' => ∃ v, e = .returned v ∧ w'.ownsRow w.heap.size 38 1 v L.length ((ints (kys KL L)).map (Value.int .u32)) ∧ Below w.heap.size w w' := by
  have HS := Lib.hid H
  have HZ := Lib.hid (gzero_any H)
  have HLN := Lib.hid (glen_any H)
  have HL := Lib.hid hL
  obtain ⟨K, hK⟩ : ∃ K, L.length = K := ⟨_, rfl⟩
  rw [hK] at HL HLN ⊢
  have HKK := Lib.hid hK
  have hmk := mk_cap32 (n := K) (by have := HL.out; omega)
  have hlt := H.lt
  have B1 := Lib.hid (show Below w.heap.size w ((w.alloc (.cells (madeCells #[.int .u32 0] K) 38)).alloc (.cells #[.slice (some ⟨w.heap.size, 0, none⟩) 0 K] 39)) from by go_grown)
  have hs3 := Lib.hid (show ((w.alloc (.cells (madeCells #[.int .u32 0] K) 38)).alloc (.cells #[.slice (some ⟨w.heap.size, 0, none⟩) 0 K] 39)).heap.size = w.heap.size + 2 from by simp)
  have X2 := Lib.hid (show ((w.alloc (.cells (madeCells #[.int .u32 0] K) 38)).alloc (.cells #[.slice (some ⟨w.heap.size, 0, none⟩) 0 K] 39)).heap[w.heap.size + 1]? = some (.cells #[.slice (some ⟨w.heap.size, 0, none⟩) 0 K] 39 (0, 0)) from by simpa using (MapKept.heap_alloc (w.alloc (.cells (madeCells #[.int .u32 0] K) 38)) (.cells #[.slice (some ⟨w.heap.size, 0, none⟩) 0 K] 39)).1)
  have X1 := Lib.hid (show ((w.alloc (.cells (madeCells #[.int .u32 0] K) 38)).alloc (.cells #[.slice (some ⟨w.heap.size, 0, none⟩) 0 K] 39)).ownsRow w.heap.size 38 1 (.slice (some ⟨w.heap.size, 0, none⟩) 0 K) 0 [] from by
    have h := (World.ownsRow_made (base := w.heap.size) (e := 38) (size := 1) w (madeCells #[.int .u32 0] K) K (Nat.le_refl _) (by have := HL.out; unfold maxLen; omega) (by rw [Nat.mul_one]; exact size_madeCells _ _)).alloc (.cells #[.slice (some ⟨w.heap.size, 0, none⟩) 0 K] 39)
    simpa using h)
  obtain ⟨i0, hi, hz0, hz1, hz2⟩ := u_parts
  clear H hL hK hlt
  refine (callsIn_wide (n := 7)).1 ?_
  refine callsIn_of_wp_marks Try.func43 rfl trivial ?_ rfl
  simp only [Try.ntmps43, List.size_toArray, List.length_cons, List.length_nil, Nat.reduceAdd, Nat.reduceSub, Array.replicate_succ, Array.replicate_zero, List.push_toArray, List.append_toArray, List.nil_append, List.cons_append]
  gi_wp2
  refine ⟨trivial, ?_⟩
  refine (callsIn_wide.2 HZ.out).mono ?_
  rintro e w1 ⟨rfl, rfl⟩
  gi_wp2
  refine ⟨trivial, ?_⟩
  refine (callsIn_wide.2 HLN.out).mono ?_
  rintro e w1 ⟨rfl, rfl⟩
  gi_wp2
  obtain ⟨V, hV⟩ : ∃ V, (w.alloc (.cells (madeCells #[.int .u32 0] K) 38)).alloc (.cells #[.slice (some ⟨w.heap.size, 0, none⟩) 0 K] 39) = V := ⟨_, rfl⟩
  rw [hV] at B1 hs3 X2 X1 ⊢
  clear hV hmk HZ HLN
  refine ⟨trivial, ?_⟩
  refine (callsIn_wide.2 (gall_any V b)).mono ?_
  rintro e V0 ⟨rfl, hV0⟩
  have H0 := Lib.hid (HS.out.below (tr B1.out (show Below V.heap.size V V0 from by rw [hV0]; exact box_below V _ _)))
  have hVb : Below V.heap.size V V0 := by rw [hV0]; exact box_below V _ _
  have XB := Lib.hid (show V0.heap[V.heap.size]? = some (.cells #[.pointer (some ⟨b, 0, none⟩)] 65 (0, 0)) from by rw [hV0]; exact (MapKept.heap_alloc V _).1)
  have hsV := hs3.out
  have hsV0 : V0.heap.size = w.heap.size + 3 := by rw [hV0]; simp; omega
  have B0 := Lib.hid (tr B1.out hVb)
  have X20 := Lib.hid ((hVb.block (w.heap.size + 1) (by omega)).trans X2.out)
  have X10 := Lib.hid (show V0.ownsRow w.heap.size 38 1 (.slice (some ⟨w.heap.size, 0, none⟩) 0 K) 0 [] from own_of X1.out (hVb.block w.heap.size (by omega)))
  have OBL := Lib.hid (show ∀ k, Obg b c q r g m k → k < w.heap.size from fun k hk => HS.out.blk hk)
  rw [hsV]
  rw [hsV] at XB
  clear hV0 hVb hsV B1 hs3 X2 X1
  gi_wp2
  refine' Nst.loop_own (encs := fun x : El (ints (kys KL L)) => #[.int .u32 x.val]) (Kp := Kpg b c q r g m (w.heap.size + 2)) (S := fun ys => vals ys = ints (kys KL L)) (Sp := fun _ => True) (N := L.length) (m := 3) rfl (by decide) (gf := 147) (lb := #[.pointer (some ⟨w.heap.size + 2, 0, none⟩)]) rfl trivial (enters_of Try.func147 (by kernel_rfl) rfl)
    (w0 := V0) (gall_in H0.out XB.out)
    (fun h k x hx => (k x hx).trans (h x hx)) ?hKb (Below.refl _ _) (fun _ => rfl)
    (fun hi pre W => Kst w V0 K hi (vals pre) W) (fun _ _ _ _ => False) (fun hi => ?ownI) (fun _ _ _ _ _ _ h _ _ => h) ?start _ ?assign ?body ?done ?stop
  case hKb =>
    intro V A hi r hV k hk
    refine World.putObj_heap_other ?_
    rcases hk with hk | rfl | ⟨hk, -⟩
    · have := OBL.out k hk; omega
    · omega
    · omega
  case ownI =>
    intro s W W' row hs hg hr
    exact (Kst.own (K := K) (hi := hi) (show w.heap.size + 2 ≤ V0.heap.size by omega) (Nat.le_refl _)) (vals s) W W' row hs hg hr
  case start =>
    intro W hW
    have hsz := hW.size
    exact ⟨⟨_, (hW.block _ (by omega)).trans X20.out, own_of X10.out (hW.block _ (by omega)), fun g hg => .inl (Option.some.inj hg).symm⟩, fun k _ h2 _ _ => hW.block k h2, hsz, tr B0.out hW, hsz, Nat.le_refl _⟩
  case assign =>
    intro l x W K hK
    gi_wp2
    exact hK
  case body =>
    rintro l hi' pre x V W hV hbV hhi hst hlt
    obtain ⟨v, hbx, hrow, hvb⟩ := hst.v
    have hst' := Lib.hid hst
    have hpl : pre.length < K := by have := HKK.out; omega
    have hvl : (vals pre).length = pre.length := vals_len pre
    rw [hvl] at hrow
    obtain ⟨va, vc, rfl, -, -⟩ := App.own_form hrow
    have hcc := hbx.cell
    have hws : w.heap.size + 2 ≤ W.heap.size := by have := hst.sz; omega
    have hne : ∀ g, (Value.slice va pre.length vc).ownBlock = some g → g ≠ w.heap.size + 1 := fun g hg e => by
      subst e
      rcases hvb _ hg with h | h
      · omega
      · have := hst.hh; omega
    have hbx' : W.heap[w.heap.size + 1]? = some (.cells #[.slice va pre.length vc] 39 (0, 0)) := hbx
    have HB := Lib.hid (And.intro hbx' (And.intro hvb hne))
    have HLK := Lib.hid HL.out
    have hxv : x.val = x.val := rfl
    clear hst hbx hvb hne hbx' hxv
    gi_wp2_with (gi_at_builtin; (refine wpListIn_append_own_at _ rfl (.tmp 13) (.tmp 15) 39 rfl w.heap.size 38 i0 (.int .u32 0) 1 4 Try.underlying39 hi hz0 hz1 hz2 rfl (by decide) (.slice va pre.length vc) pre.length ((vals pre).map (Value.int .u32)) rfl (hrow.alloc _) ⟨W.heap.size, 0, none⟩ 1 1 [.int .u32 x.val] rfl rfl (cell_one_new _ _ _) (by simp [Value.oneCell']) (by have := HLK.out; unfold maxLen; omega) (by have := HLK.out; omega) (by simp; omega) ?_); intro v' w4 hown hgr _ hat; (obtain ⟨g4, c4, rfl⟩ := ownsRow_succ hown); (obtain ⟨hx4, n1, n2, n3⟩ := Kst.next (V0 := V0) (K := K) (hi := hi') (pre := vals pre) (x := x.val) hvl hst'.out (by omega) HB.out.1 HB.out.2.1 HB.out.2.2 hown hgr hat); (have s1 : w4.cell? ⟨w.heap.size + 1, 0, none⟩ = some (.slice va pre.length vc) := by simp [World.cell?, hx4]); (have s2 : w4.frozen? ⟨w.heap.size + 1, 0, none⟩ = false := by simp [World.frozen?, hx4]))
    refine ⟨⟨n1.size, fun k o hB ho hc => n1.same k o (by omega) ho hc⟩, ?_, by show Kst w V0 K hi' (vals (pre ++ [x])) _; rw [vals_snoc]; exact n3⟩
    intro k hk
    have hh0 := hst'.out.hh
    refine n2 k ?_ ?_ ?_
    · rcases hk with hk | rfl | ⟨-, hk⟩
      · have := OBL.out k hk; omega
      · omega
      · exact hk
    · rcases hk with hk | rfl | ⟨hk, -⟩
      · have := OBL.out k hk; omega
      · omega
      · omega
    · rcases hk with hk | rfl | ⟨hk, -⟩
      · have := OBL.out k hk; omega
      · omega
      · omega
  case done =>
    rintro D1 hi' ys W hD hh hys hst hK'
    obtain ⟨v, hbx, hrow, hvb⟩ := hst.v
    have hcc := hbx.cell
    have hyl : (vals ys).length = K := by rw [hys, ints_len, kys_len]; exact HKK.out
    rw [hyl, hys] at hrow
    have HB := Lib.hid hst.bl
    clear hst hvb hbx
    gi_wp2
    refine ⟨by simp, .inl ⟨_, _, rfl, run_takeDeferred hK', ?_⟩⟩
    refine ⟨v, by simp [results, Try.results43, go_sem], v, rfl, ?_, ?_⟩
    · exact ownsRow_putObj hrow _ hK' rfl
    · exact HB.out.trans (belowK_b (w := w) (Nat.le_refl _) W D1 _ _ (by omega) hK' rfl rfl)
  case stop =>
    rintro D1 hi' cd pre W hD hh _ h hK'
    exact h.elim
end Go.Proofs.Ytggimkfepcgaoaa.Gho
end
