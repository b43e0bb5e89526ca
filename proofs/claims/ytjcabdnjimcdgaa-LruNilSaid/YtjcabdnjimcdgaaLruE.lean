/-
  Plain LRU lists (layer 15): Renumber.
-/
import Derived.Test.YtjcabdnjimcdgaaLruD
import Derived.Test.YtjcabdnjimcdgaaLnkDa
import Derived.Test.YtjcabdnjimcdgaaLnkDb
set_option linter.unusedVariables false
set_option linter.unusedSimpArgs false
namespace Go.Proofs.Ytjcabdnjimcdgaa.Lru
open Go Go.RowKit Kit Go.Shelf Lnk
attribute [local go_sem] Oper.semAt_some
/-- what the slots become, one after the other -/
def rnum (T : List Nat) : List Nat → List Nat → Option (List Nat)
  | [], acc => some acc
  | s :: l, acc => match T[s]? with
    | none => none
    | some t => if t < 4194304 ∧ t ∉ acc then rnum T l (acc ++ [t]) else none
theorem rnum_append (T : List Nat) : ∀ (a b acc : List Nat), rnum T (a ++ b) acc = (rnum T a acc).bind (rnum T b)
  | [], b, acc => rfl
  | s :: a, b, acc => by
    simp only [List.cons_append, rnum]
    cases T[s]? with
    | none => rfl
    | some t =>
      simp only
      split
      · exact rnum_append T a b _
      · rfl
theorem rnum_prefix {T l P : List Nat} (h : ints P <+: ints l) (hn : rnum T P [] = none) : rnum T l [] = none := by
  obtain ⟨t, ht⟩ := h
  have hl : l = P ++ l.drop P.length := by
    have h1 : P = l.take P.length := by
      have := congrArg (List.take P.length) ht
      unfold ints at this
      rw [List.take_append_of_le_length (by simp), List.take_of_length_le (by simp), ← List.map_take] at this
      have hinj : ∀ a b : List Nat, a.map (fun x : Nat => (x : Int)) = b.map (fun x : Nat => (x : Int)) → a = b := fun a b hab => by
        have := congrArg (List.map Int.toNat) hab
        simpa [List.map_map, Function.comp_def] using this
      exact hinj _ _ this
    conv => lhs; rw [← List.take_append_drop P.length l]
    rw [← h1]
  rw [hl, rnum_append, hn]
  rfl
/-- while Renumber goes over the slots -/
structure Rn (w W : World) (pt : Option Addr) (M ct bx ox lo hi : Nat) (acc : List Nat) : Prop where
  tb : W.heap[w.heap.size]? = some (.cells #[.slice pt M ct] 39 (0, 0))
  rb : W.heap[w.heap.size + 1]? = some (.cells #[.int .i64 0] 29 (0, 0))
  xb : W.heap[bx]? = some (.cells #[.pointer (some ⟨ox, 0, none⟩)] 53 (0, 0))
  lu : ∃ c q r cq cr N F, Lu W ox c q r cq cr N F acc ∧ (w.heap.size + 2 ≤ c ∧ (c < bx ∨ hi ≤ c)) ∧ (w.heap.size + 2 ≤ q ∧ (q < bx ∨ hi ≤ q)) ∧ (w.heap.size + 2 ≤ r ∧ (r < bx ∨ hi ≤ r))
  dx : w.heap.size + 2 ≤ ox ∧ ox < bx ∧ bx < lo ∧ lo ≤ hi ∧ hi ≤ W.heap.size
  bl : Below w.heap.size w W
theorem Lu.isC {w : World} {o c q r cq cr N : Nat} {F : Lnk.Fd} {l : List Nat} (H : Lu w o c q r cq cr N F l) (k : Nat) (hk : Ob4 o c q r k) : ∃ ob : Obj, w.heap[k]? = some ob ∧ ob.isCells = true := by
  rcases hk with rfl | rfl | rfl | rfl
  · exact ⟨_, H.ob, rfl⟩
  · exact ⟨_, H.lo.obj, rfl⟩
  · obtain ⟨cur, h, _⟩ := H.lo.fw; exact ⟨_, h, rfl⟩
  · obtain ⟨cur, h, _⟩ := H.lo.lw; exact ⟨_, h, rfl⟩
theorem Lu.keepO {w w' : World} {o c q r cq cr N : Nat} {F : Lnk.Fd} {l : List Nat} (H : Lu w o c q r cq cr N F l) (hk : Kp (Ob4 o c q r) w w') : KeepsOthers w w' :=
  ⟨hk.size, fun k ob h h2 => (hk.block k (Array.getElem?_eq_some_iff.1 h).1 fun hb => by
    obtain ⟨ob', h3, h4⟩ := H.isC k hb
    rw [h] at h3; cases h3; rw [h2] at h4; cases h4).trans h⟩
theorem Rn.own {w W W' : World} {pt : Option Addr} {M ct bx ox lo hi B : Nat} {acc : List Nat} {row : Option Nat} (h : Rn w W pt M ct bx ox lo hi acc) (hB : w.heap.size ≤ B) (hg : W.grownBy W' row) (hr : ∀ r, row = some r → B ≤ r ∧ ∃ ob : Obj, W.heap[r]? = some ob ∧ ob.isCells = false) : Rn w W' pt M ct bx ox lo hi acc := by
  have hk : ∀ (k : Nat) (ob : Obj), W.heap[k]? = some ob → ob.isCells = true → W'.heap[k]? = W.heap[k]? := fun k ob h1 h2 => grownBy_keeps_cells hg (fun r e => (hr r e).2) h1 h2
  obtain ⟨c, q, r, cq, cr, N, F, lu, k1, k2, k3⟩ := h.lu
  exact ⟨(hk _ _ h.tb rfl).trans h.tb, (hk _ _ h.rb rfl).trans h.rb, (hk _ _ h.xb rfl).trans h.xb, ⟨c, q, r, cq, cr, N, F, lu.of fun k hk' => by obtain ⟨ob, h1, h2⟩ := lu.isC k hk'; exact hk k ob h1 h2, k1, k2, k3⟩,
    ⟨h.dx.1, h.dx.2.1, h.dx.2.2.1, h.dx.2.2.2.1, Nat.le_trans h.dx.2.2.2.2 hg.size⟩, h.bl.grown hg h.bl.size fun k hk' => Nat.le_trans hB (hr k hk').1⟩
/-- a slot is added -/
theorem Rn.step {w W W' : World} {pt : Option Addr} {M ct bx ox lo hi : Nat} {acc acc' : List Nat} (h : Rn w W pt M ct bx ox lo hi acc) {c q r : Nat} (hc : w.heap.size + 2 ≤ c ∧ (c < bx ∨ hi ≤ c)) (hq : w.heap.size + 2 ≤ q ∧ (q < bx ∨ hi ≤ q)) (hr : w.heap.size + 2 ≤ r ∧ (r < bx ∨ hi ≤ r)) (op : Opr W W' ox c q r acc') : Rn w W' pt M ct bx ox lo hi acc' ∧ Mid lo hi W W' := by
  obtain ⟨c', q', r', cq, cr, N, F, lu, h1, h2, h3, kp⟩ := op
  have dx := h.dx
  have hw := h.bl.size
  have hlt := (Array.getElem?_eq_some_iff.1 h.xb).1
  have out : ∀ k, (k < w.heap.size + 2 ∨ k = bx ∨ (lo ≤ k ∧ k < hi)) → ¬ Ob4 ox c q r k := fun k hk hb => by rcases hb with rfl | rfl | rfl | rfl <;> omega
  refine ⟨⟨(kp.block _ (by omega) (out _ (.inl (by omega)))).trans h.tb, (kp.block _ (by omega) (out _ (.inl (by omega)))).trans h.rb, (kp.block _ hlt (out _ (.inr (.inl rfl)))).trans h.xb,
    ⟨c', q', r', cq, cr, N, F, lu, ?_, ?_, ?_⟩, ⟨dx.1, dx.2.1, dx.2.2.1, dx.2.2.2.1, by have := kp.size; omega⟩, h.bl.trans (kp.below (n := w.heap.size) (fun k hk => out k (.inl (by omega))) hw)⟩, fun k k1 k2 => kp.block k (by omega) (out k (.inr (.inr ⟨k1, k2⟩)))⟩
  · rcases h1 with rfl | h1
    · exact hc
    · omega
  · rcases h2 with rfl | h2
    · exact hq
    · omega
  · rcases h3 with rfl | h3
    · exact hr
    · omega
theorem heap_putObj_ne (W : World) (l : Nat) (ob : Obj) (k : Nat) (h : k ≠ l) : (W.putObj l ob).heap[k]? = W.heap[k]? := by
  simp only [World.putObj]
  exact Array.getElem?_setIfInBounds_ne (Ne.symm h)
/-- the object gets the new field -/
theorem rn_done {w W : World} {o c q r cq cr N : Nat} {F : Lnk.Fd} {l : List Nat} (Hl : Lu W o c q r cq cr N F l) (hb : Below w.heap.size w W) (ho : o < w.heap.size) {ox c' q' r' cq' cr' N' : Nat} {F' : Lnk.Fd} {acc : List Nat} (lu : Lu W ox c' q' r' cq' cr' N' F' acc)
    (k1 : w.heap.size + 2 ≤ c') (k2 : w.heap.size + 2 ≤ q') (k3 : w.heap.size + 2 ≤ r') (rb : W.heap[w.heap.size + 1]? = some (.cells #[.int .i64 0] 29 (0, 0))) {D : Nat} (hD : w.heap.size ≤ D) (hK : W.heap[D]? = some (.deferred (some []))) :
    ((W.setCell ⟨o, 0, none⟩ (.pointer (some ⟨c', 0, none⟩))).setCell ⟨w.heap.size + 1, 0, none⟩ (.int .i64 0)).heap[D]? = some (.deferred (some [])) ∧
    Opr w (((W.setCell ⟨o, 0, none⟩ (.pointer (some ⟨c', 0, none⟩))).setCell ⟨w.heap.size + 1, 0, none⟩ (.int .i64 0)).putObj D (.deferred none)) o c q r acc ∧
    (((W.setCell ⟨o, 0, none⟩ (.pointer (some ⟨c', 0, none⟩))).setCell ⟨w.heap.size + 1, 0, none⟩ (.int .i64 0)).putObj D (.deferred none)).cell? ⟨w.heap.size + 1, 0, none⟩ = some (.int .i64 0) := by
  have nD : ∀ k ob, W.heap[k]? = some ob → ob.isCells = true → k ≠ D := fun k ob h1 h2 e => by subst e; rw [hK] at h1; cases h1; cases h2
  have hDo : D ≠ o := fun e => nD o _ Hl.ob rfl e.symm
  have hDr : D ≠ w.heap.size + 1 := fun e => nD _ _ rb rfl e.symm
  have hk2 : ∀ k, k ≠ o → k ≠ w.heap.size + 1 → ((W.setCell ⟨o, 0, none⟩ (.pointer (some ⟨c', 0, none⟩))).setCell ⟨w.heap.size + 1, 0, none⟩ (.int .i64 0)).heap[k]? = W.heap[k]? := fun k h1 h2 =>
    (Below.heap_setCell _ ⟨w.heap.size + 1, 0, none⟩ _ k h2).trans (Below.heap_setCell W ⟨o, 0, none⟩ _ k h1)
  have hk3 : ∀ k, k ≠ o → k ≠ w.heap.size + 1 → k ≠ D → (((W.setCell ⟨o, 0, none⟩ (.pointer (some ⟨c', 0, none⟩))).setCell ⟨w.heap.size + 1, 0, none⟩ (.int .i64 0)).putObj D (.deferred none)).heap[k]? = W.heap[k]? := fun k h1 h2 h3 =>
    (heap_putObj_ne _ _ _ k h3).trans (hk2 k h1 h2)
  have hO : (((W.setCell ⟨o, 0, none⟩ (.pointer (some ⟨c', 0, none⟩))).setCell ⟨w.heap.size + 1, 0, none⟩ (.int .i64 0)).putObj D (.deferred none)).heap[o]? = some (.cells #[.pointer (some ⟨c', 0, none⟩)] 65 (0, 0)) :=
    (heap_putObj_ne _ _ _ o hDo.symm).trans ((Below.heap_setCell _ ⟨w.heap.size + 1, 0, none⟩ _ o (by show o ≠ w.heap.size + 1; omega)).trans (heap_set (j := 0) Hl.ob (.pointer (some ⟨c', 0, none⟩))))
  have hR : (((W.setCell ⟨o, 0, none⟩ (.pointer (some ⟨c', 0, none⟩))).setCell ⟨w.heap.size + 1, 0, none⟩ (.int .i64 0)).putObj D (.deferred none)).heap[w.heap.size + 1]? = some (.cells #[.int .i64 0] 29 (0, 0)) :=
    (heap_putObj_ne _ _ _ _ hDr.symm).trans (heap_set (j := 0) ((Below.heap_setCell W ⟨o, 0, none⟩ _ (w.heap.size + 1) (by show w.heap.size + 1 ≠ o; omega)).trans rb) (.int .i64 0))
  refine ⟨(hk2 D hDo hDr).trans hK, ⟨c', q', r', cq', cr', N', F', ⟨hO, lu.lo.of fun k hk => ?_, by omega, by omega, by omega⟩, .inr (by omega), .inr (by omega), .inr (by omega), hb.os, hb.tape, hb.output, by have := hb.size; simpa [World.putObj] using this, fun k hk hn => ?_⟩, by simp [World.cell?, hR]⟩
  · obtain ⟨ob, h1, h2⟩ := lu.isC k (.inr hk)
    exact hk3 k (by rcases hk with rfl | rfl | rfl <;> omega) (by rcases hk with rfl | rfl | rfl <;> omega) (nD k ob h1 h2)
  · exact (hk3 k (fun e => hn (.inl e)) (by omega) (by omega)).trans (hb.block k hk)
/-- what Renumber answers, by what the slots become -/
def RnQ (w : World) (o c q r : Nat) (x : Option (List Nat)) (e : Ending) (w' : World) : Prop :=
  match x with
  | some l' => e = .returned (.int .i64 0) ∧ Opr w w' o c q r l'
  | none => e = .returned (.int .i64 2) ∧ Below w.heap.size w w'
/-- a region whose ways all end in one act, under a fence -/
theorem regionIn_one {F : Fence} {n : Nat} {P : Program} {c : Code} {Q : Exit → Act → World → Prop} {a : Act} {w : World} (A : Act) (R : World → Prop)
    (first : Code.wpIn F n P c (midQ fun a w => a = A ∧ R w) a w) (rest : ∀ w, R w → Q .normal A w) : Code.wpIn F n P c Q a w :=
  Code.wpIn_mono (fun e a' w' h => by
    cases e
    case normal => obtain ⟨rfl, h⟩ := h; exact rest _ h
    all_goals exact h.elim) first
set_option maxRecDepth 100000 in
set_option maxHeartbeats 20000000 in
theorem Renumber15 {w : World} {o c q r cq cr N : Nat} {F : Lnk.Fd} {l : List Nat} (H : Lu w o c q r cq cr N F l) {pt : Option Addr} {M ct : Nat} {T : List Nat} (hT : T.length = M) (hM : M ≤ 1000000) (hr : Ru w pt (ints T)) (hw : ∀ x ∈ T, x < 4294967296) :
    Calls Try.prog 40 #[.pointer (some ⟨o, 0, none⟩), .slice pt M ct] w (RnQ w o c q r (rnum T l [])) := by
  have HH := Lib.hid H
  have HZ := Lib.hid (fun (v : World) (hb : Below w.heap.size w v) => isZero_any (H.below hb))
  have HN := Lib.hid New_any
  have HA := Lib.hid (fun (v : World) (hb : Below w.heap.size w v) => All15_any (H.below hb))
  have HT := Lib.hid hT
  have HR := Lib.hid hr
  have HW := Lib.hid hw
  clear H hT hr hw
  refine (callsIn_wide (n := 6)).1 ?_
  refine callsIn_of_wp_marks Try.func40 rfl trivial ?_ rfl
  simp only [Try.ntmps40, List.size_toArray, List.length_cons, List.length_nil, Nat.reduceAdd, Nat.reduceSub, Array.replicate_succ, Array.replicate_zero, List.push_toArray, List.append_toArray, List.nil_append, List.cons_append]
  gi_wp2
  refine ⟨trivial, ?_⟩
  have B0 := Lib.hid (by go_grown : Below w.heap.size w ((w.alloc (.cells #[.slice pt M ct] 39)).alloc (.cells #[.int .i64 0] 29)))
  have T0 := Lib.hid (show ((w.alloc (.cells #[.slice pt M ct] 39)).alloc (.cells #[.int .i64 0] 29)).heap[w.heap.size]? = some (.cells #[.slice pt M ct] 39 (0, 0)) from (Below.heap_alloc _ _ w.heap.size (by simp)).trans (MapKept.heap_alloc w _).1)
  have R0 := Lib.hid (show ((w.alloc (.cells #[.slice pt M ct] 39)).alloc (.cells #[.int .i64 0] 29)).heap[w.heap.size + 1]? = some (.cells #[.int .i64 0] 29 (0, 0)) from by simpa using (MapKept.heap_alloc (w.alloc (.cells #[.slice pt M ct] 39)) (.cells #[.int .i64 0] 29)).1)
  obtain ⟨V, hV⟩ : ∃ V, (w.alloc (.cells #[.slice pt M ct] 39)).alloc (.cells #[.int .i64 0] 29) = V := ⟨_, rfl⟩
  rw [hV] at B0 T0 R0 ⊢
  clear hV
  gi_at_call 108
  refine (callsIn_wide.2 (HZ.out _ B0.out)).mono ?_
  rintro e v1 ⟨rfl, rfl⟩
  gi_wp2
  refine ⟨trivial, ?_⟩
  gi_at_call 28
  refine (callsIn_wide.2 (HN.out _)).mono ?_
  rintro e v1 ⟨⟨ox, c1, q1, r1, F1, rfl, lu1, g1, g2, g3, g4⟩, b1⟩
  gi_wp2
  refine ⟨trivial, ?_⟩
  gi_at_call 33
  have B1 := Lib.hid (tr B0.out b1)
  have bx1 := box_below v1 #[.pointer (some ⟨ox, 0, none⟩)] 53
  have B2 := Lib.hid (tr B1.out bx1)
  have hwV : w.heap.size + 2 ≤ V.heap.size := by have := (Array.getElem?_eq_some_iff.1 R0.out).1; omega
  obtain ⟨hlo, hlc, hlq, hlr⟩ := lu1.lt
  have RN2 := Lib.hid (show Rn w (v1.alloc (.cells #[.pointer (some ⟨ox, 0, none⟩)] 53)) pt M ct v1.heap.size ox (v1.heap.size + 1) (v1.heap.size + 1) [] from
    ⟨(bx1.block _ (by have := b1.size; omega)).trans ((b1.block _ (by omega)).trans T0.out), (bx1.block _ (by have := b1.size; omega)).trans ((b1.block _ (by omega)).trans R0.out), (MapKept.heap_alloc v1 _).1,
     ⟨c1, q1, r1, 2, 1, 1, F1, lu1.below bx1, ⟨by omega, .inl hlc⟩, ⟨by omega, .inl hlq⟩, ⟨by omega, .inl hlr⟩⟩, ⟨by omega, hlo, by omega, by omega, by simp⟩, B2.out⟩)
  refine (callsIn_wide.2 (HA.out _ B2.out)).mono ?_
  rintro e v2 ⟨⟨g, p, cp, rfl, hg1, hg2, hcg, hru, hpf⟩, b2⟩
  have hlo2 : (v1.alloc (.cells #[.pointer (some ⟨ox, 0, none⟩)] 53)).heap.size = v1.heap.size + 1 := by simp
  rw [hlo2] at hg1 hpf
  have RN := Lib.hid (show Rn w v2 pt M ct v1.heap.size ox (v1.heap.size + 1) v2.heap.size [] from by
    obtain ⟨a1, a2, a3, ⟨c', q', r', cq', cr', N', F', a4, k1, k2, k3⟩, a5, a6⟩ := RN2.out
    have hl := a4.lt
    rw [hlo2] at hl
    refine ⟨(b2.block _ (Array.getElem?_eq_some_iff.1 a1).1).trans a1, (b2.block _ (Array.getElem?_eq_some_iff.1 a2).1).trans a2, (b2.block _ (Array.getElem?_eq_some_iff.1 a3).1).trans a3, ⟨c', q', r', cq', cr', N', F', a4.below b2, ⟨k1.1, ?_⟩, ⟨k2.1, ?_⟩, ⟨k3.1, ?_⟩⟩, ⟨a5.1, a5.2.1, a5.2.2.1, by have := b2.size; omega, Nat.le_refl _⟩, tr a6 b2⟩
    · have := a4.lo.obj; have hx := (Array.getElem?_eq_some_iff.1 a3).1; rcases k1.2 with h | h <;> omega
    · rcases k2.2 with h | h <;> omega
    · rcases k3.2 with h | h <;> omega)
  clear b1 b2 bx1 lu1 g1 g2 g3 g4 hlo hlc hlq hlr T0 R0 B0 B1 B2 RN2 HZ HN HA
  gi_wp2
  have HX : ∀ x : El (ints l), ∃ s : Nat, x.val = (s : Int) ∧ s ∈ l := fun x => by
    have := x.property
    unfold ints at this
    obtain ⟨s, hs, e⟩ := List.mem_map.1 this
    exact ⟨s, e.symm, hs⟩
  refine' wpIn_rangeFunc_ownF (encs := fun x : El (ints l) => #[.int .u32 x.val]) (Kp := fun A B => Mid (v1.heap.size + 1) v2.heap.size A B ∧ A.heap.size ≤ B.heap.size) (S := fun ys => vals ys = ints l) (Sp := fun pre => vals pre <+: ints l) (N := (ints l).length) rfl (by decide) (gf := 100) (lb := #[.pointer (some ⟨g, 0, none⟩)]) rfl trivial (enters_of Try.func100 (by kernel_rfl) rfl)
    (w0 := v2)
    (fun L J Jx W hW _ _ hY h0 => allsub_in (fun A B => Mid (v1.heap.size + 1) v2.heap.size A B ∧ A.heap.size ≤ B.heap.size) L g p cp (ints l) (by rw [ints_len]; exact HH.out.lo.len_le (k := 0) rfl) J Jx
      (fun W1 W2 hh r => hh.1.ru (fun y hy => by have := hpf y hy; omega) (fun i x hx y hy => by obtain ⟨y', hy', h1, -⟩ := hru i x hx; rw [hy] at hy'; cases hy'; exact h1) (.inl hh.2) r)
      hY W ((hW.cell (p := ⟨g, 0, none⟩) hg2).trans hcg) (hru.below hW) h0)
    (fun h k => ⟨h.1.trans k.1, Nat.le_trans h.2 k.2⟩) (fun W l o o' h1 h2 h3 h4 => ⟨Mid.putObj (Nat.le_refl _) W l o o' h1 h2 h3 h4, by simp [World.putObj]⟩) (Below.refl _ _) (fun _ => rfl)
    (fun pre W => ∃ P acc, vals pre = ints P ∧ rnum T P [] = some acc ∧ Rn w W pt M ct v1.heap.size ox (v1.heap.size + 1) v2.heap.size acc)
    (fun c pre W => c = .ret ∧ ∃ P, vals pre = ints P ∧ rnum T P [] = none ∧ W.heap[w.heap.size + 1]? = some (.cells #[.int .i64 2] 29 (0, 0)) ∧ Below w.heap.size w W)
    (fun pre W W' row hI hg hr => ?ownI) (fun c pre W W' row hI hg hr => ?ownX) ⟨[], [], rfl, rfl, RN.out⟩
    _ ?assign ?body ?done ?stop
  case ownI =>
    obtain ⟨P, acc, h1, h2, h3⟩ := hI
    exact ⟨P, acc, h1, h2, h3.own RN.out.bl.size hg hr⟩
  case ownX =>
    obtain ⟨rfl, P, h1, h2, h3, h4⟩ := hI
    exact ⟨rfl, P, h1, h2, (grownBy_keeps_cells hg (fun r e => (hr r e).2) h3 rfl).trans h3, h4.grown hg h4.size fun k hk => Nat.le_trans RN.out.bl.size (hr k hk).1⟩
  case assign =>
    intro l x W K hK
    gi_wp2
    exact hK
  case body =>
    rintro L pre x W ⟨P, acc, hP, hacc, rn⟩ hlt
    obtain ⟨s, hs, hsl⟩ := HX x
    have hmix : Try.prog.follows .mixedOrders = true := by kernel_rfl
    rw [hs]
    have HRN := Lib.hid rn
    have hsN := (HH.out.lo.ring.mem 0 l s rfl hsl).1
    have hsN2 := HH.out.lo.n2
    have ws := IntWalk.i64_in (s : Int) (by omega)
    have t0 : W.drew.cell? ⟨w.heap.size, 0, none⟩ = some (.slice pt M ct) := (cell_drew_own W _).trans (by simp [World.cell?, rn.tb])
    have x0 : W.drew.cell? ⟨v1.heap.size, 0, none⟩ = some (.pointer (some ⟨ox, 0, none⟩)) := (cell_drew_own W _).trans (by simp [World.cell?, rn.xb])
    have r0 : W.drew.cell? ⟨w.heap.size + 1, 0, none⟩ = some (.int .i64 0) := (cell_drew_own W _).trans (by simp [World.cell?, rn.rb])
    have f0 : W.drew.frozen? ⟨w.heap.size + 1, 0, none⟩ = false := (frozen_drew_own W _).trans (by simp [World.frozen?, rn.rb])
    have KD : ∀ W' : World, KeepsOthers W.drew W' → KeepsOthers W W' := fun W' h => (KeepsOthers.drew W).trans h
    have HPS := Lib.hid (show vals (pre ++ [x]) = ints (P ++ [s]) from by rw [vals_snoc, hP, hs]; unfold ints; simp)
    by_cases hsM : s < M
    · obtain ⟨t, ht⟩ : ∃ t, T[s]? = some t := ⟨T[s]'(by rw [HT.out]; exact hsM), List.getElem?_eq_getElem _⟩
      obtain ⟨y, hpy, hyb, e0⟩ := HR.out s (t : Int) (by unfold ints; rw [List.getElem?_map, ht]; rfl)
      have ht2 := HW.out t (List.mem_of_getElem? ht)
      have e1 : W.drew.cell? (y.add s) = some (.int .u32 (t : Int)) := (cell_drew_own W _).trans ((rn.bl.cell (p := y.add s) (by rw [Lnk.add_block]; exact hyb)).trans e0)
      have c1 : ¬ (M : Int) ≤ (s : Int) := by omega
      have c4 : ¬ M ≤ s := by omega
      have c2 : (s : Int) < (M : Int) := by omega
      have c3 : (0 : Int) ≤ (s : Int) := by omega
      obtain ⟨c', q', r', cq', cr', N', F', lu, k1, k2, k3⟩ := rn.lu
      have HAD := Lib.hid (Add_any (lu.below (Below.drew (Below.refl W.heap.size W))) t ht2)
      have HKO := Lib.hid (fun (W' : World) (l' : List Nat) (op : Opr W.drew W' ox c' q' r' l') => (show Rn w W' pt M ct v1.heap.size ox (v1.heap.size + 1) v2.heap.size l' ∧ KeepsOthers W W' ∧ (Mid (v1.heap.size + 1) v2.heap.size W W' ∧ W.heap.size ≤ W'.heap.size) from by
        have op2 : Opr W W' ox c' q' r' l' := Opr.trans (.inl rfl) (.inl rfl) (.inl rfl) (Kp.of (Below.drew (Below.refl W.heap.size W))) op
        obtain ⟨a1, a2⟩ := HRN.out.step k1 k2 k3 op2
        obtain ⟨_, _, _, _, _, _, _, _, _, _, _, kp⟩ := op2
        exact ⟨a1, lu.keepO kp, a2, kp.size⟩))
      have HTT := Lib.hid ht
      have HAC := Lib.hid hacc
      subst hpy
      clear rn hsN hsN2 lu k1 k2 k3 ht e0 hyb ht2
      by_cases hok : t < 4194304 ∧ t ∉ acc
      · rw [show addC acc t = 0 by unfold addC; rw [if_pos hok.1, if_neg hok.2], show addL acc t = acc ++ [t] from if_pos hok] at HAD
        have HNX := Lib.hid (show rnum T (P ++ [s]) [] = some (acc ++ [t]) from by
          rw [rnum_append, HAC.out]
          show rnum T [s] acc = _
          simp only [rnum, HTT.out]
          rw [if_pos hok])
        clear hok
        gi_wp2
        apply regionIn_one (A := { tmps := #[.pointer (some ⟨o, 0, none⟩), .slice (some y) M ct, undef, .pointer (some ⟨w.heap.size, 0, none⟩), .pointer (some ⟨w.heap.size + 1, 0, none⟩), .pointer (some ⟨v1.heap.size, 0, none⟩), .int .u32 s, .pointer (some ⟨o, 0, none⟩), .bool false, .pointer (some ⟨ox, 0, none⟩), .pointer (some ⟨o, 0, none⟩), .func (.func 100) #[] #[.pointer (some ⟨g, 0, none⟩)], .int .u32 s, .int .u32 s, .int .i64 s, .slice (some y) M ct, .int .i64 M, .bool false, .bool false, .pointer (some ⟨ox, 0, none⟩), .slice (some y) M ct, .int .u32 s, .pointer (some (y.add s)), .int .u32 t, .int .i64 0, .bool false, .bool false, undef, undef, undef, undef, undef, undef, undef], defers := [] }) (R := fun W3 => Opr W.drew W3 ox c' q' r' (acc ++ [t]))
        case first =>
          gi_region_with_o (refine ⟨trivial, ?_⟩; gi_at_call 32; refine (CallsIn.inRound L (callsIn_wide.2 HAD.out)).mono ?_; rintro e W3 ⟨rfl, op⟩)
          all_goals (dsimp only [midQ]; exact ⟨rfl, by assumption⟩)
        case rest =>
          intro W3 op
          have HOP := Lib.hid (HKO.out _ _ op)
          clear op
          gi_wp2
          exact ⟨HOP.out.2.1, HOP.out.2.2, P ++ [s], acc ++ [t], HPS.out, HNX.out, HOP.out.1⟩
      · have hz : (addC acc t == 0) = false ∧ (addC acc t != 0) = true := by
          unfold addC
          split
          · rw [if_pos (Decidable.of_not_not fun h => hok ⟨‹_›, h⟩)]; decide
          · decide
        obtain ⟨z, hzz⟩ : ∃ z, z = addC acc t := ⟨_, rfl⟩
        rw [← hzz] at HAD hz
        have hz1 := hz.1
        have hz2 := hz.2
        have hz3 : ¬ z = 0 := fun h => by rw [h] at hz1; cases hz1
        rw [show addL acc t = acc from if_neg hok] at HAD
        have HNX := Lib.hid (show rnum T (P ++ [s]) [] = none from by
          rw [rnum_append, HAC.out]
          show rnum T [s] acc = _
          simp only [rnum, HTT.out]
          rw [if_neg hok])
        clear hok hz hzz
        gi_wp2
        apply regionIn_one (A := { tmps := #[.pointer (some ⟨o, 0, none⟩), .slice (some y) M ct, undef, .pointer (some ⟨w.heap.size, 0, none⟩), .pointer (some ⟨w.heap.size + 1, 0, none⟩), .pointer (some ⟨v1.heap.size, 0, none⟩), .int .u32 s, .pointer (some ⟨o, 0, none⟩), .bool false, .pointer (some ⟨ox, 0, none⟩), .pointer (some ⟨o, 0, none⟩), .func (.func 100) #[] #[.pointer (some ⟨g, 0, none⟩)], .int .u32 s, .int .u32 s, .int .i64 s, .slice (some y) M ct, .int .i64 M, .bool false, .bool false, .pointer (some ⟨ox, 0, none⟩), .slice (some y) M ct, .int .u32 s, .pointer (some (y.add s)), .int .u32 t, .int .i64 z, .bool true, .bool true, undef, undef, undef, undef, undef, undef, undef], defers := [] }) (R := fun W3 => Opr W.drew W3 ox c' q' r' acc)
        case first =>
          gi_region_with_o (refine ⟨trivial, ?_⟩; gi_at_call 32; refine (CallsIn.inRound L (callsIn_wide.2 HAD.out)).mono ?_; rintro e W3 ⟨rfl, op⟩)
          all_goals (dsimp only [midQ]; exact ⟨rfl, by assumption⟩)
        case rest =>
          intro W3 op
          have HOP := Lib.hid (HKO.out _ _ op)
          clear op
          have r3 : W3.cell? ⟨w.heap.size + 1, 0, none⟩ = some (.int .i64 0) := by simp [World.cell?, HOP.out.1.rb]
          have f3 : W3.frozen? ⟨w.heap.size + 1, 0, none⟩ = false := by simp [World.frozen?, HOP.out.1.rb]
          gi_wp2
          exact ⟨(HOP.out.2.1).trans (KeepsOthers.setCell _ _ _), rfl, P ++ [s], HPS.out, HNX.out, heap_set (j := 0) HOP.out.1.rb (.int .i64 2), HOP.out.1.bl.setCell (p := ⟨w.heap.size + 1, 0, none⟩) (by show w.heap.size ≤ w.heap.size + 1; omega) _⟩
    · have c1 : (M : Int) ≤ (s : Int) := by omega
      have c4 : M ≤ s := by omega
      have HNO := Lib.hid (show rnum T (P ++ [s]) [] = none from by
        rw [rnum_append, hacc]
        show rnum T [s] acc = none
        simp [rnum, List.getElem?_eq_none (show T.length ≤ s by rw [HT.out]; omega)])
      clear rn hsN hsN2
      gi_wp2
      apply regionIn_one (A := { tmps := #[.pointer (some ⟨o, 0, none⟩), .slice pt M ct, undef, .pointer (some ⟨w.heap.size, 0, none⟩), .pointer (some ⟨w.heap.size + 1, 0, none⟩), .pointer (some ⟨v1.heap.size, 0, none⟩), .int .u32 s, .pointer (some ⟨o, 0, none⟩), .bool false, .pointer (some ⟨ox, 0, none⟩), .pointer (some ⟨o, 0, none⟩), .func (.func 100) #[] #[.pointer (some ⟨g, 0, none⟩)], .int .u32 s, .int .u32 s, .int .i64 s, .slice pt M ct, .int .i64 M, .bool true, .bool true, undef, undef, undef, undef, undef, undef, undef, .bool true, undef, undef, undef, undef, undef, undef, undef], defers := [] }) (R := fun W3 => W3 = W.drew)
      case first =>
        gi_region_with_o (refine ⟨trivial, ?_⟩)
        all_goals (dsimp only [midQ]; exact ⟨rfl, rfl⟩)
      case rest =>
        rintro W3 rfl
        gi_wp2
        exact ⟨((KeepsOthers.setCell _ _ _)).trans (KeepsOthers.drew _), rfl, P ++ [s], HPS.out, HNO.out, (heap_set (j := 0) HRN.out.rb (.int .i64 2) : _), (HRN.out.bl.setCell (p := ⟨w.heap.size + 1, 0, none⟩) (by show w.heap.size ≤ w.heap.size + 1; omega) _).drew⟩
  case done =>
    rintro D ys W hD hys ⟨P, acc, hP, hacc, rn⟩ hK
    have hPl : P = l := by
      have h1 : ints P = ints l := hP.symm.trans hys
      have := congrArg (List.map Int.toNat) h1
      simpa [ints, List.map_map, Function.comp_def] using this
    subst hPl
    obtain ⟨c', q', r', cq', cr', N', F', lu, k1, k2, k3⟩ := rn.lu
    have dx := rn.dx
    have x0 : W.cell? ⟨v1.heap.size, 0, none⟩ = some (.pointer (some ⟨ox, 0, none⟩)) := by simp [World.cell?, rn.xb]
    have r0 : W.cell? ⟨w.heap.size + 1, 0, none⟩ = some (.int .i64 0) := by simp [World.cell?, rn.rb]
    have f0 : W.frozen? ⟨w.heap.size + 1, 0, none⟩ = false := by simp [World.frozen?, rn.rb]
    have o0 : W.cell? ⟨ox, 0, none⟩ = some (.pointer (some ⟨c', 0, none⟩)) := lu.cell
    have hlu := HH.out.below rn.bl
    have p0 : W.cell? ⟨o, 0, none⟩ = some (.pointer (some ⟨c, 0, none⟩)) := hlu.cell
    have pf : W.frozen? ⟨o, 0, none⟩ = false := by simp [World.frozen?, hlu.ob]
    have ho := HH.out.lt.1
    obtain ⟨W2, hW2⟩ : ∃ W2, W.setCell ⟨o, 0, none⟩ (.pointer (some ⟨c', 0, none⟩)) = W2 := ⟨_, rfl⟩
    have hb2 : W2.heap[w.heap.size + 1]? = W.heap[w.heap.size + 1]? := by rw [← hW2]; exact Below.heap_setCell W ⟨o, 0, none⟩ _ _ (by show w.heap.size + 1 ≠ o; omega)
    have r2 : (W.setCell ⟨o, 0, none⟩ (.pointer (some ⟨c', 0, none⟩))).cell? ⟨w.heap.size + 1, 0, none⟩ = some (.int .i64 0) := by rw [hW2]; simp [World.cell?, hb2, rn.rb]
    have f2 : (W.setCell ⟨o, 0, none⟩ (.pointer (some ⟨c', 0, none⟩))).frozen? ⟨w.heap.size + 1, 0, none⟩ = false := by rw [hW2]; simp [World.frozen?, hb2, rn.rb]
    have HRN := Lib.hid rn
    have HLU := Lib.hid lu
    have HLP := Lib.hid hlu
    have HAC := Lib.hid hacc
    have HB2 := Lib.hid hb2
    have HW2 := Lib.hid hW2
    clear rn lu hlu hacc hb2 hW2
    gi_wp2
    have hd2 : w.heap.size ≤ D := by have := RN.out.bl.size; omega
    obtain ⟨d1, d2, d3⟩ := rn_done HLP.out HRN.out.bl ho HLU.out k1.1 k2.1 k3.1 HRN.out.rb hd2 hK
    refine ⟨by simp, .inl ⟨_, _, rfl, run_takeDeferred d1, ?_⟩⟩
    rw [HAC.out]
    refine ⟨.int .i64 0, by simp [results, Try.results40, go_sem, d3], rfl, d2⟩
  case stop =>
    have dxR := RN.out.dx
    rintro D c pre W hD hpre ⟨rfl, P, hP, hno, hres, hbl⟩ hK
    have r0 : W.cell? ⟨w.heap.size + 1, 0, none⟩ = some (.int .i64 2) := by simp [World.cell?, hres]
    have hNone := rnum_prefix (l := l) (by rw [← hP]; exact hpre) hno
    gi_wp2
    have hd2 : w.heap.size ≤ D := by have := RN.out.bl.size; omega
    have hD1 : w.heap.size + 1 ≠ D := fun e => by rw [← e, hres] at hK; cases hK
    have d3 : (W.putObj D (.deferred none)).cell? ⟨w.heap.size + 1, 0, none⟩ = some (.int .i64 2) := by simp [World.cell?, heap_putObj_ne W D _ _ hD1, hres]
    refine ⟨by simp, .inl ⟨_, _, rfl, run_takeDeferred hK, ?_⟩⟩
    rw [hNone]
    refine ⟨.int .i64 2, by simp [results, Try.results40, go_sem, d3], rfl, hbl.trans (belowK_b (w := w) (Nat.le_refl _) W D _ _ hd2 hK rfl rfl)⟩
end Go.Proofs.Ytjcabdnjimcdgaa.Lru
