/-
  Walks over the reference of layer 34: keys that are added.
-/
import Derived.Test.YtohldfhelppehaaBloN
set_option linter.unusedVariables false
set_option linter.unusedSimpArgs false
namespace Go.Proofs.Ytohldfhelppehaa.Blo
open Go.RowKit Kit Hash
theorem info_bool : (Try.prog.info? 4).map (fun i => (i.zero, i.size, i.bytes)) = some (some (.bool false), 1, 1) := by kernel_rfl
theorem Rr.news {W w1 : World} {r m : Nat} {s : Nat → Bool} (h : Rr W r m s) (hb : Below W.heap.size W w1) : ∀ j u, ((List.range m).map fun i => Value.bool (s i))[j]? = some u → w1.cell? ((⟨r, 0, none⟩ : Addr).add j) = some u := by
  intro j v hj
  have hjn : j < m := by have := (List.getElem?_eq_some_iff.1 hj).1; simpa using this
  have := (h.below hb).cell j hjn
  simp [hjn] at hj
  rw [Go.WideShapes.add_plain, Nat.zero_add, this, ← hj]
structure Fx (w : World) (B : Nat) (hs sd : Int) (g m c : Nat) : Prop where
  z0 : w.cell? ⟨B, 0, none⟩ = some (.int .i64 hs)
  z1 : w.cell? ⟨B, 1, none⟩ = some (.int .u64 sd)
  z2 : w.cell? ⟨B, 2, none⟩ = some (.slice (some ⟨g, 0, none⟩) m c)
  z3 : w.heap[B + 1]? = some (.cells #[.int .i64 0, .int .u64 0, .slice none 0 0] 25 (0, 0))
theorem Fx.of {w w' : World} {B : Nat} {hs sd : Int} {g m c : Nat} (h : Fx w B hs sd g m c) (h0 : w'.heap[B]? = w.heap[B]?) (h1 : w'.heap[B + 1]? = w.heap[B + 1]?) : Fx w' B hs sd g m c :=
  ⟨(World.cell?_of_block (w := w) h0).trans h.z0, (World.cell?_of_block (w := w) h0).trans h.z1, (World.cell?_of_block (w := w) h0).trans h.z2, h1.trans h.z3⟩
theorem Fx.below {w w' : World} {B : Nat} {hs sd : Int} {g m c : Nat} (h : Fx w B hs sd g m c) (hb : Below w.heap.size w w') (hB : B + 1 < w.heap.size) : Fx w' B hs sd g m c := h.of (hb.block B (by omega)) (hb.block _ hB)
theorem Fx.but {w w' : World} {B x : Nat} {hs sd : Int} {g m c : Nat} (h : Fx w B hs sd g m c) (hb : But x w w') (h0 : B < w.heap.size) (h1 : B + 1 < w.heap.size) (h2 : B ≠ x) (h3 : B + 1 ≠ x) : Fx w' B hs sd g m c := h.of (hb.block B h0 h2) (hb.block _ h1 h3)
set_option maxRecDepth 100000 in
set_option maxHeartbeats 1000000 in
theorem raddR {W : World} {r n c : Nat} {hs sd : Int} {s : Nat → Bool} (h : Rr W r (64 * n) s) (ok : Ok n hs sd) (k : ByteArray) (hk : k.size ≤ maxLen) :
    Calls Try.prog 23 #[rf hs sd r (64 * n) c, .string k] W fun e w' => ∃ r' c', e = .returned (.tuple #[rf hs sd r' (64 * n) c', .bool (!(pls (sumN sd k) (64 * n) hs.toNat).all s)]) ∧ Rr w' r' (64 * n) (insL s (pls (sumN sd k) (64 * n) hs.toNat)) ∧ W.heap.size ≤ r' ∧ Below W.heap.size W w' := by
  have HP := Lib.hid (fun w r c => rplacesR (W := w) (r := r) (c := c) ok k hk)
  have HH := Lib.hid (fun (w : World) (hb : Below W.heap.size W w) => rhasR (W := w) (c := c) (h.below hb) ok k hk)
  have HR := Lib.hid h
  have h1 := ok.h1
  have h2 := ok.h2
  have n1 := ok.n1
  have n2 := ok.n2
  obtain ⟨i0, hi, hzz⟩ := Option.map_eq_some_iff.1 info_bool
  simp only [Prod.mk.injEq] at hzz
  obtain ⟨hz0, hz1, hz2⟩ := hzz
  clear ok h
  go_enter Try.func23, Try.ntmps23
  go_wp2_with fail
  refine (HH.out _ (by go_grown)).mono ?_
  rintro e w1 ⟨rfl, b1⟩
  have B1 := Lib.hid (show Below (W.heap.size + 1) (W.alloc (rfO hs sd r (64 * n) c)) w1 from (((Below.refl _ (W.alloc (rfO hs sd r (64 * n) c))).alloc (by simp) _).trans (b1.mono (by simp))))
  obtain ⟨c0, c1, c2⟩ := rf_cells B1.out
  have hsz := b1.size
  simp only [World.size_alloc] at hsz
  have HN := Lib.hid (HR.out.news (rf_below B1.out))
  go_wp2_with (at_builtin; refine wpList_append_own _ rfl (.const (.slice none 0 0)) (.tmp 14) 23 rfl w1.heap.size 4 i0 (.bool false) 1 1 Try.underlying23 hi hz0 hz1 hz2 rfl (by decide) _ 0 [] rfl (World.ownsRow_nil _ _ _ _) ⟨r, 0, none⟩ (64 * n) c ((List.range (64 * n)).map fun i => Value.bool (s i)) rfl (by simp) HN.out (by intro v hv; obtain ⟨x, _, rfl⟩ := List.mem_map.1 hv; rfl) (by unfold maxLen; omega) (by omega) (by simp) ?_)
  intro v' w2 hown hgrow hnil
  have b2 : Below w1.heap.size w1 w2 := (Below.refl _ w1).grown hgrow (Nat.le_refl _) (fun k hk => by simp [Value.ownBlock] at hk)
  rcases own_row hown (by simp) with ⟨-, h0⟩ | ⟨g, c', rfl, hg, hc1, hc2, hrow⟩
  · omega
  · have hr2 : Rr w2 g (64 * n) s := hrow.congr fun i hi => by simp [List.getD, hi]
    have HR2 := Lib.hid hr2
    have HB2 := Lib.hid b2
    have d0 := (b2.cell (p := ⟨W.heap.size, 0, none⟩) (by show W.heap.size < _; omega)).trans c0
    have d1 := (b2.cell (p := ⟨W.heap.size, 1, none⟩) (by show W.heap.size < _; omega)).trans c1
    have d2 := (b2.cell (p := ⟨W.heap.size, 2, none⟩) (by show W.heap.size < _; omega)).trans c2
    have e2 : w2.frozen? ⟨W.heap.size, 2, none⟩ = false := (b2.frozen (p := ⟨W.heap.size, 2, none⟩) (by show W.heap.size < _; omega)).trans ((B1.out.frozen (p := ⟨W.heap.size, 2, none⟩) (by simp)).trans (by unfold World.frozen?; rw [(MapKept.heap_alloc W _).1]; rfl))
    clear hrow hr2 hown hgrow hnil c0 c1 c2
    have s2 := b2.size
    clear b2
    go_wp2_with fail
    refine (HP.out _ g c').mono ?_
    rintro e w4 ⟨v, rfl, hown, b4⟩
    obtain ⟨gp, cg, hv, hgp, hprow⟩ := pls_row hown (by omega)
    subst hv
    have hw3 : But W.heap.size w2 (w2.setCell ⟨W.heap.size, 2, none⟩ (.slice (some ⟨g, 0, none⟩) (64 * n) c')) := (But.refl _ _).setCell _
    have hs3 : (w2.setCell ⟨W.heap.size, 2, none⟩ (.slice (some ⟨g, 0, none⟩) (64 * n) c')).heap.size = w2.heap.size := by simp
    have hFx : Fx w4 W.heap.size hs sd g (64 * n) c' := by
      refine Fx.below ?_ b4 (by rw [hs3]; omega)
      refine ⟨?_, ?_, ?_, ?_⟩
      · simp [go_sem, d0]
      · simp [go_sem, d1]
      · simp [go_sem, d2]
      · have h0 : ((W.alloc (rfO hs sd r (64 * n) c)).alloc (.cells #[.int .i64 0, .int .u64 0, .slice none 0 0] 25)).heap[W.heap.size + 1]? = some (.cells #[.int .i64 0, .int .u64 0, .slice none 0 0] 25 (0, 0)) := by
          have := (MapKept.heap_alloc (W.alloc (rfO hs sd r (64 * n) c)) (.cells #[.int .i64 0, .int .u64 0, .slice none 0 0] 25)).1
          rwa [World.size_alloc] at this
        have h1 := (b1.block (W.heap.size + 1) (by simp)).trans h0
        have h2 := (HB2.out.block (W.heap.size + 1) (by omega)).trans h1
        exact (hw3.block _ (by omega) (by omega)).trans h2
    have hr4 : Rr w4 g (64 * n) s := (HR2.out.but hw3 (by omega)).below b4
    have HR4 := Lib.hid hr4
    have HF4 := Lib.hid hFx
    have HP4 := Lib.hid hprow
    have hg1 : W.heap.size + 1 < g := by omega
    have hgg : g ≠ gp := by have := HR2.out.lt; rw [hs3] at hgp; omega
    have hg4 : g < w4.heap.size := HR4.out.lt
    have hgp4 : gp < w4.heap.size := hprow.lt
    have HBW := Lib.hid (show Below W.heap.size W w4 from (((rf_below B1.out).trans (HB2.out.mono (by omega))).trans (hw3.below (Nat.le_refl _) (by omega))).trans (b4.mono (by rw [hs3]; omega)))
    clear hr4 hFx hprow hw3 d0 d1 d2 e2 hown b4 b1 hgp hs3
    generalize hx : sumN sd k = x at *
    have HX := Lib.hid hx
    clear hx
    go_wp2_with fail
    go_loopw [8] (fun i wr => ∃ j : Nat, j ≤ hs.toNat ∧ i = .int .i64 j ∧ Rr wr g (64 * n) (insL s (pls x (64 * n) j)) ∧ But g w4 wr) (fun i _ => hs.toNat - (intOf i).toNat)
    case atStart => exact ⟨0, by omega, rfl, HR4.out, But.refl _ _⟩
    case round =>
      obtain ⟨j, hj, rfl, hR, hB⟩ := hrel
      have HRR := Lib.hid hR
      have HBB := Lib.hid hB
      obtain ⟨z0, z1, z2, z3⟩ := HF4.out.but hB (by omega) (by omega) (by omega) (by omega)
      clear hR hB
      by_cases hlt : j < hs.toNat
      · have kg := (HP4.out.but HBB.out (Ne.symm hgg)).cell j hlt
        have hlp : pl x (64 * n) j < 64 * n := pl_lt (by omega)
        have kr := HRR.out.cell (pl x (64 * n) j) hlp
        have fr := HRR.out.fr (pl x (64 * n) j)
        have HPS := Lib.hid (show insL s (pls x (64 * n) (j + 1)) = ins (insL s (pls x (64 * n) j)) (pl x (64 * n) j) by rw [pls_succ, insL_snoc])
        generalize pl x (64 * n) j = z at *
        clear z3
        go_wp2_with fail
        go_region
        go_wp2_with fail
        go_roundw
        case rel =>
          refine ⟨j + 1, by omega, by go_num, ?_, (HBB.out.setCell _).tr (Below.drew (Below.refl _ _))⟩
          rw [HPS.out]
          refine Row.of_block (W := wr.setCell ⟨g, z, none⟩ (.bool true)) ((HRR.out.set z (.bool true)).congr fun i hi => ?_) rfl
          unfold ins
          by_cases h : i = z <;> simp [h]
        case measure => simp [intOf] <;> omega
      · obtain rfl : j = hs.toNat := by omega
        have y0 : wr.cell? ⟨W.heap.size + 1, 0, none⟩ = some (.int .i64 0) := by simp [World.cell?, z3]
        have y1 : wr.cell? ⟨W.heap.size + 1, 1, none⟩ = some (.int .u64 0) := by simp [World.cell?, z3]
        have y2 : wr.cell? ⟨W.heap.size + 1, 2, none⟩ = some (.slice none 0 0) := by simp [World.cell?, z3]
        have v0 : ∀ o, wr.frozen? ⟨W.heap.size + 1, o, none⟩ = false := fun o => by simp [World.frozen?, z3]
        go_wp2_with fail
        refine bodyPost_ret (v := .tuple #[rf hs sd g (64 * n) c', .bool (!(pls x (64 * n) hs.toNat).all s)]) (by simp [results, Try.results23, go_sem, y0, y1, y2]) rfl ⟨g, c', by rw [HX.out], ?_, by omega, ?_⟩
        · rw [HX.out]
          exact ((HRR.out.other (by show g ≠ W.heap.size + 1; omega) _).other (by show g ≠ W.heap.size + 1; omega) _).other (by show g ≠ W.heap.size + 1; omega) _
        · exact (((HBW.out.trans (HBB.out.below (by omega) (by omega))).setCell (p := ⟨W.heap.size + 1, 0, none⟩) (Nat.le_succ _) _).setCell (p := ⟨W.heap.size + 1, 1, none⟩) (Nat.le_succ _) _).setCell (p := ⟨W.heap.size + 1, 2, none⟩) (Nat.le_succ _) _
end Go.Proofs.Ytohldfhelppehaa.Blo
