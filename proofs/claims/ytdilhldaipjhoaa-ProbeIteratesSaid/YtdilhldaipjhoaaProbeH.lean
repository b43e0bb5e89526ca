/-
  The walk over the law ProbeHolds (layer 6).
-/
import Derived.Test.YtdilhldaipjhoaaProbeJ
namespace Go.Proofs.Ytdilhldaipjhoaa.Probe
open Go.RowKit Kit GrowM Grow Go.Shelf

theorem at_any (p g i n want : Int) (H : ∀ w, Calls Try.prog 23 #[.int .u64 p, .int .i64 g, .int .i64 i] w fun e w' => e = .returned (.tuple #[.int .i64 n, .int .i64 0]) ∧ w = w') (w : World) :
    Calls Try.prog 16 #[.int .u64 p, .int .i64 g, .int .i64 i, .int .i64 want, .int .i64 0] w fun e w' => e = .returned (.bool (decide (n = want))) ∧ w = w' := by
  have HH := Lib.hid H
  clear H
  by_cases h : n = want
  · subst h
    exact (at_true p g i n 0 HH.out w).mono (by rintro e w' ⟨rfl, h⟩; exact ⟨ret_bool (by simp), h⟩)
  · go_enter Try.func16, Try.ntmps16
    go_wp2_with fail
    refine (HH.out _).mono ?_
    rintro e w1 ⟨rfl, rfl⟩
    go_wp2_with fail
    go_ret
    exact ⟨ret_bool (by simp [h]), rfl⟩
/-- the row of flags: which numbers have come -/
def rowB (g : Nat) (q : List Int) : Array Value := (Array.range g).map fun (j : Nat) => .bool (decide ((j : Int) ∈ q))
theorem rowB_size (g : Nat) (q : List Int) : (rowB g q).size = g := by simp [rowB]
theorem rowB_get (g : Nat) (q : List Int) (j : Nat) (hj : j < g) : (rowB g q)[j]? = some (.bool (decide ((j : Int) ∈ q))) := by simp [rowB, hj]
theorem rowB_set (g : Nat) (q : List Int) (j : Nat) (hj : j < g) : (rowB g q).set j (.bool true) (by rw [rowB_size]; exact hj) = rowB g (q ++ [(j : Int)]) := by
  apply Array.ext (by simp [rowB_size])
  intro m h1 h2
  have hm : m < g := by simpa [rowB_size] using h2
  simp only [rowB, Array.getElem_set, Array.getElem_map, Array.getElem_range, List.mem_append, List.mem_singleton]
  by_cases he : j = m
  · subst he; simp
  · have : (m : Int) ≠ (j : Int) := by omega
    simp [he, this]
theorem made_rowB (g : Nat) : madeCells #[.bool false] g = rowB g [] := by
  apply Array.ext (by simp [rowB_size, size_madeCells])
  intro m h1 h2
  simp [madeCells, rowB]
  rw [Nat.mod_one]; rfl
/-- a block of some cells, not frozen -/
def BoxA (W : World) (b : Nat) (t : TypeId) (vs : Array Value) : Prop := W.heap[b]? = some (.cells vs t (0, 0))
theorem BoxA.lt {W : World} {b : Nat} {t : TypeId} {vs : Array Value} (h : BoxA W b t vs) : b < W.heap.size := (Array.getElem?_eq_some_iff.1 h).1
theorem BoxA.cell {W : World} {b j : Nat} {t : TypeId} {vs : Array Value} (h : BoxA W b t vs) : W.cell? ⟨b, j, none⟩ = vs[j]? := by simp [World.cell?, show W.heap[b]? = _ from h]
theorem BoxA.frozen {W : World} {b j : Nat} {t : TypeId} {vs : Array Value} (h : BoxA W b t vs) : W.frozen? ⟨b, j, none⟩ = false := by simp [World.frozen?, show W.heap[b]? = _ from h]
theorem BoxA.other {W : World} {b b' : Nat} {t : TypeId} {vs : Array Value} (h : BoxA W b t vs) (hne : b ≠ b') (o : Nat) (u : Value) : BoxA (W.setCell ⟨b', o, none⟩ u) b t vs :=
  (Below.heap_setCell _ _ _ b hne).trans h
theorem BoxA.set {W : World} {b j : Nat} {t : TypeId} {vs : Array Value} (h : BoxA W b t vs) (hj : j < vs.size) (u : Value) : BoxA (W.setCell ⟨b, j, none⟩ u) b t (vs.set j u hj) := by
  obtain ⟨hlt, hk⟩ := Array.getElem?_eq_some_iff.1 h
  show (W.heap.modify b _)[b]? = _
  rw [Array.getElem?_eq_getElem (by rw [Array.size_modify]; exact hlt), Array.getElem_modify_self, hk]
  simp [Array.setIfInBounds, hj]
theorem boxA_own {β : Type} (b : Nat) (t : TypeId) (f : β → Array Value) : Own (fun s W => BoxA W b t (f s)) := fun s X Y row hs hg hrow =>
  (hg.block b (BoxA.lt hs) (fun e' => by obtain ⟨o, ho, hc⟩ := hrow b e'.symm; rw [show X.heap[b]? = _ from hs] at ho; cases ho; cases hc)).trans hs
theorem Boxed.other2 {W : World} {B B' : Nat} {t : TypeId} {v : Value} (h : Boxed W B t v) (hne : B ≠ B') (o : Nat) (u : Value) : Boxed (W.setCell ⟨B', o, none⟩ u) B t v :=
  (Below.heap_setCell _ _ _ B hne).trans h
theorem Mid.setCell2 {lo hi b o : Nat} {A B : World} (h : Mid lo hi A B) (hb : b < lo ∨ hi ≤ b) (v : Value) : Mid lo hi A (B.setCell ⟨b, o, none⟩ v) :=
  fun c h1 h2 => (Below.heap_setCell B ⟨b, o, none⟩ v c (by show c ≠ b; omega)).trans (h c h1 h2)
theorem make_bools (g : Nat) (hg : g ≤ 4096) (w : World) : (Instr.makeSlice 39 (.int .i64 (g : Int)) (.int .i64 (g : Int))).run Try.prog w = .ok (.slice (some ⟨w.heap.size, 0, none⟩) g g) (w.alloc (.cells (rowB g []) 4)) := by
  have hi : (Try.prog.info? 4).map (fun i => (i.size, i.bytes, i.zero)) = some (1, 1, some (.bool false)) := by kernel_rfl
  cases h : Try.prog.info? 4 with
  | none => rw [h] at hi; simp at hi
  | some i =>
    rw [h] at hi
    simp only [Option.map_some, Option.some.injEq, Prod.mk.injEq] at hi
    have := run_make (P := Try.prog) (w := w) 39 4 i (.bool false) Try.underlying39 h hi.2.2 .i64 .i64 (g : Int) (g : Int) (by omega) (by omega) (by rw [hi.2.1]; omega) (by omega)
    rw [this, hi.1]
    simp only [Int.toNat_natCast, Nat.mul_one]
    rw [show (Value.bool false).cells = #[.bool false] from rfl, made_rowB]
/-- what a round that leaves has seen -/
def Off (p : Int) (g : Nat) (pre : List Int) : Prop := ∃ q x, pre = q ++ [x] ∧ (x < 0 ∨ (g : Int) ≤ x ∨ x ∈ q ∨ atI p g (q.length : Int) ≠ x)
theorem off_never (p : Int) (g : Nat) (hg : pow2 (g : Int) = true) (p0 : 0 ≤ p) (pre : List Int) (hp : pre <+: seqI p g g) : ¬ Off p g pre := by
  rintro ⟨q, x, rfl, h⟩
  obtain ⟨a1, _⟩ := pow2_range _ hg
  have hl : q.length < g := by have := hp.length_le; rw [seqI_len] at this; simp at this; omega
  have hx : atI p g (q.length : Int) = x := by
    rw [← seqI_get p g g q.length (by rw [seqI_len]; exact hl)]
    have := hp.getElem (i := q.length) (by simp)
    rw [← this]; simp
  obtain ⟨r0, r1⟩ := atI_range p g (q.length : Int) a1
  rcases h with h | h | h | h
  · omega
  · omega
  · obtain ⟨k, hk, e⟩ := List.getElem_of_mem h
    have h2 := hp.getElem (i := k) (by simp; omega)
    rw [seqI_get, List.getElem_append_left hk, e, ← hx] at h2
    have := at_inj p g hg p0 _ _ hl (by omega) h2
    omega
  · exact h hx
theorem heap_if (w : World) (o : Obj) (k : Nat) : (w.alloc o).heap[k]? = if k = w.heap.size then some o else w.heap[k]? := by
  by_cases h : k = w.heap.size
  · rw [if_pos h]; subst h; exact (MapKept.heap_alloc w o).1
  · rw [if_neg h]
    rcases Nat.lt_or_ge k w.heap.size with h1 | h1
    · exact Below.heap_alloc w o k h1
    · rw [Array.getElem?_eq_none (by rw [World.size_alloc]; omega), Array.getElem?_eq_none h1]
def holdsW (w : World) (p : Int) (g : Nat) : World := ((((((((w.alloc (.cells #[.int .u64 p] 22)).alloc (.cells #[.bool false] 4)).alloc (.cells #[.int .i64 (g : Int)] 3)).alloc (.cells #[.int .u64 p] 22)).alloc (.cells #[.int .i64 (g : Int)] 3)).alloc (.cells (rowB g []) 4)).alloc (.cells #[.slice (some ⟨w.heap.size + 5, 0, none⟩) g g] 39)).alloc (.cells #[.int .i64 0] 3))
theorem holdsW_size (w : World) (p : Int) (g : Nat) : (holdsW w p g).heap.size = w.heap.size + 8 := by simp [holdsW]
theorem holdsW_below (w : World) (p : Int) (g : Nat) : Below w.heap.size w (holdsW w p g) := by unfold holdsW; go_grown
/-- what lies in the blocks of the law between two rounds, q having come -/
def HInv (s : Nat) (p : Int) (g : Nat) (q : List Int) (W : World) : Prop :=
  ((((Boxed W s 22 (.int .u64 p) ∧ Boxed W (s + 1) 4 (.bool false)) ∧ Boxed W (s + 2) 3 (.int .i64 (g : Int))) ∧ BoxA W (s + 5) 4 (rowB g q)) ∧ Boxed W (s + 6) 39 (.slice (some ⟨s + 5, 0, none⟩) g g)) ∧ Boxed W (s + 7) 3 (.int .i64 (q.length : Int))
theorem HInv.own (s : Nat) (p : Int) (g : Nat) (B : Nat) : OwnFrom B (fun q W => HInv s p g q W) :=
  OwnFrom.and (OwnFrom.and (OwnFrom.and (OwnFrom.and (OwnFrom.and (Own.from (boxed_own _ _ (fun _ => _)) _) (Own.from (boxed_own _ _ (fun _ => _)) _)) (Own.from (boxed_own _ _ (fun _ => _)) _)) (Own.from (boxA_own _ _ (fun q : List Int => rowB g q)) _)) (Own.from (boxed_own _ _ (fun _ => _)) _)) (Own.from (boxed_own _ _ (fun q : List Int => .int .i64 (q.length : Int))) _)
theorem holdsW_inv (w : World) (p : Int) (g : Nat) : HInv w.heap.size p g [] (holdsW w p g) := by
  unfold HInv
  refine ⟨⟨⟨⟨⟨?_, ?_⟩, ?_⟩, ?_⟩, ?_⟩, ?_⟩ 
  all_goals
    simp only [Boxed, BoxA, holdsW]
    simp only [heap_if, World.size_alloc, ↓reduceIte]
    repeat' (split <;> try omega)
    all_goals rfl
theorem index_any (p : Int) (g : Nat) (hg : pow2 (g : Int) = true) (p0 : 0 ≤ p) (i : Int) (i0 : 0 ≤ i) (i1 : i < g) (w : World) :
    Calls Try.prog 21 #[.int .u64 p, .int .i64 (g : Int), .int .i64 (atI p g i), .int .i64 i, .int .i64 0] w fun e w' => e = .returned (.bool true) ∧ Below w.heap.size w w' := by
  obtain ⟨k, rfl⟩ := Int.eq_ofNat_of_zero_le i0
  obtain ⟨a1, _⟩ := pow2_range _ hg
  obtain ⟨r0, r1⟩ := atI_range p g (k : Int) a1
  have hk : k < g := by omega
  refine index_true p g _ _ _ (fun w => Index_ok p g hg _ r0 r1 k hk rfl (fun j hj h => ?_) w) w
  have := at_inj p g hg p0 j k (by omega) hk h
  omega
theorem wrap_part (p m g : Int) (hg : pow2 g = true) : IntKind.u64.wrap (p + IntKind.u64.wrap (m * g)) % g = p % g := by
  rw [IntKind.wrap_u64, wrap_mod g hg, IntKind.wrap_u64, Int.add_emod, wrap_mod g hg, Int.mul_emod_left, Int.add_zero, Int.emod_emod]
theorem HInv.step {s : Nat} {p : Int} {g : Nat} {q : List Int} {W : World} (h : HInv s p g q W) {j : Nat} (hj : j < g) : HInv s p g (q ++ [(j : Int)]) ((W.setCell ⟨s + 5, j, none⟩ (.bool true)).setCell ⟨s + 7, 0, none⟩ (.int .i64 ((q.length : Int) + 1))) := by
  obtain ⟨⟨⟨⟨⟨hP, hR⟩, hGr⟩, hS⟩, hV⟩, hN⟩ := h
  refine ⟨⟨⟨⟨⟨(Boxed.other2 hP (by omega) _ _).other (by omega) _, (Boxed.other2 hR (by omega) _ _).other (by omega) _⟩, (Boxed.other2 hGr (by omega) _ _).other (by omega) _⟩, ?_⟩, (Boxed.other2 hV (by omega) _ _).other (by omega) _⟩, ?_⟩
  · have := hS.set (j := j) (by rw [rowB_size]; exact hj) (.bool true)
    rw [rowB_set g q j hj] at this
    exact this.other (by omega) _ _
  · have := (Boxed.other2 hN (show s + 7 ≠ s + 5 by omega) j (.bool true)).set (.int .i64 ((q.length : Int) + 1))
    rw [List.length_append, List.length_singleton]
    exact this
/-- the result is stored, and the block of deferred calls is closed -/
theorem finish {w W w2 : World} {R D : Nat} {t : TypeId} {v0 : Value} (v : Value) (hRD : D ≠ R) (hW : Below w.heap.size w W) (b2 : Below W.heap.size W w2) (hRs : w.heap.size ≤ R) (hR : Boxed W R t v0) (hK : W.heap[D]? = some (.deferred (some []))) (hD : w.heap.size ≤ D) :
    (w2.setCell ⟨R, 0, none⟩ v).heap[D]? = some (.deferred (some [])) ∧ ((w2.setCell ⟨R, 0, none⟩ v).putObj D (.deferred none)).cell? ⟨R, 0, none⟩ = some v ∧ Below w.heap.size w ((w2.setCell ⟨R, 0, none⟩ v).putObj D (.deferred none)) := by
  have hK2 := (Below.heap_setCell w2 ⟨R, 0, none⟩ v D hRD).trans ((b2.block D (Array.getElem?_eq_some_iff.1 hK).1).trans hK)
  have hR2 : Boxed w2 R t v0 := (b2.block R hR.lt).trans hR
  have hc := (hR2.set v).cell
  refine ⟨hK2, ?_, ?_⟩
  · rw [← hc]
    simp [World.cell?, World.putObj, hRD]
  · exact ((tr hW b2).setCell (p := ⟨R, 0, none⟩) hRs _).trans (belowK_b (w := w) (Nat.le_refl _) _ D _ _ hD hK2 rfl rfl)
attribute [local go_sem] Oper.semAt_some
set_option maxRecDepth 100000 in
set_option maxHeartbeats 2000000 in
theorem lawHolds_in (p m i : Int) (k : Nat) (hk : k ≤ 12) (p0 : 0 ≤ p) (w : World) :
    Calls Try.prog 7 #[.int .u64 p, .int .i64 (k : Int), .int .u64 m, .int .i64 i] w fun e w' => e = .returned (.bool true) ∧ Below w.heap.size w w' := by
  have hk0 : (0 : Int) ≤ (k : Int) := Int.natCast_nonneg _
  have hk1 : (k : Int) ≤ 12 := by omega
  obtain ⟨g, HP, hg, hg4⟩ : ∃ g : Nat, Hid (wrap64 (2 ^ k) = (g : Int)) ∧ pow2 (g : Int) = true ∧ g ≤ 4096 := by
    refine ⟨2 ^ k, Lib.hid ?_, (pow2_iff _).2 ⟨k, by omega, by push_cast; rfl⟩, ?_⟩
    · have : (2 : Int) ^ k = ((2 ^ k : Nat) : Int) := by push_cast; rfl
      have h2 : 2 ^ k ≤ 4096 := Nat.pow_le_pow_right (n := 2) (by decide) hk
      rw [this]
      generalize 2 ^ k = N at *
      unfold wrap64; omega
    · exact Nat.pow_le_pow_right (n := 2) (by decide) hk
  obtain ⟨a1, a2⟩ := pow2_range _ hg
  have HM := Lib.hid (make_bools g hg4)
  have HG := Lib.hid hg
  have HA := Lib.hid (All_ok p (g : Int) hg)
  clear hg
  refine (callsIn_wide (n := 6)).1 ?_
  refine callsIn_of_wp_marks Try.func7 rfl trivial ?_ rfl
  simp only [Try.ntmps7, List.size_toArray, List.length_cons, List.length_nil, Nat.reduceAdd, Nat.reduceSub, Array.replicate_succ, Array.replicate_zero, List.push_toArray, List.append_toArray, List.nil_append, List.cons_append]
  have hnil := fun (wx : World) (ts lb : Array Value) => run_eql_func_nil (P := Try.prog) wx 35 _ _ _ (.func 49) ts lb Try.underlying35
  have hmk := HM.out
  gi_wp2
  rw [HP.out]
  refine ⟨trivial, ?_⟩
  refine (callsIn_wide.2 (HA.out _)).mono ?_
  rintro e w' ⟨rfl, rfl⟩
  simp only [seqF, seqW]
  gi_wp2
  have hb0 := holdsW_below w p g
  have hs0 := holdsW_size w p g
  have cB : (holdsW w p g).cell? ⟨w.heap.size + 3, 0, none⟩ = some (.int .u64 p) := by
    have : BoxA (holdsW w p g) (w.heap.size + 3) 22 #[.int .u64 p] := by
      simp only [BoxA, holdsW]
      simp only [heap_if, World.size_alloc, ↓reduceIte]
      repeat' (split <;> try omega)
      all_goals rfl
    rw [this.cell]; rfl
  have cG : (holdsW w p g).cell? ⟨w.heap.size + 4, 0, none⟩ = some (.int .i64 (g : Int)) := by
    have : BoxA (holdsW w p g) (w.heap.size + 4) 3 #[.int .i64 (g : Int)] := by
      simp only [BoxA, holdsW]
      simp only [heap_if, World.size_alloc, ↓reduceIte]
      repeat' (split <;> try omega)
      all_goals rfl
    rw [this.cell]; rfl
  refine' wpIn_rangeFunc_ownF (encs := fun x : Int => #[.int .i64 x]) (Kp := Mid (w.heap.size + 3) (w.heap.size + 5)) (S := fun xs => xs = seqI p g g) (Sp := fun pre => pre <+: seqI p g g) (N := g) rfl (by decide) (gf := 49) (lb := #[.pointer (some ⟨w.heap.size + 1 + 1 + 1 + 1, 0, none⟩), .pointer (some ⟨w.heap.size + 1 + 1 + 1, 0, none⟩)]) rfl trivial (enters_of Try.func49 (by kernel_rfl) rfl)
    (w0 := holdsW w p g)
    (fun l J Jx W hW _ _ hY h0 => seq1_in (Mid (w.heap.size + 3) (w.heap.size + 5)) l (w.heap.size + 3) (w.heap.size + 4) p g HG.out J Jx (fun W1 W2 hh => ⟨hh.cell (by omega) (by omega), hh.cell (by omega) (by omega)⟩) hY W ((hW.cell (p := ⟨w.heap.size + 3, 0, none⟩) (by rw [hs0]; show w.heap.size + 3 < _; omega)).trans cB) ((hW.cell (p := ⟨w.heap.size + 4, 0, none⟩) (by rw [hs0]; show w.heap.size + 4 < _; omega)).trans cG) h0)
    Mid.trans (Mid.putObj (by simp)) (Below.refl _ _) (fun _ => rfl)
    (fun pre W => HInv w.heap.size p g pre W ∧ Below w.heap.size w W)
    (fun c pre _ => c = .ret ∧ Off p g pre)
    (OwnFrom.and (HInv.own _ _ _ _) (ownFrom_below (by simp) (by simp; omega)))
    (fun c => ownFrom_pure _ _)
    ⟨holdsW_inv w p g, hb0⟩
    _ ?assign ?body ?done ?stop
  case assign =>
    intro l x W K hK
    gi_wp2
    exact hK
  case body =>
    rintro l pre x W ⟨⟨⟨⟨⟨⟨hP, hR⟩, hGr⟩, hS⟩, hV⟩, hN⟩, hB⟩ hlt
    have hpl : pre.length < g := hlt
    have cP := hP.cell
    have cR := hR.cell
    have fR := hR.frozen
    have cGr := hGr.cell
    have cV := hV.cell
    have cN := hN.cell
    have fN := hN.frozen
    by_cases hx0 : x < 0
    · gi_wp2_with (refine ⟨trivial, ?_⟩)
      exact ⟨KeepsOthers.setCell _ _ _, rfl, pre, x, rfl, .inl hx0⟩
    · by_cases hx1 : (g : Int) ≤ x
      · gi_wp2_with (refine ⟨trivial, ?_⟩)
        exact ⟨KeepsOthers.setCell _ _ _, rfl, pre, x, rfl, .inr (.inl hx1)⟩
      · obtain ⟨j, rfl⟩ := Int.eq_ofNat_of_zero_le (by omega : 0 ≤ x)
        have hj : j < g := by omega
        have cS : W.cell? ⟨w.heap.size + 5, j, none⟩ = some (.bool (decide ((j : Int) ∈ pre))) := by rw [hS.cell]; exact rowB_get g pre j hj
        have fS : W.frozen? ⟨w.heap.size + 5, j, none⟩ = false := hS.frozen
        by_cases hm : (j : Int) ∈ pre
        · rw [decide_eq_true hm] at cS
          gi_wp2_with (refine ⟨trivial, ?_⟩)
          exact ⟨KeepsOthers.setCell _ _ _, rfl, pre, _, rfl, .inr (.inr (.inl hm))⟩
        · rw [decide_eq_false hm] at cS
          have hAt := Lib.hid (at_any p (g : Int) (pre.length : Int) (atI p g (pre.length : Int)) (j : Int) (fun w => At_ok p g _ HG.out (by omega) (by omega) w))
          by_cases hv : atI p g (pre.length : Int) = (j : Int)
          · rw [decide_eq_true hv] at hAt
            gi_wp2_with (refine ⟨trivial, ?_⟩; gi_at_call 16; refine (callsIn_wide.2 (hAt.out _)).mono ?_; rintro e w2 ⟨rfl, rfl⟩)
            exact ⟨(KeepsOthers.setCell _ _ _).trans (KeepsOthers.setCell _ _ _), Mid.setCell2 (Mid.setCell2 (Mid.refl _) (by omega) _) (by omega) _, HInv.step ⟨⟨⟨⟨⟨hP, hR⟩, hGr⟩, hS⟩, hV⟩, hN⟩ hj, (hB.setCell (p := ⟨w.heap.size + 5, j, none⟩) (by show w.heap.size ≤ w.heap.size + 5; omega) _).setCell (p := ⟨w.heap.size + 7, 0, none⟩) (by show w.heap.size ≤ w.heap.size + 7; omega) _⟩
          · rw [decide_eq_false hv] at hAt
            gi_wp2_with (refine ⟨trivial, ?_⟩; gi_at_call 16; refine (callsIn_wide.2 (hAt.out _)).mono ?_; rintro e w2 ⟨rfl, rfl⟩)
            exact ⟨KeepsOthers.setCell _ _ _, rfl, pre, _, rfl, .inr (.inr (.inr hv))⟩
  case done =>
    rintro D ys W hD rfl ⟨⟨⟨⟨⟨⟨hP, hR⟩, hGr⟩, hS⟩, hV⟩, hN⟩, hB⟩ hK
    rw [seqI_len] at hN
    have hD8 : w.heap.size + 8 ≤ D := by simp only [World.size_alloc] at hD; omega
    have cP := hP.cell
    have cR := hR.cell
    have fR := hR.frozen
    have cGr := hGr.cell
    have cV := hV.cell
    have cN := hN.cell
    have fN := hN.frozen
    have hWs : w.heap.size + 7 < W.heap.size := hN.lt
    by_cases hi : i < 0 ∨ (g : Int) ≤ i
    · by_cases hi0 : i < 0
      all_goals
        gi_wp2_with (refine ⟨trivial, ?_⟩; gi_at_call 17; refine (callsIn_wide.2 (known_any _)).mono ?_; rintro e w2 ⟨rfl, b2⟩; have hf9 := (b2.frozen (p := ⟨w.heap.size + 1, 0, none⟩) (by show w.heap.size + 1 < _; omega)).trans fR; have hc9 := (b2.cell (p := ⟨w.heap.size + 1, 0, none⟩) (by show w.heap.size + 1 < _; omega)).trans cR)
        obtain ⟨k1, k2, k3⟩ := finish (.bool true) (by omega : D ≠ w.heap.size + 1) hB b2 (by omega) hR hK (by omega)
        refine ⟨by simp, .inl ⟨_, _, rfl, run_takeDeferred k1, ?_⟩⟩
        exact ⟨.bool true, by simp [results, Try.results7, go_sem, k2], rfl, k3⟩
    · have hi0 : 0 ≤ i := by omega
      have hi1 : i < (g : Int) := by omega
      clear hi
      have H1 := Lib.hid (At_ok p (g : Int) i HG.out hi0 hi1)
      have H2 := Lib.hid (index_any p g HG.out p0 i hi0 hi1)
      have H3 : Hid (∀ w, Calls Try.prog 23 #[.int .u64 (IntKind.u64.wrap (p + IntKind.u64.wrap (m * (g : Int)))), .int .i64 (g : Int), .int .i64 i] w fun e w' => e = .returned (.tuple #[.int .i64 (atI p g i), .int .i64 0]) ∧ w = w') := by
        refine Lib.hid (fun w => ?_)
        have := At_ok (IntKind.u64.wrap (p + IntKind.u64.wrap (m * (g : Int)))) (g : Int) i HG.out hi0 hi1 w
        rwa [at_mod _ p _ _ (wrap_part p m g HG.out)] at this
      gi_wp2_with first
        | (refine ⟨trivial, ?_⟩; gi_at_call 23; refine (callsIn_wide.2 (H1.out _)).mono ?_; clear H1; rintro e w2 ⟨rfl, rfl⟩)
        | (refine ⟨trivial, ?_⟩; gi_at_call 23; refine (callsIn_wide.2 (H3.out _)).mono ?_; clear H3; rintro e w2 ⟨rfl, rfl⟩)
        | (refine ⟨trivial, ?_⟩; gi_at_call 21; refine (callsIn_wide.2 (H2.out _)).mono ?_; rintro e w2 ⟨rfl, b2⟩)
        | (refine ⟨trivial, ?_⟩; gi_at_call 17; refine (callsIn_wide.2 (known_any _)).mono ?_; rintro e w3 ⟨rfl, b3⟩; have b4 := tr b2 b3; have hf9 := (b4.frozen (p := ⟨w.heap.size + 1, 0, none⟩) (by show w.heap.size + 1 < _; omega)).trans fR; have hc9 := (b4.cell (p := ⟨w.heap.size + 1, 0, none⟩) (by show w.heap.size + 1 < _; omega)).trans cR)
      obtain ⟨k1, k2, k3⟩ := finish (.bool true) (by omega : D ≠ w.heap.size + 1) hB b4 (by omega) hR hK (by omega)
      refine ⟨by simp, .inl ⟨_, _, rfl, run_takeDeferred k1, ?_⟩⟩
      exact ⟨.bool true, by simp [results, Try.results7, go_sem, k2], rfl, k3⟩
  case stop =>
    rintro D c pre W hD hp ⟨_, ho⟩ hK
    exact absurd ho (off_never p g HG.out p0 pre hp)
theorem lawHolds_off (p x m i : Int) (hx : ¬ (0 ≤ x ∧ x ≤ 12)) (w : World) :
    Calls Try.prog 7 #[.int .u64 p, .int .i64 x, .int .u64 m, .int .i64 i] w fun e w' => e = .returned (.bool true) ∧ Below w.heap.size w w' := by
  by_cases h0 : x < 0
  all_goals
    try (have h1 : 12 < x := by omega)
    go_enter Try.func7, Try.ntmps7
    go_wp2_with fail
    refine (known_any _).mono ?_
    rintro e w3 ⟨rfl, b3⟩
    have hc := cell_of b3 (p := w.heap.size + 1) (o := 0) (v := .bool false) (by simp) (by simp [go_sem])
    have hf := free_of b3 (p := w.heap.size + 1) (o := 0) (v := false) (by simp) (by simp [go_sem])
    go_wp2_with fail
    have hc2 : (w3.setCell ⟨w.heap.size + 1, 0, none⟩ (.bool true)).cell? ⟨w.heap.size + 1, 0, none⟩ = some (.bool true) := World.cell?_setCell_same' _ _ _ (by rw [hc]; rfl)
    refine bodyPost_ret (v := .bool true) (by simp [results, Try.results7, go_sem, hc2]) rfl ?_
    exact ⟨rfl, ((by go_grown : Below w.heap.size w ((w.alloc (.cells #[.int .u64 p] 22)).alloc (.cells #[.bool false] 4))).trans (b3.mono (by simp; omega))).setCell (p := ⟨w.heap.size + 1, 0, none⟩) (by show w.heap.size ≤ w.heap.size + 1; omega) _⟩
end Go.Proofs.Ytdilhldaipjhoaa.Probe
