/-
  Walks over package probe (layer 6): Index, by program and by reference.
-/
import Derived.Test.YtdilhldaipjhoaaProbeN
import Derived.Test.YtdilhldaipjhoaaProbeT
import Derived.WalkMore
namespace Go.Proofs.Ytdilhldaipjhoaa.Probe
open Go.RowKit Kit GrowM Grow Go.Shelf

/-- a scope is not felt where no fence is drawn -/
theorem scope_wide {n : Nat} {P : Program} {c : Code} {Q : Exit → Act → World → Prop} {a : Act} {w : World} (h : c.wpIn Fence.wide n P (Exit.noGoto Q) a w) : (Code.scope c).wpIn Fence.wide n P Q a w :=
  wpIn_wide.2 (wp_scope_straight (wpIn_wide.1 h))
theorem seqI_ne (p : Int) (g : Nat) (h : 1 ≤ (g : Int)) : seqI p g g ≠ [] := by
  intro h1
  have := congrArg List.length h1
  rw [seqI_len] at this
  simp at this
  omega
set_option maxHeartbeats 1000000 in
theorem rIndex_ok (p : Int) (g : Nat) (hg : pow2 (g : Int) = true) (p0 : 0 ≤ p) (p1 : p ≤ 18446744073709551615) (t : Int) (t0 : 0 ≤ t) (t1 : t < g) (i : Nat) (hi : i < g) (ht : atI p g i = t) (hno : ∀ j : Nat, j < i → atI p g j ≠ t) (w : World) :
    Calls Try.prog 20 #[.int .u64 p, .int .i64 (g : Int), .int .i64 t] w fun e w' => e = .returned (.tuple #[.int .i64 (i : Int), .int .i64 0]) ∧ Below w.heap.size w w' := by
  obtain ⟨a1, a2⟩ := pow2_range _ hg
  have HR := Lib.hid (rAll_ok p g hg p0 p1)
  have HN := Lib.hid hno
  have HT := Lib.hid ht
  have HG := Lib.hid hg
  have HE := Lib.hid (seqI_ne p g a1)
  clear hg hno ht
  go_enter Try.func20, Try.ntmps20
  go_wp2_with fail
  refine (rvalid_any (g : Int) _).mono ?_
  rintro e w1 ⟨rfl, rfl⟩
  rw [HG.out]
  go_wp2_with fail
  refine (HR.out _).mono ?_
  rintro e w1 ⟨v, rfl, hown, b1⟩
  have hoc := own_cases (l := seqI p g g) (f := Value.int .i64) (by rw [seqI_len]; exact hown)
  rcases hoc with ⟨_, hn⟩ | ⟨g', cap', rfl, hg1, hg2, _, _, hcs⟩
  · exact absurd hn HE.out
  have HC := Lib.hid hcs
  clear hown hcs
  rw [seqI_len]
  go_wp2_with fail
  go_loopw [9] (fun a wr => ∃ k : Nat, k ≤ i ∧ a = .int .i64 (k : Int) ∧ Below w1.heap.size w1 wr) (fun a _ => g - (intOf a).toNat)
  case atStart => exact ⟨0, by omega, rfl, Below.refl _ _⟩
  case round =>
    obtain ⟨k, hk, rfl, hbel⟩ := hrel
    have hc := (hbel.cell (p := ⟨g', k, none⟩) hg2).trans (HC.out k (by rw [seqI_len]; omega))
    rw [seqI_get] at hc
    by_cases hlt : k < i
    · have hne := HN.out k hlt
      generalize atI p (g : Int) (k : Int) = x at *
      go_wp2
      go_roundw
      case rel => exact ⟨k + 1, by omega, by go_num, hbel⟩
      case measure => simp [intOf]; omega
    · obtain rfl : k = i := by omega
      rw [HT.out] at hc
      go_wp2
      go_ret2
      exact ⟨rfl, b1.trans (hbel.mono b1.size)⟩
theorem Index_bad (p g t : Int) (hg : pow2 g = false) (w : World) :
    Calls Try.prog 37 #[.int .u64 p, .int .i64 g, .int .i64 t] w fun e w' => e = .returned (.tuple #[.int .i64 0, .int .i64 2]) ∧ Below w.heap.size w w' := by
  go_enter Try.func37, Try.ntmps37
  go_wp2
  go_step3
  go_wp2_with fail
  refine (valid_any g _).mono ?_
  rintro e w1 ⟨rfl, rfl⟩
  rw [hg]
  go_wp2_with fail
  rw [Exit.noGoto_ret]
  go_ret2
  exact ⟨rfl, by go_grown⟩
theorem Index_out (p g t : Int) (hg : pow2 g = true) (ht : ¬ (0 ≤ t ∧ t < g)) (w : World) :
    Calls Try.prog 37 #[.int .u64 p, .int .i64 g, .int .i64 t] w fun e w' => e = .returned (.tuple #[.int .i64 0, .int .i64 3]) ∧ Below w.heap.size w w' := by
  have HI := Lib.hid (decide_eq_false ht)
  clear ht
  go_enter Try.func37, Try.ntmps37
  go_wp2
  go_step3
  go_wp2_with fail
  refine (valid_any g _).mono ?_
  rintro e w1 ⟨rfl, rfl⟩
  rw [hg]
  go_wp2_with fail
  refine (inside_any t g _).mono ?_
  rintro e w1 ⟨rfl, rfl⟩
  rw [HI.out]
  go_wp2_with fail
  rw [Exit.noGoto_ret]
  go_ret2
  exact ⟨rfl, by go_grown⟩
theorem rIndex_bad (p g t : Int) (hg : pow2 g = false) (w : World) :
    Calls Try.prog 20 #[.int .u64 p, .int .i64 g, .int .i64 t] w fun e w' => e = .returned (.tuple #[.int .i64 0, .int .i64 2]) ∧ Below w.heap.size w w' := by
  go_enter Try.func20, Try.ntmps20
  go_wp2_with fail
  refine (rvalid_any g _).mono ?_
  rintro e w1 ⟨rfl, rfl⟩
  rw [hg]
  go_wp2_with fail
  go_ret2
  exact ⟨rfl, Below.refl _ _⟩
theorem rIndex_out (p g t : Int) (hg : pow2 g = true) (ht : ¬ (0 ≤ t ∧ t < g)) (w : World) :
    Calls Try.prog 20 #[.int .u64 p, .int .i64 g, .int .i64 t] w fun e w' => e = .returned (.tuple #[.int .i64 0, .int .i64 3]) ∧ Below w.heap.size w w' := by
  by_cases h0 : t < 0
  · go_enter Try.func20, Try.ntmps20
    go_wp2_with fail
    refine (rvalid_any g _).mono ?_
    rintro e w1 ⟨rfl, rfl⟩
    rw [hg]
    go_wp2_with fail
    go_ret2
    exact ⟨rfl, Below.refl _ _⟩
  · have h1 : g ≤ t := by omega
    go_enter Try.func20, Try.ntmps20
    go_wp2_with fail
    refine (rvalid_any g _).mono ?_
    rintro e w1 ⟨rfl, rfl⟩
    rw [hg]
    go_wp2_with fail
    go_ret2
    exact ⟨rfl, Below.refl _ _⟩
/-- the blocks from lo to hi are kept -/
def Mid (lo hi : Nat) (W W' : World) : Prop := ∀ b, lo ≤ b → b < hi → W'.heap[b]? = W.heap[b]?
theorem Mid.refl {lo hi : Nat} (W : World) : Mid lo hi W W := fun _ _ _ => rfl
theorem Mid.trans {lo hi : Nat} {A B C : World} (h : Mid lo hi A B) (k : Mid lo hi B C) : Mid lo hi A C := fun b h1 h2 => (k b h1 h2).trans (h b h1 h2)
theorem Mid.putObj {lo hi : Nat} {w : World} (hn : hi ≤ w.heap.size) (W : World) (l : Nat) (o o' : Obj) (hl : w.heap.size ≤ l) (_ : W.heap[l]? = some o) (_ : o.isCells = false) (_ : o.isWalk = false) : Mid lo hi W (W.putObj l o') :=
  fun b _ h2 => by simp [World.putObj, Array.getElem?_setIfInBounds]; intro h; omega
theorem Mid.setCell {lo hi b : Nat} {A B : World} (h : Mid lo hi A B) (hb : b < lo ∨ hi ≤ b) (v : Value) : Mid lo hi A (B.setCell ⟨b, 0, none⟩ v) :=
  fun c h1 h2 => (Below.heap_setCell B ⟨b, 0, none⟩ v c (by show c ≠ b; omega)).trans (h c h1 h2)
theorem Mid.cell {lo hi b o : Nat} {A B : World} (h : Mid lo hi A B) (h1 : lo ≤ b) (h2 : b < hi) : B.cell? ⟨b, o, none⟩ = A.cell? ⟨b, o, none⟩ := by
  simp only [World.cell?, h b h1 h2]
def idxW (w : World) (p g t : Int) : World := ((((w.alloc (.cells #[.int .i64 t] 3)).alloc (.cells #[.int .i64 0] 3)).alloc (.cells #[.int .u64 p] 22)).alloc (.cells #[.int .i64 g] 3))
theorem idxW_size (w : World) (p g t : Int) : (idxW w p g t).heap.size = w.heap.size + 4 := by simp [idxW]
theorem idxW_below (w : World) (p g t : Int) : Below w.heap.size w (idxW w p g t) := by unfold idxW; go_grown
theorem mem_seqI (p : Int) (g i : Nat) (hi : i < g) : atI p g i ∈ seqI p g g := by
  have := seqI_get p g g i (by rw [seqI_len]; exact hi)
  rw [← this]; exact List.getElem_mem _
/-- where a prefix of the sequence ends in t for the first time -/
theorem first_at (p : Int) (g i : Nat) (t : Int) (ht : atI p g i = t) (hno : ∀ j : Nat, j < i → atI p g j ≠ t) (q : List Int) (hp : q ++ [t] <+: seqI p g g) (hq : t ∉ q) : q.length = i := by
  have hl : q.length < g := by have := hp.length_le; rw [seqI_len] at this; simp at this; omega
  have hm : atI p g (q.length : Int) = t := by
    rw [← seqI_get p g g q.length (by rw [seqI_len]; exact hl)]
    have := hp.getElem (i := q.length) (by simp)
    rw [← this]; simp
  rcases Nat.lt_trichotomy q.length i with h | h | h
  · exact absurd hm (hno _ h)
  · exact h
  · have h2 := hp.getElem (i := i) (by simp; omega)
    rw [seqI_get, ht, List.getElem_append_left h] at h2
    exact absurd (h2 ▸ List.getElem_mem h) hq
attribute [local go_sem] Oper.semAt_some
set_option maxRecDepth 100000 in
set_option maxHeartbeats 2000000 in
theorem Index_ok (p : Int) (g : Nat) (hg : pow2 (g : Int) = true) (t : Int) (t0 : 0 ≤ t) (t1 : t < g) (i : Nat) (hi : i < g) (ht : atI p g i = t) (hno : ∀ j : Nat, j < i → atI p g j ≠ t) (w : World) :
    Calls Try.prog 37 #[.int .u64 p, .int .i64 (g : Int), .int .i64 t] w fun e w' => e = .returned (.tuple #[.int .i64 (i : Int), .int .i64 0]) ∧ Below w.heap.size w w' := by
  obtain ⟨a1, a2⟩ := pow2_range _ hg
  have HI := Lib.hid (decide_eq_true (And.intro t0 t1))
  have HN := Lib.hid hno
  have HT := Lib.hid ht
  have HG := Lib.hid hg
  clear hg hno ht
  refine (callsIn_wide (n := 6)).1 ?_
  refine callsIn_of_wp_marks Try.func37 rfl trivial ?_ rfl
  simp only [Try.ntmps37, List.size_toArray, List.length_cons, List.length_nil, Nat.reduceAdd, Nat.reduceSub, Array.replicate_succ, Array.replicate_zero, List.push_toArray, List.append_toArray, List.nil_append, List.cons_append]
  gi_wp2
  refine scope_wide ?_
  gi_wp2_with first | (refine ⟨trivial, ?_⟩; gi_at_call 14; refine (callsIn_wide.2 (valid_any (g : Int) _)).mono ?_; rintro e w' ⟨rfl, rfl⟩; rw [HG.out]) | (refine ⟨trivial, ?_⟩; gi_at_call 40; refine (callsIn_wide.2 (inside_any t (g : Int) _)).mono ?_; rintro e w' ⟨rfl, rfl⟩; rw [HI.out]) | (refine ⟨trivial, ?_⟩; gi_at_call 39; refine (callsIn_wide.2 (sequence_any p (g : Int) _)).mono ?_; rintro e w' ⟨rfl, rfl⟩; simp only [seqF, seqW])
  refine wpIn_label ?_
  gi_wp2_with (refine ⟨trivial, ?_⟩; gi_at_call 39; refine (callsIn_wide.2 (sequence_any p (g : Int) _)).mono ?_; rintro e w' ⟨rfl, rfl⟩; simp only [seqF, seqW])
  simp only [World.size_alloc]
  have bT : Boxed (idxW w p g t) w.heap.size 3 (.int .i64 t) := (((Boxed.new w 3 (.int .i64 t)).alloc _).alloc _).alloc _
  have bC : Boxed (idxW w p g t) (w.heap.size + 1) 3 (.int .i64 0) := by
    have := ((Boxed.new (w.alloc (.cells #[.int .i64 t] 3)) 3 (.int .i64 0)).alloc (.cells #[.int .u64 p] 22)).alloc (.cells #[.int .i64 (g : Int)] 3)
    rw [World.size_alloc] at this
    exact this
  have cB : (idxW w p g t).cell? ⟨w.heap.size + 2, 0, none⟩ = some (.int .u64 p) := by simp [idxW, go_sem]
  have cG : (idxW w p g t).cell? ⟨w.heap.size + 3, 0, none⟩ = some (.int .i64 (g : Int)) := by simp [idxW, go_sem]
  refine wpIn_rangeFunc_ownF (encs := fun x : Int => #[.int .i64 x]) (Kp := Mid (w.heap.size + 2) (w.heap.size + 4)) (S := fun xs => xs = seqI p g g) (Sp := fun pre => pre <+: seqI p g g) (N := g) rfl (by decide) (gf := 49) (lb := #[.pointer (some ⟨w.heap.size + 1 + 1 + 1, 0, none⟩), .pointer (some ⟨w.heap.size + 1 + 1, 0, none⟩)]) rfl trivial (enters_of Try.func49 (by kernel_rfl) rfl)
    (w0 := idxW w p g t)
    (fun l J Jx W hW _ _ hY h0 => seq1_in (Mid (w.heap.size + 2) (w.heap.size + 4)) l (w.heap.size + 2) (w.heap.size + 3) p g HG.out J Jx (fun W1 W2 hh => ⟨hh.cell (by omega) (by omega), hh.cell (by omega) (by omega)⟩) hY W ((hW.cell (p := ⟨w.heap.size + 2, 0, none⟩) (by rw [idxW_size]; show w.heap.size + 2 < _; omega)).trans cB) ((hW.cell (p := ⟨w.heap.size + 3, 0, none⟩) (by rw [idxW_size]; show w.heap.size + 3 < _; omega)).trans cG) h0)
    Mid.trans (Mid.putObj (by simp)) (Below.refl _ _) (fun _ => rfl)
    (fun pre W => ((Boxed W w.heap.size 3 (.int .i64 t) ∧ Boxed W (w.heap.size + 1) 3 (.int .i64 (pre.length : Int))) ∧ Below w.heap.size w W) ∧ t ∉ pre)
    (fun c pre W => (Boxed W (w.heap.size + 1) 3 (.int .i64 ((pre.length - 1 : Nat) : Int)) ∧ Below w.heap.size w W) ∧ c = .exit 0 ∧ ∃ q, pre = q ++ [t] ∧ t ∉ q)
    (OwnFrom.and (OwnFrom.and (OwnFrom.and (Own.from (boxed_own _ _ (fun _ => _)) _) (Own.from (boxed_own _ _ (fun pre : List Int => .int .i64 (pre.length : Int))) _)) (ownFrom_below (by simp) (by simp; omega))) (ownFrom_pure _ _))
    (fun c => OwnFrom.and (OwnFrom.and (Own.from (boxed_own _ _ (fun pre : List Int => .int .i64 ((pre.length - 1 : Nat) : Int))) _) (ownFrom_below (by simp) (by simp; omega))) (ownFrom_pure _ _))
    ⟨⟨⟨bT, bC⟩, idxW_below w p g t⟩, by simp⟩
    (fun x => { tmps := #[.int .u64 p, .int .i64 (g : Int), .int .i64 t, undef, undef, .pointer (some ⟨w.heap.size, 0, none⟩), .int .i64 0, .int .i64 0, .pointer (some ⟨w.heap.size + 1, 0, none⟩), .int .i64 x, .int .i64 (g : Int), .bool true, .bool false, .int .i64 t, .int .i64 (g : Int), .bool true, .bool false, .int .u64 p, .int .i64 (g : Int),
      .func (.func 49) #[] #[.pointer (some ⟨w.heap.size + 1 + 1 + 1, 0, none⟩), .pointer (some ⟨w.heap.size + 1 + 1, 0, none⟩)], .int .i64 x, undef, undef, undef, undef, undef, undef, undef], defers := [] }) ?assign ?body ?done ?stop
  case assign =>
    intro l x W K hK
    gi_wp2
    exact hK
  case body =>
    rintro l pre x W ⟨⟨⟨hT, hC⟩, hB⟩, hno⟩ hlt
    have cT := hT.cell
    have cC := hC.cell
    have fC := hC.frozen
    have hpl : pre.length < g := hlt
    by_cases hx : x = t
    · subst hx
      gi_wp2
      exact ⟨KeepsOthers.refl _, ⟨by simpa using hC, hB⟩, rfl, pre, rfl, hno⟩
    · gi_wp2
      refine ⟨KeepsOthers.setCell _ _ _, Mid.setCell (Mid.refl _) (by omega) _, ⟨⟨hT.other (by omega) _, ?_⟩, hB.setCell (p := ⟨w.heap.size + 1, 0, none⟩) (by show w.heap.size ≤ w.heap.size + 1; omega) _⟩, by simp; exact ⟨hno, fun h => hx h.symm⟩⟩
      rw [List.length_append, List.length_singleton]
      have := hC.set (.int .i64 ((pre.length + 1 : Nat) : Int))
      exact this
  case done =>
    rintro D ys W hD rfl ⟨_, hn⟩ hK
    exact absurd (HT.out ▸ mem_seqI p g i hi) hn
  case stop =>
    rintro D c pre W hD hp ⟨⟨hC, hB⟩, rfl, q, rfl, hq⟩ hK
    have hlen := first_at p g i t HT.out HN.out q hp hq
    rw [List.length_append, List.length_singleton, Nat.add_sub_cancel, hlen] at hC
    have cC := hC.cell
    clear hp
    gi_wp2
    refine ⟨by simp, .inl ⟨_, _, rfl, run_takeDeferred hK, ?_⟩⟩
    have hD2 : w.heap.size ≤ D := by simp at hD; omega
    refine ⟨_, by simp [results, Try.results37, go_sem], rfl, hB.trans (belowK_b (w := w) (Nat.le_refl _) _ D _ _ hD2 hK rfl rfl)⟩
end Go.Proofs.Ytdilhldaipjhoaa.Probe
