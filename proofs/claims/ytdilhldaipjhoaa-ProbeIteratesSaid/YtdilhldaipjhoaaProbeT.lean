/-
  Walks over the laws' helpers of layer 6 (probe): all.
-/
import Derived.Test.YtdilhldaipjhoaaProbeU
import Derived.RangeFuncFrom
import Derived.Maps.AppendAt
import Derived.Shelf.Abstract
namespace Go.Proofs.Ytdilhldaipjhoaa.Probe
open Go.RowKit Kit GrowM Grow Go.Shelf

/-- the world in which the loop over the iterator begins -/
def allW (w : World) (p g : Int) (b n cap : Nat) : World := (((((w.alloc (.cells #[.slice (some ⟨b, 0, none⟩) n cap] 31)).alloc (.cells #[.bool false] 4)).alloc (.cells #[.int .u64 p] 22)).alloc (.cells #[.int .i64 g] 3)).alloc (.cells #[.slice none 0 0] 31))
theorem allW_size (w : World) (p g : Int) (b n cap : Nat) : (allW w p g b n cap).heap.size = w.heap.size + 5 := by simp [allW]
theorem allW_below (w : World) (p g : Int) (b n cap : Nat) : Below w.heap.size w (allW w p g b n cap) := by unfold allW; go_grown
attribute [local go_sem] Oper.semAt_some
set_option maxRecDepth 100000 in
set_option maxHeartbeats 2000000 in
theorem lawall_ok (p : Int) (g : Nat) (hgp : pow2 (g : Int) = true) (b cap : Nat) (w : World) (hb : b < w.heap.size) (hc : ∀ j (hj : j < (seqI p g g).length), w.cell? ⟨b, j, none⟩ = some (.int .i64 (seqI p g g)[j])) :
    Calls Try.prog 18 #[.int .u64 p, .int .i64 (g : Int), .slice (some ⟨b, 0, none⟩) g cap, .int .i64 0] w fun e w' => e = .returned (.bool true) ∧ Below w.heap.size w w' := by
  obtain ⟨a1, a2⟩ := pow2_range _ hgp
  have HC := Lib.hid hc
  have HA := Lib.hid (All_ok p (g : Int) hgp)
  have HG := Lib.hid hgp
  clear hc hgp
  obtain ⟨i0, hi, hz0, hz1, hz2⟩ := info_parts info_int
  refine (callsIn_wide (n := 6)).1 ?_
  refine callsIn_of_wp_marks Try.func18 rfl trivial ?_ rfl
  simp only [Try.ntmps18, List.size_toArray, List.length_cons, List.length_nil, Nat.reduceAdd, Nat.reduceSub, Array.replicate_succ, Array.replicate_zero, List.push_toArray, List.append_toArray, List.nil_append, List.cons_append]
  have hnil := fun (wx : World) (ts lb : Array Value) => run_eql_func_nil (P := Try.prog) wx 35 _ _ _ (.func 49) ts lb Try.underlying35
  gi_wp2_with (refine ⟨trivial, ?_⟩; gi_at_call 22; refine (callsIn_wide.2 (HA.out _)).mono ?_; rintro e w' ⟨rfl, rfl⟩; simp only [seqF, seqW])
  have e4 : w.heap.size + 4 < (allW w p g b g cap).heap.size := by rw [allW_size]; omega
  have bO : Boxed (allW w p g b g cap) (w.heap.size + 4) 31 (.slice none 0 0) := by
    have := Boxed.new ((((w.alloc (.cells #[.slice (some ⟨b, 0, none⟩) g cap] 31)).alloc (.cells #[.bool false] 4)).alloc (.cells #[.int .u64 p] 22)).alloc (.cells #[.int .i64 (g : Int)] 3)) 31 (.slice none 0 0)
    simpa [allW] using this
  have cB : (allW w p g b g cap).cell? ⟨w.heap.size + 2, 0, none⟩ = some (.int .u64 p) := by simp [allW, go_sem]
  have cG : (allW w p g b g cap).cell? ⟨w.heap.size + 3, 0, none⟩ = some (.int .i64 (g : Int)) := by simp [allW, go_sem]
  have cW : (allW w p g b g cap).cell? ⟨w.heap.size, 0, none⟩ = some (.slice (some ⟨b, 0, none⟩) g cap) := by simp [allW, go_sem]
  refine wpIn_rangeFunc_ownF (encs := fun x : Int => #[.int .i64 x]) (Kp := Below (w.heap.size + 4)) (S := fun xs => xs = seqI p g g) (Sp := fun pre => pre <+: seqI p g g) (N := g) rfl (by decide) (gf := 49) (lb := #[.pointer (some ⟨w.heap.size + 1 + 1 + 1, 0, none⟩), .pointer (some ⟨w.heap.size + 1 + 1, 0, none⟩)]) rfl trivial (enters_of Try.func49 (by kernel_rfl) rfl)
    (w0 := allW w p g b g cap)
    (fun l J Jx W hW _ _ hY h0 => seq1_in (Below (w.heap.size + 4)) l (w.heap.size + 2) (w.heap.size + 3) p g HG.out J Jx (fun W1 W2 hh => ⟨hh.cell (p := ⟨w.heap.size + 2, 0, none⟩) (by simp), hh.cell (p := ⟨w.heap.size + 3, 0, none⟩) (by simp)⟩) hY W ((hW.cell (p := ⟨w.heap.size + 2, 0, none⟩) (by rw [allW_size]; show w.heap.size + 2 < _; omega)).trans cB) ((hW.cell (p := ⟨w.heap.size + 3, 0, none⟩) (by rw [allW_size]; show w.heap.size + 3 < _; omega)).trans cG) h0)
    belowK_t (belowK_b (by simp)) (Below.refl _ _) (fun _ => rfl)
    (fun pre W => (∃ v, Boxed W (w.heap.size + 4) 31 v ∧ W.ownsRow (w.heap.size + 4) 3 1 v pre.length (pre.map (Value.int .i64)) ∧ True) ∧ Below (w.heap.size + 4) (allW w p g b g cap) W)
    (fun _ _ _ => False)
    (OwnFrom.and (Own.from (holdsRow_own (w.heap.size + 4) (w.heap.size + 4) 31 3 1 (fun pre : List Int => pre.length) (fun pre : List Int => pre.map (Value.int .i64)) (fun _ _ => True)) _) (ownFrom_below (by first | (rw [allW_size]; omega) | simp | omega) (by first | (rw [allW_size]; omega) | simp | omega)))
    (fun _ _ _ _ _ hs _ _ => hs)
    ⟨⟨_, bO, World.ownsRow_nil _ _ _ _, trivial⟩, Below.refl _ _⟩
    (fun x => { tmps := #[.int .u64 p, .int .i64 (g : Int), .slice (some ⟨b, 0, none⟩) g cap, .int .i64 0, undef, undef, .pointer (some ⟨w.heap.size, 0, none⟩), undef, .pointer (some ⟨w.heap.size + 1, 0, none⟩),
      .func (.func 49) #[] #[.pointer (some ⟨w.heap.size + 1 + 1 + 1, 0, none⟩), .pointer (some ⟨w.heap.size + 1 + 1, 0, none⟩)], .int .i64 0, .pointer (some ⟨w.heap.size + 1 + 1 + 1 + 1, 0, none⟩), .int .i64 x,
      .tuple #[.func (.func 49) #[] #[.pointer (some ⟨((w.alloc (.cells #[.slice (some ⟨b, 0, none⟩) g cap] 31)).alloc (.cells #[.bool false] 4)).heap.size + 1, 0, none⟩), .pointer (some ⟨((w.alloc (.cells #[.slice (some ⟨b, 0, none⟩) g cap] 31)).alloc (.cells #[.bool false] 4)).heap.size, 0, none⟩)], .int .i64 0], .int .u64 p, .int .i64 (g : Int), .tuple #[.func (.func 49) #[] #[.pointer (some ⟨((w.alloc (.cells #[.slice (some ⟨b, 0, none⟩) g cap] 31)).alloc (.cells #[.bool false] 4)).heap.size + 1, 0, none⟩), .pointer (some ⟨((w.alloc (.cells #[.slice (some ⟨b, 0, none⟩) g cap] 31)).alloc (.cells #[.bool false] 4)).heap.size, 0, none⟩)], .int .i64 0], .func (.func 49) #[] #[.pointer (some ⟨w.heap.size + 1 + 1 + 1, 0, none⟩), .pointer (some ⟨w.heap.size + 1 + 1, 0, none⟩)], .int .i64 0, .func (.func 49) #[] #[.pointer (some ⟨w.heap.size + 1 + 1 + 1, 0, none⟩), .pointer (some ⟨w.heap.size + 1 + 1, 0, none⟩)], .bool false, .bool false, .int .i64 0, .int .i64 0, .bool false, .bool false, .func (.func 49) #[] #[.pointer (some ⟨w.heap.size + 1 + 1 + 1, 0, none⟩), .pointer (some ⟨w.heap.size + 1 + 1, 0, none⟩)], .int .i64 x,
      undef, undef, undef, undef, undef, undef, undef, undef, undef, undef, undef, undef], defers := [] }) ?assign ?body ?done ?stop
  case assign =>
    intro l x W K hK
    gi_wp2
    simp only [World.size_alloc] at hK
    exact hK
  case body =>
    rintro l pre x W ⟨⟨v, hv, hrow, _⟩, hB⟩ hlt
    have hcc := hv.cell
    have hcw := (hB.cell (p := ⟨w.heap.size, 0, none⟩) (by show w.heap.size < _; omega)).trans cW
    have hpl : pre.length < g := hlt
    obtain ⟨va, vc, rfl⟩ : ∃ a c, v = .slice a pre.length c := by
      rcases own_cases hrow with ⟨rfl, rfl⟩ | ⟨g', cap', rfl, _⟩
      · exact ⟨none, 0, rfl⟩
      · exact ⟨_, _, rfl⟩
    gi_wp2_with (gi_at_builtin; refine wpListIn_append_own _ rfl _ _ 31 rfl (w.heap.size + 4) 3 i0 (.int .i64 0) 1 8 Try.underlying31 hi hz0 hz1 hz2 rfl (by decide) _ _ _ rfl (hrow.alloc _) ⟨W.heap.size, 0, none⟩ 1 1 [.int .i64 x] rfl rfl (cell_one_new _ _ _) (by simp [Value.oneCell']) (by unfold maxLen; omega) (by omega) (by have := hB.size; rw [allW_size] at this; simp; omega) ?_; intro v' w1 hown' hgrow _; obtain ⟨g', cap', rfl⟩ := ownsRow_succ hown'; obtain ⟨hv1, hv2, hr2, hk2, hb2⟩ := hv.appended (by decide) hrow (by have := hB.size; rw [allW_size] at this; omega) (by omega) hown' hgrow; have hc1 := hv1.cell; have hf1 := hv1.frozen)
    exact ⟨hk2, hb2, ⟨_, hv2, by simpa using hr2, trivial⟩, hB.trans hb2⟩
  case done =>
    rintro D ys W hD rfl ⟨⟨v, hv, hrow, _⟩, hB⟩ hK
    have hcc := hv.cell
    have hcw := (hB.cell (p := ⟨w.heap.size, 0, none⟩) (by show w.heap.size < _; omega)).trans cW
    have hB0 : Below w.heap.size w W := (allW_below w p g b g cap).trans (hB.mono (by omega))
    have hne : seqI p g g ≠ [] := by intro h; have := congrArg List.length h; rw [seqI_len] at this; simp at this; omega
    rcases own_cases hrow with ⟨_, hn⟩ | ⟨g', cap', rfl, hg1, hg2, _, _, hcs⟩
    · exact absurd hn hne
    rw [seqI_len] at hcc
    have hS := Lib.hid (same_true g' b cap' cap (seqI p g g) W (by rw [seqI_len]; omega) hg2 (by have := hB0.size; omega) hcs (fun j hj => (hB0.cell (p := ⟨b, j, none⟩) hb).trans (HC.out j hj)))
    rw [seqI_len] at hS
    have hf8 : W.frozen? ⟨w.heap.size + 1, 0, none⟩ = false := (hB.frozen (p := ⟨w.heap.size + 1, 0, none⟩) (by show w.heap.size + 1 < _; omega)).trans (by simp [allW, go_sem])
    have hc8 : W.cell? ⟨w.heap.size + 1, 0, none⟩ = some (.bool false) := (hB.cell (p := ⟨w.heap.size + 1, 0, none⟩) (by show w.heap.size + 1 < _; omega)).trans (by simp [allW, go_sem])
    have hW1 : w.heap.size + 1 < W.heap.size := by have := hB.size; rw [allW_size] at this; omega
    gi_wp2_with (refine ⟨trivial, ?_⟩; gi_at_call 36; refine (callsIn_wide.2 hS.out).mono ?_; rintro e w2 ⟨rfl, b2⟩; have hf9 := (b2.frozen (p := ⟨w.heap.size + 1, 0, none⟩) hW1).trans hf8; have hc9 := (b2.cell (p := ⟨w.heap.size + 1, 0, none⟩) hW1).trans hc8)
    have hDne : D ≠ w.heap.size + 1 := by have : (allW w p g b g cap).heap.size ≤ D := hD; rw [allW_size] at this; omega
    have hK2 := (Below.heap_setCell w2 ⟨w.heap.size + 1, 0, none⟩ (.bool true) D hDne).trans ((b2.block D (Array.getElem?_eq_some_iff.1 hK).1).trans hK)
    have hc10 : (w2.setCell ⟨w.heap.size + 1, 0, none⟩ (.bool true)).cell? ⟨w.heap.size + 1, 0, none⟩ = some (.bool true) := World.cell?_setCell_same' _ _ _ (by rw [hc9]; rfl)
    have hb10 : Below w.heap.size w (w2.setCell ⟨w.heap.size + 1, 0, none⟩ (.bool true)) := (tr hB0 b2).setCell (p := ⟨w.heap.size + 1, 0, none⟩) (by show w.heap.size ≤ w.heap.size + 1; omega) _
    refine ⟨by simp, .inl ⟨_, _, rfl, run_takeDeferred hK2, ?_⟩⟩
    have hD2 : w.heap.size ≤ D := by have : (allW w p g b g cap).heap.size ≤ D := hD; rw [allW_size] at this; omega
    have hlast : ((w2.setCell ⟨w.heap.size + 1, 0, none⟩ (.bool true)).putObj D (Obj.deferred none)).cell? ⟨w.heap.size + 1, 0, none⟩ = some (.bool true) := by
      rw [← hc10]
      have : D ≠ (⟨w.heap.size + 1, 0, none⟩ : Addr).block := hDne
      simp [World.cell?, World.putObj, hDne]
    refine ⟨.bool true, by simp [results, Try.results18, go_sem, hlast], rfl, hb10.trans (belowK_b (w := w) (Nat.le_refl _) _ D _ _ hD2 hK2 rfl rfl)⟩
  case stop =>
    rintro D c pre W _ _ h _
    exact h.elim

theorem same_nil (w : World) :
    Calls Try.prog 36 #[.slice none 0 0, .slice none 0 0] w fun e w' => e = .returned (.bool true) ∧ w = w' := by
  go_enter Try.func36, Try.ntmps36
  go_wp2
  refine wp_loop_rounds 1 ?_
  rw [rounds_succ]
  go_wp2
  go_ret
  exact ⟨rfl, rfl⟩
theorem none_in (l : Nat) (J : List Int → World → Prop) (W : World) (h0 : J [] W) :
    CallsIn Fence.wide 5 Try.prog 38 #[.func (.yield l) #[] #[]] W fun e W' => (∃ v, e = .returned v) ∧ J [] W' := by
  refine callsIn_of_wp Try.func38 rfl trivial ?_ rfl
  simp only [Try.ntmps38, List.size_toArray, List.length_cons, List.length_nil, Nat.reduceAdd, Nat.reduceSub, Array.replicate_succ, Array.replicate_zero, List.push_toArray, List.append_toArray, List.nil_append, List.cons_append]
  gi_wp2
  go_end0
  exact ⟨⟨_, rfl⟩, h0⟩
def badW (w : World) : World := ((w.alloc (.cells #[.slice none 0 0] 31)).alloc (.cells #[.bool false] 4)).alloc (.cells #[.slice none 0 0] 31)
theorem badW_size (w : World) : (badW w).heap.size = w.heap.size + 3 := by simp [badW]
theorem badW_below (w : World) : Below w.heap.size w (badW w) := by unfold badW; go_grown
theorem same_zero (a : Option Addr) (c : Nat) (w : World) :
    Calls Try.prog 36 #[.slice a 0 c, .slice none 0 0] w fun e w' => e = .returned (.bool true) ∧ w = w' := by
  go_enter Try.func36, Try.ntmps36
  go_wp2
  refine wp_loop_rounds 1 ?_
  rw [rounds_succ]
  go_wp2
  go_ret
  exact ⟨rfl, rfl⟩
set_option maxRecDepth 100000 in
set_option maxHeartbeats 2000000 in
theorem lawall_bad (p g : Int) (hgp : pow2 g = false) (w : World) :
    Calls Try.prog 18 #[.int .u64 p, .int .i64 g, .slice none 0 0, .int .i64 2] w fun e w' => e = .returned (.bool true) ∧ Below w.heap.size w w' := by
  have HA := Lib.hid (All_bad p g hgp)
  clear hgp
  obtain ⟨i0, hi, hz0, hz1, hz2⟩ := info_parts info_int
  refine (callsIn_wide (n := 6)).1 ?_
  refine callsIn_of_wp_marks Try.func18 rfl trivial ?_ rfl
  simp only [Try.ntmps18, List.size_toArray, List.length_cons, List.length_nil, Nat.reduceAdd, Nat.reduceSub, Array.replicate_succ, Array.replicate_zero, List.push_toArray, List.append_toArray, List.nil_append, List.cons_append]
  have hnil := fun (wx : World) (ts lb : Array Value) => run_eql_func_nil (P := Try.prog) wx 35 _ _ _ (.func 38) ts lb Try.underlying35
  gi_wp2_with (refine ⟨trivial, ?_⟩; gi_at_call 22; refine (callsIn_wide.2 (HA.out _)).mono ?_; rintro e w' ⟨rfl, rfl⟩)
  have e4 : w.heap.size + 2 < (badW w).heap.size := by rw [badW_size]; omega
  have bO : Boxed (badW w) (w.heap.size + 2) 31 (.slice none 0 0) := by
    have := Boxed.new ((w.alloc (.cells #[.slice none 0 0] 31)).alloc (.cells #[.bool false] 4)) 31 (.slice none 0 0)
    simpa [badW] using this
  have cW : (badW w).cell? ⟨w.heap.size, 0, none⟩ = some (.slice none 0 0) := by simp [badW, go_sem]
  refine wpIn_rangeFunc_ownF (encs := fun x : Int => #[.int .i64 x]) (Kp := Below (w.heap.size + 2)) (S := fun xs : List Int => xs = []) (Sp := fun pre : List Int => pre = []) (N := 1) rfl (by decide) (gf := 38) (lb := #[]) rfl trivial (enters_of Try.func38 (by kernel_rfl) rfl)
    (w0 := badW w)
    (fun l J Jx W hW _ _ hY h0 => (none_in l J W h0).mono (by rintro e W' ⟨h1, h2⟩; exact ⟨h1, .inl ⟨[], rfl, h2⟩⟩))
    belowK_t (belowK_b (by simp)) (Below.refl _ _) (fun _ => rfl)
    (fun pre W => (∃ v, Boxed W (w.heap.size + 2) 31 v ∧ W.ownsRow (w.heap.size + 2) 3 1 v pre.length (pre.map (Value.int .i64)) ∧ True) ∧ Below (w.heap.size + 2) (badW w) W)
    (fun _ _ _ => False)
    (OwnFrom.and (Own.from (holdsRow_own (w.heap.size + 2) (w.heap.size + 2) 31 3 1 (fun pre : List Int => pre.length) (fun pre : List Int => pre.map (Value.int .i64)) (fun _ _ => True)) _) (ownFrom_below (by first | (rw [badW_size]; omega) | simp | omega) (by first | (rw [badW_size]; omega) | simp | omega)))
    (fun _ _ _ _ _ hs _ _ => hs)
    ⟨⟨_, bO, World.ownsRow_nil _ _ _ _, trivial⟩, Below.refl _ _⟩
    (fun x => { tmps := #[.int .u64 p, .int .i64 g, .slice none 0 0, .int .i64 2, undef, undef, .pointer (some ⟨w.heap.size, 0, none⟩), undef, .pointer (some ⟨w.heap.size + 1, 0, none⟩), .func (.func 38) #[] #[], .int .i64 2, .pointer (some ⟨w.heap.size + 1 + 1, 0, none⟩), .int .i64 x,
      .tuple #[.func (.func 38) #[] #[], .int .i64 2], .int .u64 p, .int .i64 g, .tuple #[.func (.func 38) #[] #[], .int .i64 2], .func (.func 38) #[] #[], .int .i64 2, .func (.func 38) #[] #[], .bool false, .bool false, .int .i64 2, .int .i64 2, .bool false, .bool false, .func (.func 38) #[] #[], .int .i64 x,
      undef, undef, undef, undef, undef, undef, undef, undef, undef, undef, undef, undef], defers := [] }) ?assign ?body ?done ?stop
  case assign =>
    intro l x W K hK
    gi_wp2
    exact hK
  case body =>
    rintro l pre x W ⟨⟨v, hv, hrow, _⟩, hB⟩ hlt
    have hcc := hv.cell
    have hcw := (hB.cell (p := ⟨w.heap.size, 0, none⟩) (by show w.heap.size < _; omega)).trans cW
    have hpl : pre.length < 1 := hlt
    obtain ⟨va, vc, rfl⟩ : ∃ a c, v = .slice a pre.length c := by
      rcases own_cases hrow with ⟨rfl, rfl⟩ | ⟨g', cap', rfl, _⟩
      · exact ⟨none, 0, rfl⟩
      · exact ⟨_, _, rfl⟩
    gi_wp2_with (gi_at_builtin; refine wpListIn_append_own _ rfl _ _ 31 rfl (w.heap.size + 2) 3 i0 (.int .i64 0) 1 8 Try.underlying31 hi hz0 hz1 hz2 rfl (by decide) _ _ _ rfl (hrow.alloc _) ⟨W.heap.size, 0, none⟩ 1 1 [.int .i64 x] rfl rfl (cell_one_new _ _ _) (by simp [Value.oneCell']) (by unfold maxLen; omega) (by omega) (by have := hB.size; rw [badW_size] at this; simp; omega) ?_; intro v' w1 hown' hgrow _; obtain ⟨g', cap', rfl⟩ := ownsRow_succ hown'; obtain ⟨hv1, hv2, hr2, hk2, hb2⟩ := hv.appended (by decide) hrow (by have := hB.size; rw [badW_size] at this; omega) (by omega) hown' hgrow; have hc1 := hv1.cell; have hf1 := hv1.frozen)
    exact ⟨hk2, hb2, ⟨_, hv2, by simpa using hr2, trivial⟩, hB.trans hb2⟩
  case done =>
    rintro D ys W hD rfl ⟨⟨v, hv, hrow, _⟩, hB⟩ hK
    have hcc := hv.cell
    have hcw := (hB.cell (p := ⟨w.heap.size, 0, none⟩) (by show w.heap.size < _; omega)).trans cW
    have hB0 : Below w.heap.size w W := (badW_below w).trans (hB.mono (by omega))
    obtain ⟨va, vc, rfl⟩ : ∃ a c, v = .slice a 0 c := by
      rcases own_cases hrow with ⟨rfl, _⟩ | ⟨g', cap', rfl, _⟩
      · exact ⟨none, 0, rfl⟩
      · exact ⟨_, _, rfl⟩
    have hS := Lib.hid (same_zero va vc W)
    have hf8 : W.frozen? ⟨w.heap.size + 1, 0, none⟩ = false := (hB.frozen (p := ⟨w.heap.size + 1, 0, none⟩) (by show w.heap.size + 1 < _; omega)).trans (by simp [badW, go_sem])
    have hc8 : W.cell? ⟨w.heap.size + 1, 0, none⟩ = some (.bool false) := (hB.cell (p := ⟨w.heap.size + 1, 0, none⟩) (by show w.heap.size + 1 < _; omega)).trans (by simp [badW, go_sem])
    have hW1 : w.heap.size + 1 < W.heap.size := by have := hB.size; rw [badW_size] at this; omega
    gi_wp2_with (refine ⟨trivial, ?_⟩; gi_at_call 36; refine (callsIn_wide.2 hS.out).mono ?_; rintro e w2 ⟨rfl, hw2⟩; have b2 : Below W.heap.size W w2 := hw2 ▸ Below.refl _ _; clear hw2; have hf9 := (b2.frozen (p := ⟨w.heap.size + 1, 0, none⟩) hW1).trans hf8; have hc9 := (b2.cell (p := ⟨w.heap.size + 1, 0, none⟩) hW1).trans hc8)
    have hDne : D ≠ w.heap.size + 1 := by have : (badW w).heap.size ≤ D := hD; rw [badW_size] at this; omega
    have hK2 := (Below.heap_setCell w2 ⟨w.heap.size + 1, 0, none⟩ (.bool true) D hDne).trans ((b2.block D (Array.getElem?_eq_some_iff.1 hK).1).trans hK)
    have hc10 : (w2.setCell ⟨w.heap.size + 1, 0, none⟩ (.bool true)).cell? ⟨w.heap.size + 1, 0, none⟩ = some (.bool true) := World.cell?_setCell_same' _ _ _ (by rw [hc9]; rfl)
    have hb10 : Below w.heap.size w (w2.setCell ⟨w.heap.size + 1, 0, none⟩ (.bool true)) := (tr hB0 b2).setCell (p := ⟨w.heap.size + 1, 0, none⟩) (by show w.heap.size ≤ w.heap.size + 1; omega) _
    refine ⟨by simp, .inl ⟨_, _, rfl, run_takeDeferred hK2, ?_⟩⟩
    have hD2 : w.heap.size ≤ D := by have : (badW w).heap.size ≤ D := hD; rw [badW_size] at this; omega
    have hlast : ((w2.setCell ⟨w.heap.size + 1, 0, none⟩ (.bool true)).putObj D (Obj.deferred none)).cell? ⟨w.heap.size + 1, 0, none⟩ = some (.bool true) := by
      rw [← hc10]
      have : D ≠ (⟨w.heap.size + 1, 0, none⟩ : Addr).block := hDne
      simp [World.cell?, World.putObj, hDne]
    refine ⟨.bool true, by simp [results, Try.results18, go_sem, hlast], rfl, hb10.trans (belowK_b (w := w) (Nat.le_refl _) _ D _ _ hD2 hK2 rfl rfl)⟩
  case stop =>
    rintro D c pre W _ _ h _
    exact h.elim

end Go.Proofs.Ytdilhldaipjhoaa.Probe
