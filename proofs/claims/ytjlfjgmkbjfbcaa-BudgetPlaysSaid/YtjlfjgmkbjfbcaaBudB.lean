/-
  The law of layer 17 (budget) on any calls.
-/
import Derived.Test.YtjlfjgmkbjfbcaaBudC
set_option linter.unusedVariables false
set_option linter.unusedSimpArgs false
namespace Go.Proofs.Ytjlfjgmkbjfbcaa.Bud
open Go.RowKit Kit
theorem s_fr {w : World} {b : Nat} {mc mb n0 n1 c0 c1 : Int} (h : w.heap[b]? = some (sO mc mb n0 n1 c0 c1)) (o : Nat) : w.frozen? ⟨b, o, none⟩ = false := by unfold World.frozen?; rw [h]; rfl
theorem But.on {b n : Nat} {u v w : World} (h : Below n u v) (k : But b v w) (hb : n ≤ b) (hn : n ≤ v.heap.size) : Below n u w :=
  let k' := k.below hb hn
  ⟨k'.os.trans h.os, k'.tape.trans h.tape, k'.output.trans h.output, Nat.le_trans h.size k'.size, fun i hi => (k'.block i hi).trans (h.block i hi)⟩
/-- the world after a step: the next state's block, the old one, the budget -/
structure Nx (W V : World) (xb nb b' : Nat) (mc mb n0 c0 n1 c1 mc' mb' n0' c0' n1' c1' : Int) : Prop where
  nx : St V nb mc' mb' n0' n1' c0' c1'
  old : St V xb mc mb n0 n1 c0 c1
  bud : Bud V b' ⟨mc', mb', n0', c0', n1', c1'⟩
  bel : Below W.heap.size W V
  far : W.heap.size ≤ b'
  nex : b' ≠ xb
  nen : nb ≠ xb
theorem nx_a {W wr w5 : World} {xb b b' : Nat} {mc mb n0 c0 n1 c1 mc' mb' n0' c0' n1' c1' : Int} (hBW : Below W.heap.size W wr) (hbW : W.heap.size ≤ b) (hbl : b < wr.heap.size) (hbx : b ≠ xb) (hst : St wr xb mc mb n0 n1 c0 c1) (hb5 : Bud w5 b' ⟨mc', mb', n0', c0', n1', c1'⟩) (hor : b' = b ∨ wr.drew.heap.size ≤ b') (k5 : But b wr.drew w5) :
    Nx W (w5.alloc (sO mc' mb' n0' n1' c0' c1')) xb w5.heap.size b' mc mb n0 c0 n1 c1 mc' mb' n0' c0' n1' c1' := by
  have hxl := hst.lt
  have hsz : wr.heap.size ≤ w5.heap.size := k5.size
  have hor' : b' = b ∨ wr.heap.size ≤ b' := hor
  have hx5 : St w5 xb mc mb n0 n1 c0 c1 := (k5.block xb hxl (by omega)).trans hst
  have h5 : Below W.heap.size W w5 := But.on (show Below W.heap.size W wr.drew from tr hBW (Below.refl _ _).drew) k5 hbW hBW.size
  exact ⟨St.new w5 _ _ _ _ _ _, hx5.below (by go_grown), BoxA.below hb5 (by go_grown), tr h5 (by go_grown), by omega, by omega, by omega⟩
theorem nx_b {W wr w5 : World} {o : Obj} {xb b b' : Nat} {mc mb n0 c0 n1 c1 mc' mb' n0' c0' n1' c1' x0 x1 x2 x3 x4 x5 : Int} (hBW : Below W.heap.size W wr) (hbW : W.heap.size ≤ b) (hbl : b < wr.heap.size) (hbx : b ≠ xb) (hst : St wr xb mc mb n0 n1 c0 c1) (hz : (wr.alloc (sO x0 x1 x2 x3 x4 x5)).drew.heap[wr.heap.size]? = some (sO x0 x1 x2 x3 x4 x5)) (hb5 : Bud w5 b' ⟨mc', mb', n0', c0', n1', c1'⟩) (hor : b' = b ∨ (wr.alloc (sO x0 x1 x2 x3 x4 x5)).drew.heap.size ≤ b') (k5 : But b (wr.alloc (sO x0 x1 x2 x3 x4 x5)).drew w5) :
    Nx W (put6 w5 wr.heap.size mc' mb' n0' n1' c0' c1') xb wr.heap.size b' mc mb n0 c0 n1 c1 mc' mb' n0' c0' n1' c1' := by
  have hxl := hst.lt
  have hg : Below wr.heap.size wr (wr.alloc (sO x0 x1 x2 x3 x4 x5)).drew := by go_grown
  have hzl := (Array.getElem?_eq_some_iff.1 hz).1
  have hz5 : w5.heap[wr.heap.size]? = some (sO x0 x1 x2 x3 x4 x5) := (k5.block _ hzl (by omega)).trans hz
  have hst1 : St (wr.alloc (sO x0 x1 x2 x3 x4 x5)).drew xb mc mb n0 n1 c0 c1 := hst.below hg
  have hB1 : Below W.heap.size W (wr.alloc (sO x0 x1 x2 x3 x4 x5)).drew := tr hBW hg
  generalize (wr.alloc (sO x0 x1 x2 x3 x4 x5)).drew = w1 at *
  have hsz := k5.size
  have hx5 : St w5 xb mc mb n0 n1 c0 c1 := (k5.block xb hst1.lt (by omega)).trans hst1
  have h5 : Below W.heap.size W w5 := But.on hB1 k5 hbW hB1.size
  have hW := hBW.size
  have hbn : b' ≠ wr.heap.size := by omega
  exact ⟨put6_o hz5, (put6_but.block _ hx5.lt (by omega)).trans hx5, (put6_but.block _ (BoxA.lt hb5) hbn).trans hb5, But.on h5 put6_but hW (by omega), by omega, by omega, by omega⟩
theorem nx_c {W w : World} {xb nb b' : Nat} {mc mb n0 c0 n1 c1 mc' mb' n0' c0' n1' c1' : Int} (hn : St w nb mc' mb' n0' n1' c0' c1') (ho : St w xb mc mb n0 n1 c0 c1) (hb : Bud w b' ⟨mc', mb', n0', c0', n1', c1'⟩) (hw : Below W.heap.size W w) (hne : b' ≠ xb) (hx : W.heap.size ≤ xb) :
    Bud (put6 w xb mc' mb' n0' n1' c0' c1') b' ⟨mc', mb', n0', c0', n1', c1'⟩ ∧ St (put6 w xb mc' mb' n0' n1' c0' c1') xb mc' mb' n0' n1' c0' c1' ∧ Below W.heap.size W (put6 w xb mc' mb' n0' n1' c0' c1') :=
  ⟨(put6_but.block _ (BoxA.lt hb) hne).trans hb, put6_o ho, But.on hw put6_but hx hw.size⟩
theorem nx_d {W w : World} {xb nb b' : Nat} {mc mb n0 c0 n1 c1 mc' mb' n0' c0' n1' c1' : Int} (hn : St w nb mc' mb' n0' n1' c0' c1') (ho : St w xb mc mb n0 n1 c0 c1) (hb : Bud w b' ⟨mc', mb', n0', c0', n1', c1'⟩) (hw : Below W.heap.size W w) (hne : b' ≠ xb) (hx : W.heap.size ≤ xb) :
    Bud (put6 w xb mc' mb' n0' n1' c0' c1').drew b' ⟨mc', mb', n0', c0', n1', c1'⟩ ∧ St (put6 w xb mc' mb' n0' n1' c0' c1').drew xb mc' mb' n0' n1' c0' c1' ∧ Below W.heap.size W (put6 w xb mc' mb' n0' n1' c0' c1').drew := by
  have h := nx_c hn ho hb hw hne hx
  generalize put6 w xb mc' mb' n0' n1' c0' c1' = V at *
  exact ⟨BoxA.below h.1 (Below.refl _ _).drew, h.2.1.below (Below.refl _ _).drew, tr h.2.2 (Below.refl _ _).drew⟩
/-- the calls -/
def Acts (w : World) (a : Option Addr) (len : Nat) (f0 f1 f2 f3 : Nat → Int) : Prop := ∀ i, i < len → ∃ x, a = some x ∧ x.block < w.heap.size ∧ w.cell? (x.add (i * 4)) = some (.int .i64 (f0 i)) ∧ w.cell? ⟨(x.add (i * 4)).block, (x.add (i * 4)).off + 1, none⟩ = some (.int .i64 (f1 i)) ∧ w.cell? ⟨(x.add (i * 4)).block, (x.add (i * 4)).off + 2, none⟩ = some (.int .i64 (f2 i)) ∧ w.cell? ⟨(x.add (i * 4)).block, (x.add (i * 4)).off + 3, none⟩ = some (.int .i64 (f3 i))
theorem add_pos (x : Addr) (m k : Nat) (hk : k ≠ 0) : x.add (m + k) = ⟨(x.add m).block, (x.add m).off + k, none⟩ := by
  unfold Addr.add
  by_cases h1 : m = 0
  · subst h1; simp [hk]
  · simp [h1, hk, Nat.add_assoc]
theorem add_block (x : Addr) (m : Nat) : (x.add m).block = x.block := by unfold Addr.add; split <;> rfl
theorem cell_lt {w : World} {x : Addr} {v : Value} (h : w.cell? x = some v) : x.block < w.heap.size := by
  rcases Nat.lt_or_ge x.block w.heap.size with h' | h'
  · exact h'
  · simp [World.cell?, Array.getElem?_eq_none h'] at h
theorem acts_of {w : World} {a : Option Addr} {len cap : Nat} (h : (a = none ∧ len = 0) ∨ ∃ x, a = some x ∧ len ≤ cap ∧ cap ≤ maxLen ∧ ∀ i, i < len → ∃ (z0 : Int) (z1 : Int) (z2 : Int) (z3 : Int), w.cell? (x.add (i * 4 + 0)) = some (.int .i64 z0) ∧ w.cell? (x.add (i * 4 + 1)) = some (.int .i64 z1) ∧ w.cell? (x.add (i * 4 + 2)) = some (.int .i64 z2) ∧ w.cell? (x.add (i * 4 + 3)) = some (.int .i64 z3) ∧ (Lit.int .i64 z0).wf = true ∧ (Lit.int .i64 z1).wf = true ∧ (Lit.int .i64 z2).wf = true ∧ (Lit.int .i64 z3).wf = true) :
    ∃ f0 f1 f2 f3, Acts w a len f0 f1 f2 f3 := by
  rcases h with ⟨-, rfl⟩ | ⟨x, rfl, -, -, h⟩
  · exact ⟨fun _ => 0, fun _ => 0, fun _ => 0, fun _ => 0, fun i hi => by omega⟩
  · have h' : ∀ i : Nat, ∃ p : (Int × Int) × Int × Int, i < len → x.block < w.heap.size ∧ w.cell? (x.add (i * 4)) = some (.int .i64 p.1.1) ∧ w.cell? ⟨(x.add (i * 4)).block, (x.add (i * 4)).off + 1, none⟩ = some (.int .i64 p.1.2) ∧ w.cell? ⟨(x.add (i * 4)).block, (x.add (i * 4)).off + 2, none⟩ = some (.int .i64 p.2.1) ∧ w.cell? ⟨(x.add (i * 4)).block, (x.add (i * 4)).off + 3, none⟩ = some (.int .i64 p.2.2) := fun i => by
      by_cases hi : i < len
      · obtain ⟨z0, z1, z2, z3, h0, h1, h2, h3, -⟩ := h i hi
        rw [add_pos x _ 1 (by decide)] at h1
        rw [add_pos x _ 2 (by decide)] at h2
        rw [add_pos x _ 3 (by decide)] at h3
        rw [Nat.add_zero] at h0
        have := cell_lt h0
        rw [add_block] at this
        exact ⟨((z0, z1), z2, z3), fun _ => ⟨this, h0, h1, h2, h3⟩⟩
      · exact ⟨((0, 0), 0, 0), fun hh => absurd hh hi⟩
    exact ⟨fun i => (h' i).choose.1.1, fun i => (h' i).choose.1.2, fun i => (h' i).choose.2.1, fun i => (h' i).choose.2.2, fun i hi => ⟨x, rfl, (h' i).choose_spec hi⟩⟩
theorem Acts.below {w w' : World} {a : Option Addr} {len : Nat} {f0 f1 f2 f3 : Nat → Int} (h : Acts w a len f0 f1 f2 f3) (hb : Below w.heap.size w w') : Acts w' a len f0 f1 f2 f3 := fun i hi => by
  obtain ⟨x, h0, h1, h2, h3, h4, h5⟩ := h i hi
  refine ⟨x, h0, by have := hb.size; omega, ?_, ?_, ?_, ?_⟩
  · rw [hb.cell (by rw [add_block]; exact h1)]; exact h2
  · rw [hb.cell (by show (x.add (i * 4)).block < _; rw [add_block]; exact h1)]; exact h3
  · rw [hb.cell (by show (x.add (i * 4)).block < _; rw [add_block]; exact h1)]; exact h4
  · rw [hb.cell (by show (x.add (i * 4)).block < _; rw [add_block]; exact h1)]; exact h5
theorem ok_inv {a b : Int} (h : okLim a b = true) : Inv 0 ⟨a, b, 0, 0, 0, 0⟩ := by
  have := lim_spec h
  exact ⟨this, ⟨Int.le_refl _, Int.le_refl _, by show (0 : Int) + 0 ≤ 0; omega⟩, ⟨Int.le_refl _, Int.le_refl _, by show (0 : Int) + 0 ≤ _; omega⟩, fun _ => rfl, fun _ => rfl⟩
set_option maxRecDepth 100000 in
set_option maxHeartbeats 4000000 in
theorem plays_ok (mc0 mb0 : Int) (hl : okLim mc0 mb0 = true) (W : World) {a : Option Addr} {len cap : Nat} {f0 f1 f2 f3 : Nat → Int} (hacts : Acts W a len f0 f1 f2 f3) (hlen : len ≤ 60) :
    Calls Try.prog 4 #[.int .i64 mc0, .int .i64 mb0, .slice a len cap] W fun e w' => e = .returned (.bool true) ∧ Below W.heap.size W w' := by
  have HL := Lib.hid (fun v => lallowed_any mc0 mb0 v)
  rw [hl] at HL
  have HN := Lib.hid (fun v => (New_ok mc0 mb0 hl v).mono (fun e w' h => (⟨v.heap.size, h.1, Nat.le_refl _, by rw [h.2]; exact (MapKept.heap_alloc v _).1, by rw [h.2]; go_grown⟩ : ∃ b, e = .returned (.tuple #[.pointer (some ⟨b, 0, none⟩), .int .i64 0]) ∧ v.heap.size ≤ b ∧ Bud w' b ⟨mc0, mb0, 0, 0, 0, 0⟩ ∧ Below v.heap.size v w')))
  have HI := Lib.hid (ok_inv hl)
  have HA := Lib.hid hacts
  clear hl hacts
  go_enter Try.func4, Try.ntmps4
  go_wp2_with fail
  refine (HL.out _).mono ?_
  rintro e w1 ⟨rfl, rfl⟩
  have hl6 : ((len : Nat) : Int) ≤ 60 := by omega
  have hl7 : ¬ (60 : Int) < ((len : Nat) : Int) := by omega
  go_wp2_with fail
  refine (HN.out _).mono ?_
  rintro e w2 ⟨b, rfl, hb, hB, b2⟩
  have HBU := Lib.hid hB
  have B2 := Lib.hid b2
  clear hB b2
  go_wp2_with fail
  have X0 := Lib.hid (St.new w2 mc0 mb0 0 0 0 0)
  have BU0 := Lib.hid (show Bud (w2.alloc (sO mc0 mb0 0 0 0 0)) b ⟨mc0, mb0, 0, 0, 0, 0⟩ from BoxA.below HBU.out (by go_grown))
  have BW0 := Lib.hid (show Below W.heap.size W (w2.alloc (sO mc0 mb0 0 0 0 0)) from tr B2.out (by go_grown))
  have hbx : b < w2.heap.size := BoxA.lt HBU.out
  have hxW : W.heap.size ≤ w2.heap.size := B2.out.size
  unfold sO at BU0 BW0
  generalize w2.alloc (.cells #[.int .i64 mc0, .int .i64 mb0, .int .i64 0, .int .i64 0, .int .i64 0, .int .i64 0] 31) = V0 at *
  generalize w2.heap.size = xb at *
  clear HBU B2
  go_loopw [7, 10] (fun p i wr => ∃ (j b : Nat) (mc mb n0 c0 n1 c1 : Int), j ≤ len ∧ p = .pointer (some ⟨b, 0, none⟩) ∧ i = .int .i64 j ∧ Inv j ⟨mc, mb, n0, c0, n1, c1⟩ ∧ Bud wr b ⟨mc, mb, n0, c0, n1, c1⟩ ∧ St wr xb mc mb n0 n1 c0 c1 ∧ W.heap.size ≤ b ∧ b ≠ xb ∧ Below W.heap.size W wr) (fun _ i _ => len - (intOf i).toNat)
  case atStart => exact ⟨0, b, mc0, mb0, 0, 0, 0, 0, by omega, rfl, rfl, HI.out, BU0.out, X0.out, hb, by omega, BW0.out⟩
  case round =>
    clear X0 BU0 BW0 hb hbx
    obtain ⟨j, b, mc, mb, n0, c0, n1, c1, hj, rfl, rfl, hinv, hbud, hst, hbW, hbx, hBW⟩ := hrel
    have HIV := Lib.hid hinv
    have HBU := Lib.hid hbud
    have HST := Lib.hid hst
    have HBW := Lib.hid hBW
    clear hinv hbud hst hBW
    by_cases hlt : j < len
    · obtain ⟨x, rfl, hxb, y0, y1, y2, y3⟩ := HA.out.below HBW.out j hlt
      have hxb2 : (x.add (j * 4)).block < wr.heap.size := by rw [add_block]; exact hxb
      have hxb3 : (x.add (j * 4)).block ≠ wr.heap.size := by omega
      obtain ⟨x', hx', -, q0, q1, q2, q3⟩ := HA.out.below (tr HBW.out (by go_grown : Below wr.heap.size wr (wr.alloc (.cells #[.int .i64 0, .int .i64 0, .int .i64 0, .int .i64 0, .int .i64 0, .int .i64 0] 31)).drew)) j hlt
      obtain rfl : x = x' := by injection hx'
      clear hx'
      generalize f0 j = what at *
      generalize f1 j = g at *
      generalize f2 j = u at *
      generalize f3 j = v at *
      obtain ⟨s0, s1, s2, s3, s4, s5⟩ := HST.out.cs
      have hxl := HST.out.lt
      have hbl := BoxA.lt HBU.out
      have HSTEP := Lib.hid (fun (w' : World) (hw : w'.heap[b]? = wr.heap[b]?) => step_any b mc mb n0 c0 n1 c1 (j : Int) what g u v HIV.out (by omega) (by omega) w' (hw.trans HBU.out))
      unfold StepR sV at HSTEP
      go_wp2_with fail
      have hza : (wr.alloc (.cells #[.int .i64 0, .int .i64 0, .int .i64 0, .int .i64 0, .int .i64 0, .int .i64 0] 31)).drew.heap[b]? = wr.heap[b]? := Below.heap_alloc _ _ _ hbl
      have hzb : (wr.alloc (.cells #[.int .i64 0, .int .i64 0, .int .i64 0, .int .i64 0, .int .i64 0, .int .i64 0] 31)).drew.heap[wr.heap.size]? = some (sO 0 0 0 0 0 0) := (MapKept.heap_alloc wr _).1
      have HZA := Lib.hid hza
      have HZB := Lib.hid hzb
      clear hza hzb
      go_region_with (first
        | (go_at_call 13; refine (HSTEP.out wr.drew rfl).mono ?_; rintro e w5 ⟨b', mc', mb', n0', c0', n1', c1', rfl, hi5, hb5, hor, k5⟩; have hnx := Lib.hid (nx_a HBW.out hbW hbl hbx HST.out hb5 hor k5))
        | (go_at_call 13; refine (HSTEP.out (wr.alloc (.cells #[.int .i64 0, .int .i64 0, .int .i64 0, .int .i64 0, .int .i64 0, .int .i64 0] 31)).drew HZA.out).mono ?_; rintro e w5 ⟨b', mc', mb', n0', c0', n1', c1', rfl, hi5, hb5, hor, k5⟩; have hnx := Lib.hid (nx_b (o := sO 0 0 0 0 0 0) HBW.out hbW hbl hbx HST.out HZB.out hb5 hor k5); have hz5 := (k5.block wr.heap.size (Array.getElem?_eq_some_iff.1 HZB.out).1 (by omega)).trans HZB.out; obtain ⟨z0, z1, z2, z3, z4, z5⟩ := s_cells hz5; have zf := s_fr hz5; have hz6 := (Array.getElem?_eq_some_iff.1 hz5).1; clear hz5))
      all_goals
        (have HI5 := Lib.hid hi5
         clear hi5 hb5 hor k5 HSTEP HZA HZB
         first
          | unfold put6 at hnx
            generalize (((((w5.setCell ⟨wr.heap.size, 0, none⟩ (.int .i64 mc')).setCell ⟨wr.heap.size, 1, none⟩ (.int .i64 mb')).setCell ⟨wr.heap.size, 2, none⟩ (.int .i64 n0')).setCell ⟨wr.heap.size, 3, none⟩ (.int .i64 n1')).setCell ⟨wr.heap.size, 4, none⟩ (.int .i64 c0')).setCell ⟨wr.heap.size, 5, none⟩ (.int .i64 c1') = V at *
            generalize wr.heap.size = nb at *
          | unfold sO at hnx
            generalize w5.alloc (.cells #[.int .i64 mc', .int .i64 mb', .int .i64 n0', .int .i64 n1', .int .i64 c0', .int .i64 c1'] 31) = V at *
            generalize w5.heap.size = nb at *
         clear s0 s1 s2 s3 s4 s5 y0 y1 y2 y3 q0 q1 q2 q3 hxb hxb2 hxb3 hbl hbW hxl HBU HST HBW HIV
         obtain ⟨s0, s1, s2, s3, s4, s5⟩ := hnx.out.nx.cs
         have hnl := hnx.out.nx.lt
         have hne := hnx.out.nex
         have hfar := hnx.out.far
         go_wp2_with fail
         go_at_call 12
         refine (is_true b' mc' mb' n0' c0' n1' c1' (HI5.out.ok (by omega)) _ hnx.out.bud).mono ?_
         rintro e w6 ⟨rfl, b6⟩
         have NX := Lib.hid (hnx.out.nx.below b6)
         have OX := Lib.hid (hnx.out.old.below b6)
         have BX := Lib.hid (show Bud w6 b' ⟨mc', mb', n0', c0', n1', c1'⟩ from BoxA.below hnx.out.bud b6)
         have BW := Lib.hid (tr hnx.out.bel b6)
         clear s0 s1 s2 s3 s4 s5 hnl b6
         obtain ⟨s0, s1, s2, s3, s4, s5⟩ := NX.out.cs
         have hnl := NX.out.lt
         have hxl := OX.out.lt
         obtain ⟨t0, t1, t2, t3, t4, t5⟩ := OX.out.cs
         have hfx : ∀ o : Nat, w6.frozen? ⟨xb, o, none⟩ = false := fun o => OX.out.fr o
         have hnen := hnx.out.nen
         go_wp2_with fail
         apply region_once
         case first => go_region_with fail; all_goals exact ⟨rfl, rfl⟩
         have hF := nx_c NX.out OX.out BX.out BW.out hne hxW
         have hFd := nx_d NX.out OX.out BX.out BW.out hne hxW
         unfold put6 at hF hFd
         have HF := Lib.hid hF
         have HFd := Lib.hid hFd
         clear hF hFd
         clear NX OX BX BW hnx
         try clear s0 s1 s2 s3 s4 s5 t0 t1 t2 t3 t4 t5 hnl hxl hfx
         generalize ((((((w6.setCell ⟨xb, 0, none⟩ (.int .i64 mc')).setCell ⟨xb, 1, none⟩ (.int .i64 mb')).setCell ⟨xb, 2, none⟩ (.int .i64 n0')).setCell ⟨xb, 3, none⟩ (.int .i64 n1')).setCell ⟨xb, 4, none⟩ (.int .i64 c0')).setCell ⟨xb, 5, none⟩ (.int .i64 c1')).drew = V7d at *
         generalize (((((w6.setCell ⟨xb, 0, none⟩ (.int .i64 mc')).setCell ⟨xb, 1, none⟩ (.int .i64 mb')).setCell ⟨xb, 2, none⟩ (.int .i64 n0')).setCell ⟨xb, 3, none⟩ (.int .i64 n1')).setCell ⟨xb, 4, none⟩ (.int .i64 c0')).setCell ⟨xb, 5, none⟩ (.int .i64 c1') = V7 at *
         go_wp2_with fail
         go_roundw
         case rel => first
           | exact ⟨j + 1, b', mc', mb', n0', c0', n1', c1', by omega, rfl, by go_num, HI5.out, HFd.out.1, HFd.out.2.1, hfar, hne, HFd.out.2.2⟩
           | exact ⟨j + 1, b', mc', mb', n0', c0', n1', c1', by omega, rfl, by go_num, HI5.out, HF.out.1, HF.out.2.1, hfar, hne, HF.out.2.2⟩
         case measure => simp [intOf] <;> omega)
    · obtain rfl : j = len := by omega
      go_wp2_with fail
      refine (known_any _).mono ?_
      rintro e w8 ⟨rfl, b8⟩
      go_wp2_with fail
      go_ret
      exact ⟨rfl, tr HBW.out b8⟩
set_option maxRecDepth 100000 in
set_option maxHeartbeats 1000000 in
theorem plays_no (mc0 mb0 : Int) (hl : okLim mc0 mb0 = false) (W : World) (a : Option Addr) (len cap : Nat) :
    Calls Try.prog 4 #[.int .i64 mc0, .int .i64 mb0, .slice a len cap] W fun e w' => e = .returned (.bool true) ∧ Below W.heap.size W w' := by
  have HL := Lib.hid (fun v => lallowed_any mc0 mb0 v)
  rw [hl] at HL
  clear hl
  go_enter Try.func4, Try.ntmps4
  go_wp2_with fail
  refine (HL.out _).mono ?_
  rintro e w1 ⟨rfl, rfl⟩
  go_wp2_with fail
  refine (known_any _).mono ?_
  rintro e w8 ⟨rfl, b8⟩
  go_wp2_with fail
  go_ret
  exact ⟨rfl, b8⟩
set_option maxRecDepth 100000 in
set_option maxHeartbeats 1000000 in
theorem plays_long (mc0 mb0 : Int) (hl : okLim mc0 mb0 = true) (W : World) (a : Option Addr) (len cap : Nat) (hlen : 60 < len) :
    Calls Try.prog 4 #[.int .i64 mc0, .int .i64 mb0, .slice a len cap] W fun e w' => e = .returned (.bool true) ∧ Below W.heap.size W w' := by
  have HL := Lib.hid (fun v => lallowed_any mc0 mb0 v)
  rw [hl] at HL
  clear hl
  go_enter Try.func4, Try.ntmps4
  go_wp2_with fail
  refine (HL.out _).mono ?_
  rintro e w1 ⟨rfl, rfl⟩
  have hl7 : (60 : Int) < ((len : Nat) : Int) := by omega
  go_wp2_with fail
  refine (known_any _).mono ?_
  rintro e w8 ⟨rfl, b8⟩
  go_wp2_with fail
  go_ret
  exact ⟨rfl, b8⟩
theorem plays_any (mc0 mb0 : Int) (W : World) {a : Option Addr} {len cap : Nat} {f0 f1 f2 f3 : Nat → Int} (hacts : Acts W a len f0 f1 f2 f3) :
    Calls Try.prog 4 #[.int .i64 mc0, .int .i64 mb0, .slice a len cap] W fun e w' => e = .returned (.bool true) ∧ Below W.heap.size W w' := by
  cases hl : okLim mc0 mb0
  · exact plays_no mc0 mb0 hl W a len cap
  · rcases Nat.lt_or_ge 60 len with h | h
    · exact plays_long mc0 mb0 hl W a len cap h
    · exact plays_ok mc0 mb0 hl W hacts h
end Go.Proofs.Ytjlfjgmkbjfbcaa.Bud
