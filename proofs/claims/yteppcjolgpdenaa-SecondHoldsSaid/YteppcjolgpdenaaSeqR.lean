/-
  Second chance (layer 31): the reference's Use.
-/
import Derived.Test.YteppcjolgpdenaaSeqQ
set_option linter.unusedVariables false
set_option linter.unusedSimpArgs false
namespace Go.Proofs.Yteppcjolgpdenaa.Seq
open Go Go.RowKit Kit Go.Maps
/-- the variables of the reference's Use, and its row -/
structure Us (w : World) (cb g n cap : Nat) (l : List Pl) (h : Int) : Prop where
  c : BoxR w cb (.slice (some ⟨g, 0, none⟩) n cap) (.int .i64 h)
  r0 : BoxR w (cb + 1) (.slice none 0 0) (.int .i64 0)
  r1 : BoxA w (cb + 1 + 1) 46 #[.bool false, .bool false, .int .u32 0]
  row : Rw w g l
  hg : cb + 3 ≤ g
theorem Us.below {w w' : World} {cb g n cap : Nat} {l : List Pl} {h : Int} (H : Us w cb g n cap l h) (hb : Below w.heap.size w w') : Us w' cb g n cap l h :=
  ⟨(hb.block _ (Array.getElem?_eq_some_iff.1 H.c).1).trans H.c, (hb.block _ (Array.getElem?_eq_some_iff.1 H.r0).1).trans H.r0, (hb.block _ (Array.getElem?_eq_some_iff.1 H.r1).1).trans H.r1, H.row.of (hb.block _ H.row.lt), H.hg⟩
theorem Us.mark {w : World} {cb g n cap : Nat} {l : List Pl} {h : Int} (H : Us w cb g n cap l h) {i : Nat} {p : Pl} (hp : l[i]? = some p) (b : Bool) : Us (w.setCell ⟨g, i * 3 + 2, none⟩ (.bool b)) cb g n cap (l.set i ⟨p.k, p.f, b⟩) h := by
  have hg := H.hg
  have e : ∀ b', b' ≠ g → (w.setCell ⟨g, i * 3 + 2, none⟩ (.bool b)).heap[b']? = w.heap[b']? := fun b' hb => Below.heap_setCell _ _ _ b' hb
  exact ⟨(e _ (by omega)).trans H.c, (e _ (by omega)).trans H.r0, (e _ (by omega)).trans H.r1, H.row.mark hp b, H.hg⟩
theorem Us.put {w : World} {cb g n cap : Nat} {l : List Pl} {h : Int} (H : Us w cb g n cap l h) {i : Nat} (hi : i < l.length) (p : Pl) : Us (((w.setCell ⟨g, i * 3, none⟩ (.int .u32 p.k)).setCell ⟨g, i * 3 + 1, none⟩ (.bool p.f)).setCell ⟨g, i * 3 + 2, none⟩ (.bool p.m)) cb g n cap (l.set i p) h := by
  have hg := H.hg
  have e : ∀ b', b' ≠ g → (((w.setCell ⟨g, i * 3, none⟩ (.int .u32 p.k)).setCell ⟨g, i * 3 + 1, none⟩ (.bool p.f)).setCell ⟨g, i * 3 + 2, none⟩ (.bool p.m)).heap[b']? = w.heap[b']? := fun b' hb =>
    (Below.heap_setCell _ _ _ b' hb).trans ((Below.heap_setCell _ _ _ b' hb).trans (Below.heap_setCell _ _ _ b' hb))
  exact ⟨(e _ (by omega)).trans H.c, (e _ (by omega)).trans H.r0, (e _ (by omega)).trans H.r1, H.row.put hi p, H.hg⟩
theorem Us.hand {w : World} {cb g n cap : Nat} {l : List Pl} {h : Int} (H : Us w cb g n cap l h) (h' : Int) : Us (w.setCell ⟨cb, 1, none⟩ (.int .i64 h')) cb g n cap l h' := by
  have hg := H.hg
  have e : ∀ b', b' ≠ cb → (w.setCell ⟨cb, 1, none⟩ (.int .i64 h')).heap[b']? = w.heap[b']? := fun b' hb => Below.heap_setCell _ _ _ b' hb
  refine ⟨?_, (e _ (by omega)).trans H.r0, (e _ (by omega)).trans H.r1, H.row.of (e _ (by omega)), H.hg⟩
  have h1 := heap_set (j := 1) H.c (.int .i64 h')
  simpa using h1
theorem Us.start {w : World} {cb q g n cap cap' : Nat} {l : List Pl} {h h0 : Int} (c : BoxR w cb (.slice (some ⟨q, 0, none⟩) n cap) (.int .i64 h0)) (r0 : BoxR w (cb + 1) (.slice none 0 0) (.int .i64 0)) (r1 : BoxA w (cb + 1 + 1) 46 #[.bool false, .bool false, .int .u32 0]) (row : Rw w g l) (hg : cb + 3 ≤ g) :
    Us ((w.setCell ⟨cb, 0, none⟩ (.slice (some ⟨g, 0, none⟩) n cap')).setCell ⟨cb, 1, none⟩ (.int .i64 h)) cb g n cap' l h := by
  have e : ∀ b', b' ≠ cb → ((w.setCell ⟨cb, 0, none⟩ (.slice (some ⟨g, 0, none⟩) n cap')).setCell ⟨cb, 1, none⟩ (.int .i64 h)).heap[b']? = w.heap[b']? := fun b' hb => (Below.heap_setCell _ _ _ b' hb).trans (Below.heap_setCell _ _ _ b' hb)
  exact ⟨BoxR.set2 c _ _, (e _ (by omega)).trans r0, (e _ (by omega)).trans r1, row.of (e _ (by omega)), hg⟩
theorem three_boxes (W : World) (x y : Value) :
    BoxR (((W.alloc (.cells #[x, y] 30)).alloc (.cells #[.slice none 0 0, .int .i64 0] 30)).alloc (.cells #[.bool false, .bool false, .int .u32 0] 46)) W.heap.size x y ∧
    BoxR (((W.alloc (.cells #[x, y] 30)).alloc (.cells #[.slice none 0 0, .int .i64 0] 30)).alloc (.cells #[.bool false, .bool false, .int .u32 0] 46)) (W.heap.size + 1) (.slice none 0 0) (.int .i64 0) ∧
    BoxA (((W.alloc (.cells #[x, y] 30)).alloc (.cells #[.slice none 0 0, .int .i64 0] 30)).alloc (.cells #[.bool false, .bool false, .int .u32 0] 46)) (W.heap.size + 1 + 1) 46 #[.bool false, .bool false, .int .u32 0] := by
  obtain ⟨a1, a2⟩ := two_boxes W x y (.slice none 0 0) (.int .i64 0)
  have hs : ((W.alloc (.cells #[x, y] 30)).alloc (.cells #[.slice none 0 0, .int .i64 0] 30)).heap.size = W.heap.size + 1 + 1 := by simp
  generalize (W.alloc (.cells #[x, y] 30)).alloc (.cells #[.slice none 0 0, .int .i64 0] 30) = V at *
  have e := fun b (hb : b < V.heap.size) => ((Below.refl V.heap.size V).alloc (Nat.le_refl _) (.cells #[.bool false, .bool false, .int .u32 0] 46)).block b hb
  refine ⟨(e _ (by omega)).trans a1, (e _ (by omega)).trans a2, ?_⟩
  rw [← hs]
  exact BoxA.new V _ _
theorem results_two {fn : Func} {t u : Tmp} (h : fn.results = #[.cell t 30, .cell u 46]) (tmps : Array Value) {w : World} {b b' g n cap : Nat} {hd : Int} {x y : Bool} {o : Int} (hq : tmps.getD t undef = .pointer (some ⟨b, 0, none⟩)) (hu : tmps.getD u undef = .pointer (some ⟨b', 0, none⟩)) (hc : BoxR w b (.slice (some ⟨g, 0, none⟩) n cap) (.int .i64 hd)) (hc' : BoxA w b' 46 #[.bool x, .bool y, .int .u32 o]) :
    (results fn tmps).run Try.prog w = .ok (.tuple #[rv g n cap hd, turn x y o]) w := by
  have hl := load_rv hc
  have hl' := load_turn hc'
  generalize rv g n cap hd = V at *
  generalize turn x y o = V' at *
  unfold results
  rw [h]
  rw [Array.getD_eq_getD_getElem?] at hq hu
  simp [hq, hu, hl, hl', asAddr]
/-- both results are stored -/
theorem Us.done {fn : Func} {t u : Tmp} (hf : fn.results = #[.cell t 30, .cell u 46]) {a : Act} {W w : World} {cb g n cap : Nat} {l : List Pl} {h : Int} (H : Us w cb g n cap l h) (hB : Below W.heap.size W w) (hcb : W.heap.size = cb) {R : Ending → World → Prop} {x y : Bool} {o : Int}
    (hq : a.tmps.getD t undef = .pointer (some ⟨cb + 1, 0, none⟩)) (hu : a.tmps.getD u undef = .pointer (some ⟨cb + 1 + 1, 0, none⟩)) (hd : a.defers = [])
    (hR : ∀ w', Rw w' g l → W.heap.size ≤ g → Below W.heap.size W w' → R (.returned (.tuple #[rv g n cap h, turn x y o])) w') :
    bodyPost Try.prog fn R .ret a (((((w.setCell ⟨cb + 1, 0, none⟩ (.slice (some ⟨g, 0, none⟩) n cap)).setCell ⟨cb + 1, 1, none⟩ (.int .i64 h)).setCell ⟨cb + 1 + 1, 0, none⟩ (.bool x)).setCell ⟨cb + 1 + 1, 1, none⟩ (.bool y)).setCell ⟨cb + 1 + 1, 2, none⟩ (.int .u32 o)) := by
  have hg := H.hg
  have e1 : ∀ b, b ≠ cb + 1 → ((w.setCell ⟨cb + 1, 0, none⟩ (.slice (some ⟨g, 0, none⟩) n cap)).setCell ⟨cb + 1, 1, none⟩ (.int .i64 h)).heap[b]? = w.heap[b]? := fun b hb => (Below.heap_setCell _ _ _ b hb).trans (Below.heap_setCell _ _ _ b hb)
  have B1 := (hB.setCell (p := ⟨cb + 1, 0, none⟩) (by show W.heap.size ≤ cb + 1; omega) (.slice (some ⟨g, 0, none⟩) n cap)).setCell (p := ⟨cb + 1, 1, none⟩) (by show W.heap.size ≤ cb + 1; omega) (.int .i64 h)
  have q1 : BoxR ((w.setCell ⟨cb + 1, 0, none⟩ (.slice (some ⟨g, 0, none⟩) n cap)).setCell ⟨cb + 1, 1, none⟩ (.int .i64 h)) (cb + 1) _ _ := BoxR.set2 H.r0 _ _
  have q2 := (e1 (cb + 1 + 1) (by omega)).trans H.r1
  have q3 := H.row.of (e1 g (by omega))
  generalize (w.setCell ⟨cb + 1, 0, none⟩ (.slice (some ⟨g, 0, none⟩) n cap)).setCell ⟨cb + 1, 1, none⟩ (.int .i64 h) = v at *
  have e2 : ∀ b, b ≠ cb + 1 + 1 → (((v.setCell ⟨cb + 1 + 1, 0, none⟩ (.bool x)).setCell ⟨cb + 1 + 1, 1, none⟩ (.bool y)).setCell ⟨cb + 1 + 1, 2, none⟩ (.int .u32 o)).heap[b]? = v.heap[b]? := fun b hb =>
    (Below.heap_setCell _ _ _ b hb).trans ((Below.heap_setCell _ _ _ b hb).trans (Below.heap_setCell _ _ _ b hb))
  have B2 := ((B1.setCell (p := ⟨cb + 1 + 1, 0, none⟩) (by show W.heap.size ≤ cb + 1 + 1; omega) (.bool x)).setCell (p := ⟨cb + 1 + 1, 1, none⟩) (by show W.heap.size ≤ cb + 1 + 1; omega) (.bool y)).setCell (p := ⟨cb + 1 + 1, 2, none⟩) (by show W.heap.size ≤ cb + 1 + 1; omega) (.int .u32 o)
  exact bodyPost_ret (results_two hf _ hq hu ((e2 _ (by omega)).trans q1) (BoxA.set3 q2 _ _ _)) hd (hR _ (q3.of (e2 _ (by omega))) (by omega) B2)
/-- no hole before j -/
def FullTo (l : List Pl) (j : Nat) : Prop := ∀ i, i < j → ∀ p, l[i]? = some p → p.f = true
theorem FullTo.zero (l : List Pl) : FullTo l 0 := fun i hi => by omega
theorem FullTo.succ {l : List Pl} {j : Nat} (h : FullTo l j) {p : Pl} (hp : l[j]? = some p) (hh : p.f = true) : FullTo l (j + 1) := fun i hi p' hp' => by
  rcases Nat.lt_or_ge i j with h1 | h1
  · exact h i h1 p' hp'
  · obtain rfl : i = j := by omega
    rw [hp] at hp'; cases hp'; exact hh
theorem FullTo.hole_ {l : List Pl} {j : Nat} (h : FullTo l j) {p : Pl} (hp : l[j]? = some p) (hh : p.f = false) : hole l = some j := by
  obtain ⟨hj, he⟩ := List.getElem?_eq_some_iff.1 hp
  unfold hole
  rw [List.findIdx?_eq_some_iff_getElem]
  refine ⟨hj, by rw [he, hh]; rfl, fun i hi => ?_⟩
  have := h i hi _ (List.getElem?_eq_getElem (by omega))
  simp [this]
theorem FullTo.none_ {l : List Pl} (h : FullTo l l.length) : hole l = none := by
  unfold hole
  rw [List.findIdx?_eq_none_iff]
  intro p hp
  obtain ⟨i, hi, rfl⟩ := List.getElem_of_mem hp
  rw [h i hi _ (List.getElem?_eq_getElem hi)]; rfl
set_option maxHeartbeats 4000000 in
set_option maxRecDepth 100000 in
theorem ruse_any {W : World} {q cap : Nat} {l : List Pl} (H : Rw W q l) (h1 : 1 ≤ l.length) (h2 : l.length ≤ 1024) {h : Nat} (hh : h < l.length) (k : Int) :
    Calls Try.prog 18 #[rv q l.length cap (h : Int), .int .u32 k] W fun e w' => ∃ g cap', e = .returned (.tuple #[rv g l.length cap' ((useL l h k).2.1 : Int), turn (useL l h k).2.2.1 (useL l h k).2.2.2.1 (useL l h k).2.2.2.2]) ∧ Rw w' g (useL l h k).1 ∧ W.heap.size ≤ g ∧ Below W.heap.size W w' := by
  have HCP := Lib.hid (fun w' (hb : Below W.heap.size W w') => rcopy_any (cap := cap) (H.of (hb.block q H.lt)) h1 h2 (h : Int))
  have HAT := Lib.hid (fun w' g cap' (hr : Rw w' g l) => rat_any (cap := cap') hr h2 (h : Int) k)
  clear H
  obtain ⟨n, hn⟩ : ∃ n, l.length = n := ⟨_, rfl⟩
  rw [hn] at h1 h2 hh HCP HAT ⊢
  have HN := Lib.hid hn
  clear hn
  go_enter Try.func18, Try.ntmps18
  go_wp2_with fail
  refine (HCP.out _ (by go_grown)).mono ?_
  rintro e w1 ⟨g, cap', rfl, hRw, hg, b1⟩
  rename_i A1 HA1 A2 HA2
  have HH := Lib.hid HA1
  clear HA1
  obtain ⟨x1, x2, x3⟩ := three_boxes W (.slice (some ⟨q, 0, none⟩) n cap) (.int .i64 (h : Int))
  have hs3 : (((W.alloc (.cells #[.slice (some ⟨q, 0, none⟩) n cap, .int .i64 (h : Int)] 30)).alloc (.cells #[.slice none 0 0, .int .i64 0] 30)).alloc (.cells #[.bool false, .bool false, .int .u32 0] 46)).heap.size = W.heap.size + 3 := by simp
  have bW : Below W.heap.size W (((W.alloc (.cells #[.slice (some ⟨q, 0, none⟩) n cap, .int .i64 (h : Int)] 30)).alloc (.cells #[.slice none 0 0, .int .i64 0] 30)).alloc (.cells #[.bool false, .bool false, .int .u32 0] 46)) := by go_grown
  generalize (((W.alloc (.cells #[.slice (some ⟨q, 0, none⟩) n cap, .int .i64 (h : Int)] 30)).alloc (.cells #[.slice none 0 0, .int .i64 0] 30)).alloc (.cells #[.bool false, .bool false, .int .u32 0] 46)) = V at *
  have X1 : BoxR w1 W.heap.size _ _ := (b1.block _ (by omega)).trans x1
  have X2 : BoxR w1 (W.heap.size + 1) _ _ := (b1.block _ (by omega)).trans x2
  have X3 : BoxA w1 (W.heap.size + 1 + 1) _ _ := (b1.block _ (by omega)).trans x3
  obtain ⟨c0, c1, cf⟩ := X1.all
  have HU := Lib.hid (Us.start (cap' := cap') (h := (h : Int)) X1 X2 X3 hRw (by omega))
  have HB := Lib.hid (((tr bW b1).setCell (p := ⟨W.heap.size, 0, none⟩) (Nat.le_refl _) (.slice (some ⟨g, 0, none⟩) n cap')).setCell (p := ⟨W.heap.size, 1, none⟩) (Nat.le_refl _) (.int .i64 (h : Int)))
  clear x1 x2 x3 X1 X2 X3 hRw b1 bW hs3
  go_wp2_with fail
  generalize (w1.setCell ⟨W.heap.size, 0, none⟩ (.slice (some ⟨g, 0, none⟩) n cap')).setCell ⟨W.heap.size, 1, none⟩ (.int .i64 (h : Int)) = w2 at *
  obtain ⟨c0, c1, cf⟩ := HU.out.c.all
  refine HH.out _ _ ?_
  clear HH
  go_wp2_with fail
  refine (HAT.out _ _ _ HU.out.row).mono ?_
  rintro e w3 ⟨rfl, b3⟩
  have HU3 := Lib.hid (HU.out.below b3)
  have HB3 := Lib.hid (tr HB.out b3)
  clear b3 c0 c1 cf HU HB HAT HCP
  obtain ⟨c0, c1, cf⟩ := HU3.out.c.all
  cases hf : find l k with
  | some i =>
    have hat : atL l k = (i : Int) := by unfold atL; rw [hf]
    have hu : useL l h k = (l.set i ⟨k, true, true⟩, h, true, false, 0) := by unfold useL; rw [hf]
    obtain ⟨p, hp, pf, pk⟩ := find_at hf
    obtain ⟨e0, e1, e2, ef⟩ := HU3.out.row.at_ hp
    obtain ⟨s0, s1, sf⟩ := HU3.out.r0.all
    obtain ⟨t0, t1, t2, tf⟩ := BoxA.three HU3.out.r1
    have HM := Lib.hid (HU3.out.mark hp true)
    have hi := (List.getElem?_eq_some_iff.1 hp).1
    have hlt : (i : Int) < (n : Int) := by have := HN.out; omega
    have hlo : (0 : Int) ≤ (i : Int) := by omega
    have hgg := HU3.out.hg
    have n1 : ¬ g = W.heap.size := by omega
    have n2 : ¬ g = W.heap.size + 1 := by omega
    have n3 : ¬ g = W.heap.size + 1 + 1 := by omega
    have n1' : ¬ W.heap.size = g := by omega
    have n2' : ¬ W.heap.size + 1 = g := by omega
    have n3' : ¬ W.heap.size + 1 + 1 = g := by omega
    rw [hat]
    rw [pf, pk] at HM
    have HUU := Lib.hid hu
    clear hf hat hp pf pk hi hgg hu
    go_wp2_with fail
    rw [HUU.out]
    have hgg := HU3.out.hg
    exact Us.done rfl HM.out (HB3.out.setCell (p := ⟨g, i * 3 + 2, none⟩) (by show W.heap.size ≤ g; omega) _) rfl rfl rfl rfl (fun w' q1 q2 q3 => ⟨g, cap', rfl, q1, q2, q3⟩)
  | none =>
    have hat : atL l k = -1 := by unfold atL; rw [hf]
    rw [hat]
    have HF := Lib.hid hf
    clear hf hat
    go_wp2_with fail
    clear c0 c1 cf
    go_loopw [7] (fun v wr => ∃ j : Nat, j ≤ n ∧ v = .int .i64 j ∧ FullTo l j ∧ Below w3.heap.size w3 wr) (fun v _ => n - (intOf v).toNat)
    case atStart => exact ⟨0, by omega, rfl, FullTo.zero l, Below.refl _ _⟩
    case round =>
      obtain ⟨j, hj, rfl, hFT, bR⟩ := hrel
      have HU4 := Lib.hid (HU3.out.below bR)
      have HB4 := Lib.hid (tr HB3.out bR)
      have HFT := Lib.hid hFT
      have HBR := Lib.hid bR
      clear bR hFT
      obtain ⟨c0, c1, cf⟩ := HU4.out.c.all
      by_cases hjn : j < n
      · obtain ⟨p, hp⟩ : ∃ p, l[j]? = some p := ⟨_, List.getElem?_eq_getElem (by rw [HN.out]; exact hjn)⟩
        obtain ⟨e0, e1, e2, ef⟩ := HU4.out.row.at_ hp
        have hlt : (j : Int) < (n : Int) := by omega
        have hlo : (0 : Int) ≤ (j : Int) := by omega
        cases hpf : p.f with
        | true =>
          rw [hpf] at e1
          have HF2 := Lib.hid (HFT.out.succ hp hpf)
          clear hp hpf
          go_wp2_with fail
          go_roundw
          case rel => exact ⟨j + 1, by omega, by go_num, HF2.out, HBR.out⟩
          case measure => simp [intOf]; omega
        | false =>
          rw [hpf] at e1
          have HUU := Lib.hid (show useL l h k = (l.set j ⟨k, true, false⟩, h, false, false, 0) from by
            unfold useL; rw [HF.out]; simp only; rw [HFT.out.hole_ hp hpf])
          obtain ⟨s0, s1, sf⟩ := HU4.out.r0.all
          obtain ⟨t0, t1, t2, tf⟩ := BoxA.three HU4.out.r1
          have HM := Lib.hid (HU4.out.put (List.getElem?_eq_some_iff.1 hp).1 ⟨k, true, false⟩)
          have hgg := HU4.out.hg
          have n1 : ¬ g = W.heap.size := by omega
          have n2 : ¬ g = W.heap.size + 1 := by omega
          have n3 : ¬ g = W.heap.size + 1 + 1 := by omega
          have n1' : ¬ W.heap.size = g := by omega
          have n2' : ¬ W.heap.size + 1 = g := by omega
          have n3' : ¬ W.heap.size + 1 + 1 = g := by omega
          clear hp hpf hgg
          go_wp2_with fail
          rw [HUU.out]
          have hgg := HU4.out.hg
          exact Us.done rfl HM.out (((HB4.out.setCell (p := ⟨g, j * 3, none⟩) (by show W.heap.size ≤ g; omega) _).setCell (p := ⟨g, j * 3 + 1, none⟩) (by show W.heap.size ≤ g; omega) _).setCell (p := ⟨g, j * 3 + 2, none⟩) (by show W.heap.size ≤ g; omega) _) rfl rfl rfl rfl (fun w' q1 q2 q3 => ⟨g, ⟨cap', rfl⟩, q1, q2, q3⟩)
      · obtain rfl : j = n := by omega
        have HHN := Lib.hid (show hole l = none from FullTo.none_ (by rw [HN.out]; exact HFT.out))
        go_wp2_with fail
        go_loopg [] (marks l) (fun gk wr => ∃ (l1 : List Pl) (h1 : Nat), gk = marks l1 ∧ Us wr W.heap.size g j cap' l1 (h1 : Int) ∧ h1 < j ∧ l1.length = j ∧ sweep (marks l1) l1 h1 = sweep (marks l) l h ∧ Below W.heap.size W wr)
        case atStart => exact ⟨l, h, rfl, HU4.out, hh, HN.out, rfl, HB4.out⟩
        case round =>
          obtain ⟨l1, h1', rfl, hU, hlt0, hL, hSw, hB⟩ := hrel
          obtain ⟨p, hp⟩ : ∃ p, l1[h1']? = some p := ⟨_, List.getElem?_eq_getElem (by omega)⟩
          have HU5 := Lib.hid hU
          have HB5 := Lib.hid hB
          have HP := Lib.hid hp
          have HSW := Lib.hid hSw
          have HL := Lib.hid hL
          clear hU hB hp hSw hL c0 c1 cf
          obtain ⟨c0, c1, cf⟩ := HU5.out.c.all
          obtain ⟨e0, e1, e2, ef⟩ := HU5.out.row.at_ HP.out
          have hgg := HU5.out.hg
          have n1 : ¬ g = W.heap.size := by omega
          have n2 : ¬ g = W.heap.size + 1 := by omega
          have n3 : ¬ g = W.heap.size + 1 + 1 := by omega
          have n1' : ¬ W.heap.size = g := by omega
          have n2' : ¬ W.heap.size + 1 = g := by omega
          have n3' : ¬ W.heap.size + 1 + 1 = g := by omega
          have hlt : (h1' : Int) < (j : Int) := by omega
          have hlo : (0 : Int) ≤ (h1' : Int) := by omega
          obtain ⟨x, hx⟩ : ∃ x, (h1' + 1) % j = x := ⟨_, rfl⟩
          have hxl : x < j := by rw [← hx]; exact Nat.mod_lt _ (by omega)
          have td : ((h1' : Int) + 1).tmod j = (x : Int) := by
            rw [Int.tmod_eq_emod_of_nonneg (by omega), ← hx, Int.natCast_emod]; rfl
          have wd1 := IntWalk.i64_in ((h1' : Int) + 1) (by omega)
          have wd2 := IntWalk.i64_in (x : Int) (by omega)
          have hn0 : ¬ (j : Int) = 0 := by omega
          have hn1 : ((j : Int) == 0) = false := by rw [beq_eq_false_iff_ne]; omega
          have hn2 : (0 : Int) < (j : Int) := by omega
          have HX := Lib.hid hx
          clear hx hgg
          cases hm : p.m with
          | true =>
            rw [hm] at e2
            have HM := Lib.hid ((HU5.out.mark HP.out false).hand (x : Int))
            go_wp2_with fail
            go_roundg (marks (l1.set h1' ⟨p.k, p.f, false⟩))
            case measure => have := marks_set HP.out hm; omega
            case rel => exact ⟨_, x, rfl, HM.out, hxl, by rw [List.length_set, HL.out], by rw [← HSW.out, sweep_step HP.out hm, HL.out, HX.out], (HB5.out.setCell (p := ⟨g, h1' * 3 + 2, none⟩) (by show W.heap.size ≤ g; have := HU5.out.hg; omega) _).setCell (p := ⟨W.heap.size, 1, none⟩) (Nat.le_refl _) _⟩
          | false =>
            rw [hm] at e2
            have HUU := Lib.hid (show useL l h k = (l1.set h1' ⟨k, true, false⟩, x, false, true, p.k) from by
              unfold useL; rw [HF.out]; simp only; rw [HHN.out]; simp only; rw [← HSW.out, sweep_end HP.out hm]; simp only; rw [HP.out, HN.out, HX.out])
            obtain ⟨s0, s1, sf⟩ := HU5.out.r0.all
            obtain ⟨t0, t1, t2, tf⟩ := BoxA.three HU5.out.r1
            have HM := Lib.hid ((HU5.out.put (i := h1') (by rw [HL.out]; exact hlt0) ⟨k, true, false⟩).hand (x : Int))
            go_wp2_with fail
            rw [HUU.out]
            have hgg := HU5.out.hg
            exact Us.done rfl HM.out ((((HB5.out.setCell (p := ⟨g, h1' * 3, none⟩) (by show W.heap.size ≤ g; omega) _).setCell (p := ⟨g, h1' * 3 + 1, none⟩) (by show W.heap.size ≤ g; omega) _).setCell (p := ⟨g, h1' * 3 + 2, none⟩) (by show W.heap.size ≤ g; omega) _).setCell (p := ⟨W.heap.size, 1, none⟩) (Nat.le_refl _) _) rfl rfl rfl rfl (fun w' q1 q2 q3 => ⟨g, ⟨cap', rfl⟩, q1, q2, q3⟩)
end Go.Proofs.Yteppcjolgpdenaa.Seq
