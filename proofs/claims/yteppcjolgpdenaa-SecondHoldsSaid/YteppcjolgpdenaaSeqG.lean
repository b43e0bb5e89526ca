/-
  Second chance (layer 31): Use.
-/
import Derived.Test.YteppcjolgpdenaaSeqF
import Derived.Deep.LoopGhost
import Derived.Deep.RegionHeld3
set_option linter.unusedVariables false
set_option linter.unusedSimpArgs false
namespace Go.Proofs.Yteppcjolgpdenaa.Seq
abbrev BoxA (W : World) (b : Nat) (t : TypeId) (vs : Array Value) : Prop := W.heap[b]? = some (.cells vs t (0, 0))
theorem BoxA.lt {W : World} {b : Nat} {t : TypeId} {vs : Array Value} (h : BoxA W b t vs) : b < W.heap.size := (Array.getElem?_eq_some_iff.1 h).1
theorem BoxA.new (W : World) (t : TypeId) (vs : Array Value) : BoxA (W.alloc (.cells vs t)) W.heap.size t vs := (MapKept.heap_alloc W _).1
open Go Go.RowKit Kit Go.Maps
/-- what Use leaves: the places, the hand, the turn -/
def useL (l : List Pl) (h : Nat) (k : Int) : List Pl × Nat × Bool × Bool × Int := match find l k with
  | some i => (l.set i ⟨k, true, true⟩, h, true, false, 0)
  | none => match hole l with
    | some i => (l.set i ⟨k, true, false⟩, h, false, false, 0)
    | none => ((sweep (marks l) l h).1.set (sweep (marks l) l h).2 ⟨k, true, false⟩, ((sweep (marks l) l h).2 + 1) % l.length, false, true, match (sweep (marks l) l h).1[(sweep (marks l) l h).2]? with | some p => p.k | none => 0)
theorem So.mark {W : World} {c q m cap N lo hi : Nat} {l : List Pl} {h : Nat} {D : DataW Unit} (H : So W c q m cap N lo hi l h D) {i : Nat} {p : Pl} (hp : l[i]? = some p) (b : Bool) :
    So (W.setCell ⟨q, i * 3 + 2, none⟩ (.bool b)) c q m cap N lo hi (l.set i ⟨p.k, p.f, b⟩) h D ∧ Keep lo hi W (W.setCell ⟨q, i * 3 + 2, none⟩ (.bool b)) := by
  have e : ∀ b', b' ≠ q → (W.setCell ⟨q, i * 3 + 2, none⟩ (.bool b)).heap[b']? = W.heap[b']? := fun b' hb => Below.heap_setCell _ _ _ b' hb
  have hl : (l.set i ⟨p.k, p.f, b⟩).length = l.length := List.length_set
  refine ⟨⟨?_, H.row.mark hp b, own_keep H.map (e m (Ne.symm H.d3)), H.nb, by rw [hl]; exact H.lc, H.cm, H.d1, H.d2, H.d3, H.b1, H.b2, H.b3, by rw [hl]; exact H.l1, by rw [hl]; exact H.l2, by rw [hl]; exact H.hh, fun p' hp' => ?_, by simpa using H.top⟩, (Keep.refl lo hi W).setCell H.b2.1 H.b2.2 _⟩
  · rw [hl, e c H.d1]; exact H.obj
  · rcases List.mem_or_eq_of_mem_set hp' with h1 | rfl
    · exact H.rng p' h1
    · exact H.rng p (List.mem_of_getElem? hp)
theorem So.tight_ {W : World} {c q m cap N lo hi : Nat} {l : List Pl} {h : Nat} {D : DataW Unit} (H : So W c q m cap N lo hi l h D) (M : Mp D l) : So W c q m cap (Maps.size D) lo hi l h D :=
  ⟨H.obj, H.row, tight H.map, by rw [M.size]; have := full_le l; have := H.l2; omega, H.lc, H.cm, H.d1, H.d2, H.d3, H.b1, H.b2, H.b3, H.l1, H.l2, H.hh, H.rng, H.top⟩
theorem So.keepB {W W' : World} {c q m cap N lo hi : Nat} {l : List Pl} {h : Nat} {D : DataW Unit} (H : So W c q m cap N lo hi l h D) (hb : Below W.heap.size W W') : So W' c q m cap N lo hi l h D := by
  have hc := (Array.getElem?_eq_some_iff.1 H.obj).1
  have hm : m < W.heap.size := Nat.lt_of_lt_of_le H.b3.2 H.top
  exact ⟨(hb.block c hc).trans H.obj, H.row.of (hb.block q H.row.lt), own_keep H.map (hb.block m hm), H.nb, H.lc, H.cm, H.d1, H.d2, H.d3, H.b1, H.b2, H.b3, H.l1, H.l2, H.hh, H.rng, Nat.le_trans H.top hb.size⟩
theorem So.lenM {W : World} {c q m cap N lo hi : Nat} {l : List Pl} {h : Nat} {D : DataW Unit} (H : So W c q m cap N lo hi l h D) (M : Mp D l) :
    (Builtin.len_ #[56] 3 #[.map (some m)]).run Try.prog W = .ok (.int .i64 (full l : Int)) W := by
  rw [H.map.len und_map, M.size]
theorem BoxA.three {W : World} {b : Nat} {t : TypeId} {x y z : Value} (h : BoxA W b t #[x, y, z]) : W.cell? ⟨b, 0, none⟩ = some x ∧ W.cell? ⟨b, 1, none⟩ = some y ∧ W.cell? ⟨b, 2, none⟩ = some z ∧ ∀ j, W.frozen? ⟨b, j, none⟩ = false := by
  refine ⟨?_, ?_, ?_, fun j => ?_⟩ <;> simp [World.cell?, World.frozen?, show W.heap[b]? = _ from h]
theorem BoxA.set3 {W : World} {b : Nat} {t : TypeId} {x y z : Value} (h : BoxA W b t #[x, y, z]) (x' y' z' : Value) : BoxA (((W.setCell ⟨b, 0, none⟩ x').setCell ⟨b, 1, none⟩ y').setCell ⟨b, 2, none⟩ z') b t #[x', y', z'] := by
  have h1 := heap_set (j := 2) (heap_set (j := 1) (heap_set (j := 0) h x') y') z'
  simpa using h1
abbrev turn (x y : Bool) (o : Int) : Value := .agg #[.bool x, .bool y, .int .u32 o]
theorem load_turn {w : World} {q : Nat} {x y : Bool} {o : Int} (hc : BoxA w q 46 #[.bool x, .bool y, .int .u32 o]) : (loadVar 46 ⟨q, 0, none⟩).run Try.prog w = .ok (turn x y o) w := by
  obtain ⟨c0, c1, c2, -⟩ := BoxA.three hc
  simp [go_sem, c0, c1, c2]
theorem results_turn {fn : Func} {t u : Tmp} (h : fn.results = #[.cell t 46, .tmp u]) (tmps : Array Value) {w : World} {q : Nat} {x y : Bool} {o : Int} {r : Value} (hq : tmps.getD t undef = .pointer (some ⟨q, 0, none⟩)) (hu : tmps.getD u undef = r) (hc : BoxA w q 46 #[.bool x, .bool y, .int .u32 o]) :
    (results fn tmps).run Try.prog w = .ok (.tuple #[turn x y o, r]) w := by
  have hl := load_turn hc
  generalize turn x y o = V at *
  unfold results
  rw [h]
  rw [Array.getD_eq_getD_getElem?] at hq hu
  simp [hq, hu, hl, asAddr]
theorem ret_turn {fn : Func} {t u : Tmp} (h : fn.results = #[.cell t 46, .tmp u]) {a : Act} {w : World} {R : Ending → World → Prop} {q : Nat} {x y : Bool} {o : Int} {r : Value} (hq : a.tmps.getD t undef = .pointer (some ⟨q, 0, none⟩)) (hu : a.tmps.getD u undef = r) (hc : BoxA w q 46 #[.bool x, .bool y, .int .u32 o]) (hd : a.defers = [])
    (hR : R (.returned (.tuple #[turn x y o, r])) w) : bodyPost Try.prog fn R .ret a w :=
  bodyPost_ret (results_turn h _ hq hu hc) hd hR
theorem turn_box {W V W2 : World} {c lo hi r : Nat} {l : List Pl} {h : Nat} (H : Sc W2 c lo hi l h) (hk : Keep lo hi V W2) (hW : ∀ w'', Keep lo hi V w'' → Keep lo hi W w'') (hr : hi ≤ r) (hr2 : W.heap.size ≤ r) (x y z : Value) :
    Sc (((W2.setCell ⟨r, 0, none⟩ x).setCell ⟨r, 1, none⟩ y).setCell ⟨r, 2, none⟩ z) c lo hi l h ∧ Keep lo hi W (((W2.setCell ⟨r, 0, none⟩ x).setCell ⟨r, 1, none⟩ y).setCell ⟨r, 2, none⟩ z) := by
  refine ⟨H.keep ((((Keep.refl r (r + 1) W2).setCell (Nat.le_refl r) (Nat.lt_succ_self r) x).setCell (Nat.le_refl r) (Nat.lt_succ_self r) y).setCell (Nat.le_refl r) (Nat.lt_succ_self r) z) (.inl hr), ?_⟩
  have k := hW W2 hk
  have e : ∀ b, b ≠ r → (((W2.setCell ⟨r, 0, none⟩ x).setCell ⟨r, 1, none⟩ y).setCell ⟨r, 2, none⟩ z).heap[b]? = W2.heap[b]? := fun b hb =>
    (Below.heap_setCell _ _ _ b hb).trans ((Below.heap_setCell _ _ _ b hb).trans (Below.heap_setCell _ _ _ b hb))
  exact ⟨k.os, k.tape, k.output, by simpa using k.size, fun b hb hne => (e b (by omega)).trans (k.block b hb hne)⟩
theorem full_all {l : List Pl} (h : full l = l.length) {i : Nat} {p : Pl} (hp : l[i]? = some p) : p.f = true :=
  List.countP_eq_length.1 h p (List.mem_of_getElem? hp)
theorem at_blank {l : List Pl} {h : Nat} {k : Int} {j : Nat} (hj : At (l.set h ⟨0, false, false⟩) k j) : At l k j := by
  obtain ⟨p, h1, h2, h3⟩ := hj
  rw [List.getElem?_set] at h1
  split at h1
  · split at h1
    · cases h1; cases h2
    · cases h1
  · exact ⟨p, h1, h2, h3⟩
set_option maxRecDepth 100000 in
set_option maxHeartbeats 1000000 in
theorem use_any {W : World} {c lo hi : Nat} {l : List Pl} {h : Nat} (H0 : Sc W c lo hi l h) {k : Int} (k0 : 0 ≤ k) (k1 : k < 4294967296) :
    Calls Try.prog 12 #[.pointer (some ⟨c, 0, none⟩), .int .u32 k] W fun e w' => e = .returned (.tuple #[.agg #[.bool (useL l h k).2.2.1, .bool (useL l h k).2.2.2.1, .int .u32 (useL l h k).2.2.2.2], .int .i64 0]) ∧ Sc w' c lo hi (useL l h k).1 (useL l h k).2.1 ∧ Keep lo hi W w' := by
  obtain ⟨V, hV⟩ : ∃ V, W.alloc (.cells #[.bool false, .bool false, .int .u32 0] 46) = V := ⟨_, rfl⟩
  have bV : Below W.heap.size W V := by rw [← hV]; go_grown
  have X0 : BoxA V W.heap.size 46 #[.bool false, .bool false, .int .u32 0] := by rw [← hV]; exact BoxA.new _ _ _
  have hHi := H0.top
  have HXK := Lib.hid (fun w' (hk : Keep lo hi V w') => (show BoxA w' W.heap.size 46 #[.bool false, .bool false, .int .u32 0] from (hk.block W.heap.size X0.lt (.inr hHi)).trans X0))
  replace H0 := H0.below bV
  have HVW := Lib.hid (show ∀ w', Keep lo hi V w' → Keep lo hi W w' from fun w' h => (Keep.of bV).trans h)
  have HV := Lib.hid hV
  have HSX := Lib.hid (fun w' (hk : Keep lo hi V w') l h (hs : Sc w' c lo hi l h) x y z => turn_box hs hk (fun w'' h => (Keep.of bV).trans h) hHi (Nat.le_refl W.heap.size) x y z)
  clear hHi bV X0 hV
  have HZ := Lib.hid H0.zero
  obtain ⟨q, m, cap, N, D, H, M⟩ := H0.so
  obtain ⟨c0, c1, c2, cf⟩ := H.cs
  have hwf := wf32 k0 k1
  obtain ⟨v, hlk, hv⟩ := look_map H.map M k hwf
  have K := Maps.int_keyed (P := Try.prog) und_u32
  have hT := H.map.tidy K
  cases hf : find l k with
  | some i =>
    have hu : useL l h k = (l.set i ⟨k, true, true⟩, h, true, false, 0) := by unfold useL; rw [hf]
    rw [hu]
    have hA := find_at hf
    have hi' := hA.lt
    obtain ⟨p0, hp0, pf, pk⟩ := hA
    rw [hf] at hlk
    obtain rfl := hv i hf
    obtain ⟨e0, e1, e2, ef⟩ := H.row.at_ hp0
    obtain ⟨H2, K2⟩ := H.mark hp0 true
    have hS := Lib.hid (show Sc _ c lo hi (l.set i ⟨k, true, true⟩) h from by
      have h1 := H2.sc (M.same (at_mark hp0 true) (full_mark hp0 true))
      rw [pf, pk] at h1
      exact h1)
    have K2' := Lib.hid K2
    obtain ⟨r0, r1, r2, rf⟩ := BoxA.three (HXK.out _ K2)
    have hE := HSX.out _ K2 _ _ hS.out
    have hE := Lib.hid hE
    have h2 := H.l2
    have hlt : (i : Int) < (l.length : Int) := by omega
    have hlo : (0 : Int) ≤ (i : Int) := by omega
    clear H H0 M hv hf H2 K2 hi' hp0 pf pk hu hT
    generalize l.length = n at *
    go_enter Try.func12, Try.ntmps12
    go_wp2_with fail
    rw [HV.out]
    refine HZ.out.mono ?_
    rintro e w1 ⟨rfl, rfl⟩
    go_wp2_with fail
    exact ret_turn rfl rfl rfl (BoxA.set3 (HXK.out _ K2'.out) _ _ _) rfl ⟨rfl, hE.out _ _ _⟩
  | none =>
    rw [hf] at hlk
    cases hh : hole l with
    | some i =>
      have hu : useL l h k = (l.set i ⟨k, true, false⟩, h, false, false, 0) := by unfold useL; rw [hf]; simp only; rw [hh]
      rw [hu]
      have hfull := hole_full hh
      have HS := Lib.hid (show ∀ w', Below V.heap.size V w' → (w'.cell? ⟨c, 0, none⟩ = some (.slice (some ⟨q, 0, none⟩) l.length cap) ∧ w'.cell? ⟨c, 2, none⟩ = some (.map (some m)) ∧ (Builtin.len_ #[56] 3 #[.map (some m)]).run Try.prog w' = .ok (.int .i64 (full l : Int)) w' ∧ Below V.heap.size V w') from by
        intro w' hb
        obtain ⟨x0, x1, x2, -⟩ := (H.keepB hb).cs
        exact ⟨x0, x2, (H.keepB hb).lenM M, hb⟩)
      have hI := Lib.hid (fun w (hb : Below V.heap.size V w) => index_any (w := w) (cap := cap) (H.row.of (hb.block q H.row.lt)) hh H.l2)
      obtain ⟨p0, hp0, pf⟩ := hole_some hh
      have hi' := (List.getElem?_eq_some_iff.1 hp0).1
      have HP := Lib.hid (fun w (hb : Below V.heap.size V w) => put_any (N := Maps.size D) ((H.tight_ M).keepB hb) hi' k0 k1 (by rw [M.size]; have := full_le l; have := H.l2; omega))
      have HM := Lib.hid (M.put hT hp0 pf hwf (find_none hf) false)
      have hlt : (full l : Int) < (l.length : Int) := by omega
      have HX := Lib.hid H
      clear H H0 M hv hf hh hp0 pf hT hu hfull hi'
      go_enter Try.func12, Try.ntmps12
      go_wp2_with fail
      rw [HV.out]
      refine HZ.out.mono ?_
      rintro e w1 ⟨rfl, rfl⟩
      go_wp2_with fail
      clear hlk
      go_region_held3 (fun w' => w'.cell? ⟨c, 0, none⟩ = some (.slice (some ⟨q, 0, none⟩) l.length cap) ∧ w'.cell? ⟨c, 2, none⟩ = some (.map (some m)) ∧ (Builtin.len_ #[56] 3 #[.map (some m)]).run Try.prog w' = .ok (.int .i64 (full l : Int)) w' ∧ Below V.heap.size V w')
        (first
          | (exact HS.out _ (Below.drew (Below.refl _ _)))
          | assumption
          | fail)
        (first | fail)
      have bd : Below V.heap.size V V.drew := Below.drew (Below.refl _ _)
      obtain ⟨d0, d2, dl, -⟩ := HS.out _ bd
      have BD := Lib.hid bd
      clear bd c0 c1 c2 HS
      generalize V.drew = V1 at *
      go_wp2_with fail
      refine (hI.out _ BD.out).mono ?_
      rintro e w3 ⟨rfl, b3⟩
      have B3 := Lib.hid (tr BD.out b3)
      clear b3
      go_wp2_with fail
      refine (HP.out _ B3.out).mono ?_
      rintro e w4 ⟨rfl, hs4, hk4⟩
      have K4 := (Keep.of (lo := lo) (hi := hi) B3.out).trans hk4
      have hE := Lib.hid (HSX.out _ K4 _ _ (hs4.sc HM.out))
      have hX := Lib.hid (HXK.out _ K4)
      obtain ⟨r0, r1, r2, rf⟩ := BoxA.three hX.out
      clear hs4 hk4 K4
      go_wp2_with fail
      exact ret_turn rfl rfl rfl (BoxA.set3 hX.out _ _ _) rfl ⟨rfl, hE.out _ _ _⟩
    | none =>
      have hfl := hole_none hh
      have HFL := Lib.hid hfl
      have HU := Lib.hid (fun l1 h1 (p : Pl) (hs : sweep (marks l) l h = (l1, h1)) (hp : l1[h1]? = some p) => (show useL l h k = (l1.set h1 ⟨k, true, false⟩, (h1 + 1) % l.length, false, true, p.k) from by
        unfold useL; rw [hf]; simp only; rw [hh]; simp only; rw [hs]; simp only; rw [hp]))
      have HS := Lib.hid (show ∀ w', Below V.heap.size V w' → (w'.cell? ⟨c, 0, none⟩ = some (.slice (some ⟨q, 0, none⟩) l.length cap) ∧ w'.cell? ⟨c, 2, none⟩ = some (.map (some m)) ∧ (Builtin.len_ #[56] 3 #[.map (some m)]).run Try.prog w' = .ok (.int .i64 (l.length : Int)) w' ∧ Below V.heap.size V w') from by
        intro w' hb
        obtain ⟨x0, x1, x2, -⟩ := (H.keepB hb).cs
        have x3 := (H.keepB hb).lenM M
        rw [hfl] at x3
        exact ⟨x0, x2, x3, hb⟩)
      have hlt : ¬ (l.length : Int) < (l.length : Int) := by omega
      have HX := Lib.hid (fun w' hb => (H.tight_ M).keepB (W' := w') hb)
      have HSZ := M.size
      have HNF := Lib.hid (find_none hf)
      have HM := Lib.hid M
      have HT := Lib.hid hT
      clear H H0 M hv hf hh hT
      go_enter Try.func12, Try.ntmps12
      go_wp2_with fail
      rw [HV.out]
      refine HZ.out.mono ?_
      rintro e w1 ⟨rfl, rfl⟩
      go_wp2_with fail
      clear hlk
      go_region_held3 (fun w' => w'.cell? ⟨c, 0, none⟩ = some (.slice (some ⟨q, 0, none⟩) l.length cap) ∧ w'.cell? ⟨c, 2, none⟩ = some (.map (some m)) ∧ (Builtin.len_ #[56] 3 #[.map (some m)]).run Try.prog w' = .ok (.int .i64 (l.length : Int)) w' ∧ Below V.heap.size V w')
        (first
          | (exact HS.out _ (Below.drew (Below.refl _ _)))
          | assumption
          | fail)
        (first | fail)
      have bd : Below V.heap.size V V.drew := Below.drew (Below.refl _ _)
      have hX0 := HX.out _ bd
      have hK0 := Keep.of (lo := lo) (hi := hi) bd
      clear bd c0 c1 c2 HS HX
      generalize V.drew = V1 at *
      go_wp2_with fail
      go_loopg [] (marks l) (fun g wr => ∃ (l1 : List Pl) (h1 : Nat), g = marks l1 ∧ So wr c q m cap (Maps.size D) lo hi l1 h1 D ∧ (∀ k i, At l1 k i ↔ At l k i) ∧ full l1 = full l ∧ sweep (marks l1) l1 h1 = sweep (marks l) l h ∧ l1.length = l.length ∧ Keep lo hi V wr)
      case atStart => exact ⟨l, h, rfl, hX0, fun _ _ => Iff.rfl, rfl, rfl, rfl, hK0⟩
      case round =>
        obtain ⟨l1, h1, rfl, hS, hA, hF, hSw, hL, hK⟩ := hrel
        obtain ⟨p, hp⟩ : ∃ p, l1[h1]? = some p := ⟨_, List.getElem?_eq_getElem hS.hh⟩
        obtain ⟨c0, c1, c2, cf⟩ := hS.cs
        obtain ⟨e0, e1, e2, ef⟩ := hS.row.at_ hp
        have h2 := hS.l2
        have hhh := hS.hh
        have g0 : (0 : Int) ≤ (h1 : Int) := by omega
        have g1 : (h1 : Int) < (l1.length : Int) := by omega
        have HS := Lib.hid hS
        have HK := Lib.hid hK
        have HP := Lib.hid hp
        have HSW := Lib.hid hSw
        have HF := Lib.hid hF
        have HL := Lib.hid hL
        have HC := Lib.hid (show ∀ w', Below wr.heap.size wr w' → (w'.cell? ⟨c, 0, none⟩ = some (.slice (some ⟨q, 0, none⟩) l1.length cap) ∧ w'.cell? ⟨c, 1, none⟩ = some (.int .i64 (h1 : Int)) ∧ w'.cell? ⟨q, h1 * 3 + 2, none⟩ = some (.bool p.m) ∧ Below wr.heap.size wr w') from by
          intro w' hb
          obtain ⟨x0, x1, x2, -⟩ := (hS.keepB hb).cs
          obtain ⟨y0, y1, y2, -⟩ := (hS.keepB hb).row.at_ hp
          exact ⟨x0, x1, y2, hb⟩)
        clear hS hK hp hSw hF hhh hL
        generalize hn : l1.length = n at *
        have HN := Lib.hid hn
        clear hn
        cases hm : p.m with
        | true =>
          rw [hm] at e2 HC
          go_wp2_with fail
          go_region_held3 (fun w' => w'.cell? ⟨c, 0, none⟩ = some (.slice (some ⟨q, 0, none⟩) n cap) ∧ w'.cell? ⟨c, 1, none⟩ = some (.int .i64 (h1 : Int)) ∧ w'.cell? ⟨q, h1 * 3 + 2, none⟩ = some (.bool true) ∧ Below wr.heap.size wr w')
            (first
              | (exact HC.out _ (Below.drew (Below.refl _ _)))
              | assumption
              | fail)
            (first | fail)
          have bd : Below wr.heap.size wr wr.drew := Below.drew (Below.refl _ _)
          have HS2 := Lib.hid (HS.out.keepB bd)
          have HK2 := Lib.hid (HK.out.tr bd)
          clear c0 c1 c2 cf e0 e1 e2 ef bd HS HK
          generalize wr.drew = wx at *
          obtain ⟨c0, c1, c2, cf⟩ := HS2.out.cs
          obtain ⟨e0, e1, e2, ef⟩ := HS2.out.row.at_ HP.out
          rw [HN.out] at c0
          have HB := Lib.hid (HS2.out.mark HP.out false)
          rw [hm] at e2
          go_wp2_with fail
          go_region_with fail
          all_goals
            have hAd := Lib.hid (advance_to (x := (h1 + 1) % l1.length) HB.out.1.drew (by rw [List.length_set]))
            go_wp2_with fail
            refine hAd.out.mono ?_
            rintro e w5 ⟨rfl, s5, k5⟩
            have S5 := Lib.hid s5
            have K5 := Lib.hid (((HK2.out.trans HB.out.2).tr (Below.drew (Below.refl _ _))).trans k5)
            clear s5 k5 hAd
            go_wp2_with fail
            go_roundg (marks (l1.set h1 ⟨p.k, p.f, false⟩))
            case measure => have := marks_set HP.out hm; omega
            case rel => exact ⟨_, _, rfl, S5.out, fun k i => (at_mark HP.out false k i).trans (hA k i), (full_mark HP.out false).trans HF.out, (sweep_step HP.out hm).symm.trans HSW.out, by rw [List.length_set, HN.out, HL.out], K5.out⟩
        | false =>
          rw [hm] at e2 HC
          have hU := HU.out l1 h1 p (by rw [← HSW.out]; exact sweep_end HP.out hm _) HP.out
          go_wp2_with fail
          go_region_held3 (fun w' => w'.cell? ⟨c, 0, none⟩ = some (.slice (some ⟨q, 0, none⟩) n cap) ∧ w'.cell? ⟨c, 1, none⟩ = some (.int .i64 (h1 : Int)) ∧ w'.cell? ⟨q, h1 * 3 + 2, none⟩ = some (.bool false) ∧ Below wr.heap.size wr w')
            (first
              | (exact HC.out _ (Below.drew (Below.refl _ _)))
              | assumption
              | fail)
            (first | fail)
          have bd : Below wr.heap.size wr wr.drew := Below.drew (Below.refl _ _)
          have HS2 := Lib.hid (HS.out.keepB bd)
          have HK2 := Lib.hid (HK.out.tr bd)
          clear c0 c1 c2 cf e0 e1 e2 ef bd HS HK
          generalize wr.drew = wx at *
          obtain ⟨c0, c1, c2, cf⟩ := HS2.out.cs
          obtain ⟨e0, e1, e2, ef⟩ := HS2.out.row.at_ HP.out
          rw [HN.out] at c0
          have HC2 := Lib.hid (show ∀ w', Below wx.heap.size wx w' → (w'.cell? ⟨c, 0, none⟩ = some (.slice (some ⟨q, 0, none⟩) n cap) ∧ w'.cell? ⟨c, 1, none⟩ = some (.int .i64 (h1 : Int)) ∧ w'.cell? ⟨q, h1 * 3, none⟩ = some (.int .u32 p.k) ∧ Below wx.heap.size wx w') from by
            intro w' hb
            obtain ⟨x0, x1, x2, -⟩ := (HS2.out.keepB hb).cs
            obtain ⟨y0, y1, y2, -⟩ := (HS2.out.keepB hb).row.at_ HP.out
            rw [HN.out] at x0
            exact ⟨x0, x1, y0, hb⟩)
          go_wp2_with fail
          go_region_held3 (fun w' => w'.cell? ⟨c, 0, none⟩ = some (.slice (some ⟨q, 0, none⟩) n cap) ∧ w'.cell? ⟨c, 1, none⟩ = some (.int .i64 (h1 : Int)) ∧ w'.cell? ⟨q, h1 * 3, none⟩ = some (.int .u32 p.k) ∧ Below wx.heap.size wx w')
            (first
              | (exact HC2.out _ (Below.drew (Below.refl _ _)))
              | assumption
              | fail)
            (first | fail)
          have bd : Below wx.heap.size wx wx.drew := Below.drew (Below.refl _ _)
          have HS3 := Lib.hid (HS2.out.keepB bd)
          have HK3 := Lib.hid (HK2.out.tr bd)
          clear c0 c1 c2 cf e0 e1 e2 ef bd HS2 HK2 HC2
          generalize wx.drew = wy at *
          obtain ⟨c0, c1, c2, cf⟩ := HS3.out.cs
          rw [HN.out] at c0
          have hrng := HS3.out.rng p (List.mem_of_getElem? HP.out)
          have HKE := Lib.hid (Maps.keyOf_int_mk (P := Try.prog) und_u32 (wf32 hrng.1 hrng.2))
          go_wp2_with (first
            | (at_delete; refine wpList_delete_own _ rfl _ _ 56 40 rfl 3 K und_map (plainElem Try.prog 3) m (Maps.size D) D rfl HS3.out.map _ (.int .u32 p.k) rfl HKE.out ?_; intro w5 ho5 ht5
               obtain ⟨s5, k5⟩ := HS3.out.turn ho5 HS3.out.nb ht5
               have HT5 := Lib.hid (ho5.tidy K)
               have S5 := Lib.hid s5
               have K5 := Lib.hid (HK3.out.trans k5)
               clear ho5 ht5 s5 k5 c0 c1 c2 cf
               obtain ⟨c0, c1, c2, cf⟩ := S5.out.cs
               rw [HN.out] at c0)
            | fail)
          have HPT := Lib.hid (put_any S5.out S5.out.hh k0 k1 (by have q1 := HM.out.size; have q2 := full_le l; have q3 := HL.out; omega))
          refine HPT.out.mono ?_
          rintro e w6 ⟨rfl, s6, k6⟩
          have hgp := (List.getElem?_eq_some_iff.1 HP.out).1
          have hML : Mp D l1 := HM.out.same hA HF.out
          have hpf : p.f = true := full_all (by rw [HF.out, HN.out, HL.out]; exact HFL.out) HP.out
          have hMd := hML.del HT.out HP.out hpf rfl ⟨0, false, false⟩ rfl
          have hMp := hMd.put HT5.out (show (l1.set h1 ⟨0, false, false⟩)[h1]? = some ⟨0, false, false⟩ from by rw [List.getElem?_set]; simp [hgp]) rfl (wf32 k0 k1) (fun j hj => HNF.out j ((hA k j).1 (at_blank hj))) false
          rw [List.set_set] at hMp
          have HMP := Lib.hid hMp
          have S6 := Lib.hid s6
          have K6 := Lib.hid (K5.out.trans k6)
          clear s6 k6 hMp hMd hML hpf hgp
          have HAd := Lib.hid (advance_to (x := (h1 + 1) % l.length) S6.out (by rw [List.length_set, HN.out, HL.out]))
          go_wp2_with fail
          refine HAd.out.mono ?_
          rintro e w7 ⟨rfl, s7, k7⟩
          have K7 := K6.out.trans k7
          have hE := Lib.hid (HSX.out _ K7 _ _ (s7.sc HMP.out))
          have hX := Lib.hid (HXK.out _ K7)
          obtain ⟨r0, r1, r2, rf⟩ := BoxA.three hX.out
          clear s7 k7 K7
          go_wp2_with fail
          rw [hU]
          exact ret_turn rfl rfl rfl (BoxA.set3 hX.out _ _ _) rfl ⟨rfl, hE.out _ _ _⟩
end Go.Proofs.Yteppcjolgpdenaa.Seq
