/-
  Adaptive replacement (layer 29), the reference: Use, whole; New; the law's lists and equal.
-/
import Derived.Test.YtggimkfepcgaoaaArqJ
import Derived.Test.YtggimkfepcgaoaaArcK
import Derived.Test.YtggimkfepcgaoaaGhpJ
import Derived.Test.YtggimkfepcgaoaaArqC
import Derived.Deep.CutBlock
import Derived.Deep.DeepCutAuto
set_option linter.unusedVariables false
set_option linter.unusedSimpArgs false
section
namespace Go.Proofs.Ytggimkfepcgaoaa.Arc
open Go Go.RowKit Kit Go.Maps Lnk Gho
theorem ai_lens {s : Nat} {t : Int} {L : Nat → List Nat} (ai : Ai s t L) : ∀ i, i < 4 → (L i).length ≤ 2048 := fun i hi => by
  have := ai.c; have := ai.s2
  match i, hi with | 0, _ => omega | 1, _ => omega | 2, _ => omega | 3, _ => omega
theorem roomA_lens {s : Nat} {t : Int} {found : Bool} {L : Nat → List Nat} (nd : Nd L) (s1 : 1 ≤ s) (s2 : s ≤ 1024) (t1 : t ≤ s) (hl : ∀ j, j < 4 → (L j).length ≤ 2048) (h : (L 0).length < s ∨ found = true) : ∀ i, i < 4 → ((roomA s t found L).1 i).length ≤ 4096 := fun i hi => by
  rcases room_st (found := found) nd s1 s2 t1 hl h with ⟨_, e⟩ | ⟨_, F, x, L', hF, hx, e, _, _, st⟩
  · rw [e]; have := hl i hi; show (L i).length ≤ 4096; omega
  · rw [e]
    have h1 := st.len i hi
    have h2 := hl i hi
    show (L' i).length ≤ 4096
    split at h1 <;> split at h1 <;> omega
theorem ruse_any {w : World} {s : Nat} {t : Int} {L : Nat → List Nat} {f : Nat → Value} (h : Rs w L f) (ai : Ai s t L) (x : Nat) {t' : Int} {L' : Nat → List Nat} {hit left : Bool} {out : Nat} (hu : useA s t L x = (t', L', hit, left, out)) :
    Calls Try.prog 121 #[rv29 s t f, .int .u32 (x : Int)] w fun e w' => ∃ f', e = .returned (.tuple #[rv29 s t' f', tv hit left (out : Int)]) ∧ Rs w' L' f' ∧ Nf w f f' ∧ Below w.heap.size w w' := by
  rw [← useR_eq ai] at hu
  have hai := ai
  have hl := ai_lens ai
  obtain ⟨nd, ha, hb, hc, t0, t1, s1, s2⟩ := ai
  unfold useR at hu
  by_cases k0 : x ∈ L 0 ∨ x ∈ L 1
  · rw [if_pos k0] at hu
    cases hu
    exact ruse_hit h (fun i hi => by have := hl i hi; omega) x k0
  rw [if_neg k0] at hu
  by_cases k2 : x ∈ L 2
  · rw [if_pos k2] at hu
    have hp := List.length_pos_of_mem k2
    obtain ⟨⟨L1, l1, o1⟩, hr⟩ : ∃ r, roomR s (tgt2 s t L) false L = r := ⟨_, rfl⟩
    rw [hr] at hu
    cases hu
    have hr2 := roomA_lens (found := false) nd s1 s2 (tgt2_le (L := L) t0).2 hl (.inl (by omega))
    rw [← roomR_eq nd s1 (tgt2_le t0).2 hl (.inl (by omega)), hr] at hr2
    exact ruse_two h (fun i hi => by have := hl i hi; omega) s2 (by omega) x (fun h => k0 (.inl h)) (fun h => k0 (.inr h)) k2 hr (fun i hi => Nat.le_trans (hr2 i hi) (by omega)) (fun hf => fromA_ne hf s1 (tgt2_le t0).2 (.inl (by omega)))
  rw [if_neg k2] at hu
  by_cases k3 : x ∈ L 3
  · rw [if_pos k3] at hu
    obtain ⟨⟨L1, l1, o1⟩, hr⟩ : ∃ r, roomR s (tgt3 t L) true L = r := ⟨_, rfl⟩
    rw [hr] at hu
    cases hu
    have hr2 := roomA_lens (found := true) nd s1 s2 (tgt3_le (L := L) t1).2 hl (.inr rfl)
    rw [← roomR_eq nd s1 (tgt3_le t1).2 hl (.inr rfl), hr] at hr2
    exact ruse_three h (fun i hi => by have := hl i hi; omega) s2 (by omega) x (fun h => k0 (.inl h)) (fun h => k0 (.inr h)) k2 k3 hr (fun i hi => Nat.le_trans (hr2 i hi) (by omega)) (fun hf => fromA_ne hf s1 (tgt3_le t1).2 (.inr rfl))
  rw [if_neg k3] at hu
  obtain ⟨⟨L1, l1, o1⟩, hr⟩ : ∃ r, missR s t L = r := ⟨_, rfl⟩
  rw [hr] at hu
  cases hu
  have hz := (missA_zero s t L).2
  rw [← missR_eq hai, hr] at hz
  have h0 := hl 0 (by omega)
  refine ruse_none h hai x (fun j hj => ?_) hr (Nat.le_trans hz (by omega))
  match j, hj with
  | 0, _ => exact fun h => k0 (.inl h)
  | 1, _ => exact fun h => k0 (.inr h)
  | 2, _ => exact k2
  | 3, _ => exact k3
/-- no rows -/
def nos : Nat → Value := fun _ => .slice none 0 0
theorem rs_nos (v : World) : Rs v (fun _ => []) nos := fun i _ => ⟨none, 0, 0, rfl, rfl, Nat.le_refl _, fun i x hx => (by cases hx), fun y hy => (by cases hy)⟩
set_option maxRecDepth 100000 in
theorem rnew29 {w : World} {s : Nat} (s1 : 1 ≤ s) (s2 : s ≤ 1024) :
    Calls Try.prog 52 #[.int .i64 (s : Int)] w fun e w' => e = .returned (.tuple #[rv29 s 0 nos, .int .i64 0]) ∧ Below w.heap.size w w' := by
  have g0 : ¬ (s : Int) < 1 := by omega
  have g1 : ¬ 1024 < (s : Int) := by omega
  clear s1 s2
  go_enter Try.func52, Try.ntmps52
  go_wp2_with fail
  exact bodyPost_ret (v := .tuple #[rv29 s 0 nos, .int .i64 0]) (by simp [results, Try.results52, go_sem, rv29, nos]) rfl ⟨rfl, by go_grown⟩
section
variable {w0 w : World} {o K s : Nat} {t : Int} {b : Nat → Nat} {L : Nat → List Nat} {X : Nat → Prop} {f : Nat → Value}
set_option maxRecDepth 100000 in
set_option maxHeartbeats 4000000 in
theorem lists29 (h : Ax w0 w o K s t b L X) (s1 : 1 ≤ s) (hl : ∀ i, i < 4 → (L i).length ≤ 4096) (r : Rs w L f) :
    Calls Try.prog 120 #[ap o, f 0, f 1, f 2, f 3, .int .i64 t] w fun e w' => e = .returned (.bool true) ∧ Below w.heap.size w w' := by
  obtain ⟨p0, n0, c0, e0, l0, k0, r0, b0⟩ := r 0 (by omega)
  obtain ⟨p1, n1, c1, e1, l1, k1, r1, b1⟩ := r 1 (by omega)
  obtain ⟨p2, n2, c2, e2, l2, k2, r2, b2⟩ := r 2 (by omega)
  obtain ⟨p3, n3, c3, e3, l3, k3, r3, b3⟩ := r 3 (by omega)
  have HL := Lib.hid (lists_any h s1 hl l0 l1 l2 l3)
  have HQ := Lib.hid (fun u (hb : Below w.heap.size w u) => And.intro (r0.below hb) (And.intro (r1.below hb) (And.intro (r2.below hb) (r3.below hb))))
  have HN := Lib.hid (show (ints (L 0)).length = n0 ∧ (ints (L 1)).length = n1 ∧ (ints (L 2)).length = n2 ∧ (ints (L 3)).length = n3 ∧ n0 ≤ 4096 ∧ n1 ≤ 4096 ∧ n2 ≤ 4096 ∧ n3 ≤ 4096 from by
    have h0 := hl 0 (by omega)
    have h1 := hl 1 (by omega)
    have h2 := hl 2 (by omega)
    have h3 := hl 3 (by omega)
    simp only [ints_len]
    omega)
  rw [e0, e1, e2, e3]
  have htt : (t == t) = true := beq_self_eq_true t
  clear h s1 hl r e0 e1 e2 e3 l0 l1 l2 l3 k0 k1 k2 k3 r0 r1 r2 r3 b0 b1 b2 b3
  go_enter Try.func120, Try.ntmps120
  go_wp2_with fail
  refine HL.out.mono ?_
  rintro e w1 ⟨q0, q1, q2, q3, m0, m1, m2, m3, rfl, R4, b1⟩
  have RR := Lib.hid R4
  have B1 := Lib.hid b1
  clear R4 b1 HL
  go_wp2_with fail
  refine (rsame_any (l1 := ints (L 0)) (l2 := ints (L 0)) HN.out.1 HN.out.1 RR.out.1 (HQ.out _ B1.out).1 (by have := HN.out; omega) (by have := HN.out; omega)).mono ?_
  rintro e w2 ⟨hsay, b2⟩
  obtain rfl := says_true hsay rfl
  have B2 := Lib.hid (tr B1.out b2)
  have C2 := Lib.hid b2
  clear b2 hsay
  go_wp2_with fail
  refine (rsame_any (l1 := ints (L 1)) (l2 := ints (L 1)) HN.out.2.1 HN.out.2.1 (RR.out.2.1.below C2.out) (HQ.out _ B2.out).2.1 (by have := HN.out; omega) (by have := HN.out; omega)).mono ?_
  rintro e w3 ⟨hsay, b2⟩
  obtain rfl := says_true hsay rfl
  have B3 := Lib.hid (tr B2.out b2)
  have C3 := Lib.hid (tr C2.out b2)
  clear b2 hsay
  go_wp2_with fail
  refine (rsame_any (l1 := ints (L 2)) (l2 := ints (L 2)) HN.out.2.2.1 HN.out.2.2.1 (RR.out.2.2.1.below C3.out) (HQ.out _ B3.out).2.2.1 (by have := HN.out; omega) (by have := HN.out; omega)).mono ?_
  rintro e w4 ⟨hsay, b2⟩
  obtain rfl := says_true hsay rfl
  have B4 := Lib.hid (tr B3.out b2)
  have C4 := Lib.hid (tr C3.out b2)
  clear b2 hsay
  go_wp2_with fail
  refine (rsame_any (l1 := ints (L 3)) (l2 := ints (L 3)) HN.out.2.2.2.1 HN.out.2.2.2.1 (RR.out.2.2.2.below C4.out) (HQ.out _ B4.out).2.2.2 (by have := HN.out; omega) (by have := HN.out; omega)).mono ?_
  rintro e w5 ⟨hsay, b2⟩
  obtain rfl := says_true hsay rfl
  have B5 := Lib.hid (tr B4.out b2)
  clear b2 hsay
  go_wp2_with fail
  exact bodyPost_ret (v := .bool true) (by simp [results, Try.results120, go_sem]) rfl ⟨rfl, B5.out⟩
set_option maxRecDepth 100000 in
set_option maxHeartbeats 4000000 in
theorem equal29 (h : Ax w0 w o K s t b L X) (s1 : 1 ≤ s) (hl : ∀ i, i < 4 → (L i).length ≤ 4096) (r : Rs w L f) (k : Nat) (hk : k < 4294967296) :
    Calls Try.prog 55 #[ap o, rv29 s t f, .int .u32 (k : Int)] w fun e w' => e = .returned (.bool true) ∧ Below w.heap.size w w' := by
  unfold rv29
  obtain ⟨p0, n0, c0, e0, l0, k0, r0, b0⟩ := r 0 (by omega)
  obtain ⟨p1, n1, c1, e1, l1, k1, r1, b1⟩ := r 1 (by omega)
  obtain ⟨p2, n2, c2, e2, l2, k2, r2, b2⟩ := r 2 (by omega)
  obtain ⟨p3, n3, c3, e3, l3, k3, r3, b3⟩ := r 3 (by omega)
  have HG := Lib.hid (fun u (hb : Below w.heap.size w u) => h.below' hb)
  have HR := Lib.hid (fun u (hb : Below w.heap.size w u) => r.below hb)
  have HF := Lib.hid (show f 0 = .slice p0 n0 c0 ∧ f 1 = .slice p1 n1 c1 ∧ f 2 = .slice p2 n2 c2 ∧ f 3 = .slice p3 n3 c3 from ⟨e0, e1, e2, e3⟩)
  have HI := Lib.hid (show 1 ≤ s ∧ (∀ i, i < 4 → (L i).length ≤ 4096) ∧ k < 4294967296 ∧ (L 0).length = n0 ∧ (L 1).length = n1 from ⟨s1, hl, hk, l0, l1⟩)
  have hn0 := hl 0 (by omega)
  have hn1 := hl 1 (by omega)
  have wl := IntWalk.i64_in ((n0 : Int) + (n1 : Int)) (by omega)
  have hss : ((s : Int) == (s : Int)) = true := beq_self_eq_true _
  have hnn : ((n0 : Int) + (n1 : Int) == (n0 : Int) + (n1 : Int)) = true := beq_self_eq_true _
  obtain ⟨z, hz⟩ : ∃ z : Int, (k : Int) = z := ⟨_, rfl⟩
  have HZ := Lib.hid hz
  rw [hz]
  obtain ⟨g, hg⟩ : ∃ g, decide (k ∈ L 0 ∨ k ∈ L 1) = g := ⟨_, rfl⟩
  have HT := Lib.hid hg
  have htt : (g == g) = true := by cases g <;> rfl
  rw [e0, e1, e2, e3]
  have b0' : Below w.heap.size w (w.alloc (.cells #[.int .i64 (s : Int), .slice p0 n0 c0, .slice p1 n1 c1, .slice p2 n2 c2, .slice p3 n3 c3, .int .i64 t] 97)) := by go_grown
  have HX := Lib.hid (show (w.alloc (.cells #[.int .i64 (s : Int), .slice p0 n0 c0, .slice p1 n1 c1, .slice p2 n2 c2, .slice p3 n3 c3, .int .i64 t] 97)).heap[w.heap.size]? = some (.cells #[.int .i64 (s : Int), .slice p0 n0 c0, .slice p1 n1 c1, .slice p2 n2 c2, .slice p3 n3 c3, .int .i64 t] 97 (0, 0)) from (MapKept.heap_alloc w _).1)
  have B0 := Lib.hid b0'
  clear h s1 hl r e0 e1 e2 e3 l0 l1 l2 l3 k0 k1 k2 k3 r0 r1 r2 r3 b0 b1 b2 b3 hk hn0 hn1 hz hg b0'
  go_enter Try.func55, Try.ntmps55
  go_wp2_with fail
  have hs1 : (w.alloc (.cells #[.int .i64 (s : Int), .slice p0 n0 c0, .slice p1 n1 c1, .slice p2 n2 c2, .slice p3 n3 c3, .int .i64 t] 97)).heap.size = w.heap.size + 1 := by simp
  generalize w.alloc (.cells #[.int .i64 (s : Int), .slice p0 n0 c0, .slice p1 n1 c1, .slice p2 n2 c2, .slice p3 n3 c3, .int .i64 t] 97) = w1 at *
  have HS := Lib.hid (fun u (hb : Below w1.heap.size w1 u) => (show u.cell? ⟨w.heap.size, 0, none⟩ = some (.int .i64 (s : Int)) ∧ u.cell? ⟨w.heap.size, 1, none⟩ = some (.slice p0 n0 c0) ∧ u.cell? ⟨w.heap.size, 2, none⟩ = some (.slice p1 n1 c1) ∧ u.cell? ⟨w.heap.size, 3, none⟩ = some (.slice p2 n2 c2) ∧ u.cell? ⟨w.heap.size, 4, none⟩ = some (.slice p3 n3 c3) ∧ u.cell? ⟨w.heap.size, 5, none⟩ = some (.int .i64 t) ∧ Hid (Below w1.heap.size w1 u) from by
    have h1 := (hb.block w.heap.size (by omega)).trans HX.out
    refine ⟨?_, ?_, ?_, ?_, ?_, ?_, Lib.hid hb⟩ <;> simp [World.cell?, h1]))
  have HB := Lib.hid (fun u (hb : Hid (Below w1.heap.size w1 u)) => B0.out.trans (hb.out.mono (by omega)))
  have T1 := Lib.hid (Below.drew (Below.refl w1.heap.size w1))
  clear HX hs1
  go_region_held3 (fun u => u.cell? ⟨w.heap.size, 0, none⟩ = some (.int .i64 (s : Int)) ∧ u.cell? ⟨w.heap.size, 1, none⟩ = some (.slice p0 n0 c0) ∧ u.cell? ⟨w.heap.size, 2, none⟩ = some (.slice p1 n1 c1) ∧ u.cell? ⟨w.heap.size, 3, none⟩ = some (.slice p2 n2 c2) ∧ u.cell? ⟨w.heap.size, 4, none⟩ = some (.slice p3 n3 c3) ∧ u.cell? ⟨w.heap.size, 5, none⟩ = some (.int .i64 t) ∧ Hid (Below w1.heap.size w1 u))
    (first
      | assumption
      | exact ⟨by assumption, by assumption, by assumption, by assumption, by assumption, by assumption, by assumption⟩
      | exact HS.out _ (Below.drew (Below.refl _ _))
      | fail)
    (first
      | (go_at_call 126; (try rw [← HZ.out]); have HAS := rhas29_any (s := s) (t := t) (HR.out _ (HB.out _ T5)) (fun i hi => Nat.le_trans (HI.out.2.1 i hi) (by omega)) k; unfold rv29 at HAS; rw [HF.out.1, HF.out.2.1, HF.out.2.2.1, HF.out.2.2.2] at HAS; refine HAS.mono ?_; rintro e u6 ⟨rfl, b6⟩; rw [HT.out]; obtain ⟨s1, s2, s3, s4, s5, s6, T6⟩ := HS.out _ (tr T5.out b6); clear b6 HAS)
      | (go_at_call 59; rw [← HZ.out]; refine (ahas_any (HG.out _ (HB.out _ T4)) HI.out.1 k HI.out.2.2.1).mono ?_; rintro e u5 ⟨rfl, rfl⟩; rw [HT.out]; have T5 := T4)
      | (go_at_call 125; refine (size_any (HG.out _ (HB.out _ T3)) HI.out.1).mono ?_; rintro e u4 ⟨rfl, rfl⟩; have T4 := T3)
      | (go_at_call 58; refine (alen_any (HG.out _ (HB.out _ T2)) HI.out.1 HI.out.2.1).mono ?_; rintro e u3 ⟨rfl, b3⟩; rw [HI.out.2.2.2.1, HI.out.2.2.2.2, Int.natCast_add]; obtain ⟨s1, s2, s3, s4, s5, s6, T3⟩ := HS.out _ (tr T2.out b3); clear b3)
      | (go_at_call 120; have HLS := lists29 (HG.out _ (HB.out _ T1)) HI.out.1 HI.out.2.1 (HR.out _ (HB.out _ T1)); rw [HF.out.1, HF.out.2.1, HF.out.2.2.1, HF.out.2.2.2] at HLS; refine HLS.mono ?_; rintro e u2 ⟨rfl, b2⟩; obtain ⟨s1, s2, s3, s4, s5, s6, T2⟩ := HS.out _ (tr T1.out b2); clear b2 HLS)
      | fail)
  go_wp2_with fail
  exact bodyPost_ret (v := .bool true) (by simp [results, Try.results55, go_sem]) rfl ⟨rfl, HB.out _ T6⟩
end
end Go.Proofs.Ytggimkfepcgaoaa.Arc
end
section
namespace Go.Proofs.Ytggimkfepcgaoaa.Arc
open Go Go.RowKit Kit Go.Maps Lnk Gho
theorem Ax.lcopy {w0 v : World} {o K s : Nat} {t : Int} {b : Nat → Nat} {L : Nat → List Nat} {X : Nat → Prop} (h : Ax w0 v o K s t b L X) (i : Nat) (hi : i < 4) : Calls Try.prog 113 #[gp (b i)] v fun e w' => (∃ b', e = .returned (gp b') ∧ Gx w0 w' b' K 10000 4096 (L i) (fun k => k < v.heap.size)) ∧ Below v.heap.size v w' := by
  obtain ⟨col, h⟩ := h
  exact (h.mg.g i hi).copy (by omega)
/-- the pointers of a copy in the making -/
def cptrs (b b' : Nat → Nat) (j i : Nat) : Value := if i < j then gp (b' i) else gp (b i)
/-- a copy in the making: j lists -/
structure Cn (w0 v : World) (lo o K s : Nat) (t : Int) (j : Nat) (b b' : Nat → Nat) (L : Nat → List Nat) (col : Nat → Nat) : Prop where
  box : v.heap[o]? = some (.cells #[.int .i64 (s : Int), .int .i64 t, cptrs b b' j 0, cptrs b b' j 1, cptrs b b' j 2, cptrs b b' j 3] 172 (0, 0))
  mg : Mg w0 v K 10000 b' L j col
  oc : col o = 9
  ol : lo ≤ o
  ll : w0.heap.size ≤ lo
  lv : lo ≤ v.heap.size
  cc : ∀ k, k < v.heap.size → col k < j ∨ col k = 9
  co : ∀ k, k < lo → col k = 9
  jl : j ≤ 4
section
variable {w0 v v' : World} {lo o K s j : Nat} {t : Int} {b b' : Nat → Nat} {L : Nat → List Nat} {col : Nat → Nat}
theorem Cn.olt (h : Cn w0 v lo o K s t j b b' L col) : o < v.heap.size := (Array.getElem?_eq_some_iff.1 h.box).1
theorem Cn.cells (h : Cn w0 v lo o K s t j b b' L col) (hb : Below v.heap.size v v') : (∃ x0 x1 x2 x3, v'.cell? ⟨o, 2, none⟩ = some x0 ∧ v'.cell? ⟨o, 3, none⟩ = some x1 ∧ v'.cell? ⟨o, 4, none⟩ = some x2 ∧ v'.cell? ⟨o, 5, none⟩ = some x3) ∧ ∀ i, v'.frozen? ⟨o, i, none⟩ = false := by
  have hx := (hb.block o h.olt).trans h.box
  exact ⟨⟨cptrs b b' j 0, cptrs b b' j 1, cptrs b b' j 2, cptrs b b' j 3, by simp [World.cell?, hx], by simp [World.cell?, hx], by simp [World.cell?, hx], by simp [World.cell?, hx]⟩, fun i => by simp [World.frozen?, hx]⟩
theorem Cn.next {bn : Nat} (h : Cn w0 v lo o K s t j b b' L col) (hj : j < 4) (hgx : Gx w0 v' bn K 10000 4096 (L j) (fun k => k < v.heap.size)) (hbv : Below v.heap.size v v') : ∃ b2 col2, Cn w0 (v'.setCell ⟨o, 2 + j, none⟩ (gp bn)) lo o K s t (j + 1) b b2 L col2 := by
  have ho := h.olt
  have hs0 := h.mg.bl.size
  have hbx := (hbv.block o ho).trans h.box
  have m1 := h.mg.new (c := j) hbv (Nat.le_refl _)
  have hb2 := (Below.refl o v').setCell (p := ⟨o, 2 + j, none⟩) (Nat.le_refl _) (gp bn)
  have hk : Kp (fun k => k = o) v' (v'.setCell ⟨o, 2 + j, none⟩ (gp bn)) := ⟨hb2.os, hb2.tape, hb2.output, hb2.size, fun k hk hn => Below.heap_setCell v' ⟨o, 2 + j, none⟩ _ k hn⟩
  have hc := ncol_old (col := col) (c := j) ho
  have hf := heap_set (j := 2 + j) hbx (gp bn)
  have hsz := hbv.size
  have hlv := h.lv
  have m2 : Mg w0 v' K 10000 (fun i => if i = j then bn else b' i) L (j + 1) (ncol v col j) := by
    refine ⟨fun i hi => ?_, fun k hk => ?_, m1.bl⟩
    · by_cases hij : i = j
      · subst hij
        simp only [if_true]
        refine hgx.only fun k hx => ?_
        by_cases hlt : k < v.heap.size
        · exact hlt
        · rw [ncol_new (by omega)] at hx
          exact absurd rfl hx.2
      · simp only [if_neg hij]
        exact m1.g i (by omega)
    · by_cases hlt : k < v.heap.size
      · rw [ncol_old hlt] at hk
        rcases Nat.lt_or_ge (col k) j with h1 | h1
        · exact h.mg.lo k h1
        · have := h.cc k hlt; omega
      · omega
  refine ⟨_, _, ⟨?_, m2.other (c := 9) hk (fun k hlt hkb => ?_) (by omega), ?_, h.ol, h.ll, ?_, fun k hk => ?_, fun k hk => ?_, by omega⟩⟩
  · rw [hf]
    match j, hj with
    | 0, _ => simp [cptrs]
    | 1, _ => simp [cptrs]
    | 2, _ => simp [cptrs]
    | 3, _ => simp [cptrs]
  · subst hkb
    rw [hc, h.oc]
    have := h.ol
    have := h.ll
    exact ⟨by omega, by omega⟩
  · rw [ncol_old (by omega), hc, h.oc]
  · rw [World.size_setCell]; omega
  · rw [World.size_setCell] at hk
    rw [ncol_old hk]
    by_cases hlt : k < v.heap.size
    · rw [ncol_old hlt]; have := h.cc k hlt; omega
    · rw [ncol_new (by omega)]; omega
  · rw [ncol_old (by omega), ncol_old (by omega)]
    exact h.co k hk
theorem Cn.ax (h : Cn w0 v lo o K s t 4 b b' L col) : Ax w0 v o K s t b' L (fun k => k < lo) := by
  refine ⟨fun k => if k < lo then 5 else if col k < 4 then col k else 4, h.box, ⟨fun i hi => (h.mg.g i hi).only fun k hk => ⟨hk.1, fun e => hk.2 ?_⟩, fun k hk => h.mg.lo k ?_, h.mg.bl⟩, ?_, Nat.le_trans h.ll h.ol, fun k hk => ⟨Nat.lt_of_lt_of_le hk h.lv, if_pos hk⟩⟩
  · show (if k < lo then 5 else if col k < 4 then col k else 4) = i
    rw [if_neg (fun hlt => by have := h.co k hlt; omega), if_pos (by omega)]; exact e
  · have hk' : (if k < lo then 5 else if col k < 4 then col k else 4) < 4 := hk
    split at hk'
    · omega
    · split at hk' <;> omega
  · show (if o < lo then 5 else if col o < 4 then col o else 4) = 4
    have := h.ol
    rw [if_neg (by omega), if_neg (by rw [h.oc]; omega)]
set_option maxRecDepth 100000 in
set_option maxHeartbeats 4000000 in
theorem copy_any {X : Nat → Prop} (h : Ax w0 v o K s t b L X) (hs : 1 ≤ s) :
    Calls Try.prog 123 #[ap o] v fun e w' => ∃ o' b', e = .returned (ap o') ∧ Ax w0 w' o' K s t b' L (fun k => k < v.heap.size) ∧ Below v.heap.size v w' := by
  have HZ := Lib.hid (zero_any h hs)
  have HG := Lib.hid (fun u (hb : Below v.heap.size v u) i hi => (h.below' hb).lcopy i hi)
  obtain ⟨c0, c1, c2, c3, c4, c5, cf⟩ := h.cells
  have hol := h.olt
  have hbl := h.bl
  have HE := Lib.hid (fun v1 (hx : v1.heap[v.heap.size]? = some (.cells #[.int .i64 (s : Int), .int .i64 t, gp (b 0), gp (b 1), gp (b 2), gp (b 3)] 172 (0, 0))) (hb : Below v.heap.size v v1) => (show Cn w0 v1 v.heap.size v.heap.size K s t 0 b (fun _ => 0) L (fun _ => 9) from
    ⟨hx, ⟨fun i hi => by omega, fun k hk => by omega, tr (Below.refl _ _) (((Kp.of (bad := fun _ => False) hbl).tr hb).below (fun k hk h => h) (Nat.le_refl _))⟩, rfl, Nat.le_refl _, hbl.size, hb.size, fun _ _ => .inr rfl, fun _ _ => rfl, by omega⟩))
  clear h hs hbl
  go_enter Try.func123, Try.ntmps123
  go_wp2_with fail
  refine HZ.out.mono ?_
  rintro e w1 ⟨rfl, rfl⟩
  clear HZ
  go_upto_region 4 with fail
  have hb1 : Below v.heap.size v (v.alloc (.cells #[.int .i64 (s : Int), .int .i64 t, gp (b 0), gp (b 1), gp (b 2), gp (b 3)] 172)) := by go_grown
  have C0 := Lib.hid (HE.out _ (MapKept.heap_alloc v _).1 hb1)
  have B1 := Lib.hid hb1
  have e2 := (hb1.cell (p := ⟨o, 2, none⟩) hol).trans c2
  have e3 := (hb1.cell (p := ⟨o, 3, none⟩) hol).trans c3
  have e4 := (hb1.cell (p := ⟨o, 4, none⟩) hol).trans c4
  have e5 := (hb1.cell (p := ⟨o, 5, none⟩) hol).trans c5
  clear hb1 c0 c1 c2 c3 c4 c5 cf HE
  generalize v.alloc (.cells #[.int .i64 (s : Int), .int .i64 t, gp (b 0), gp (b 1), gp (b 2), gp (b 3)] 172) = w1 at *
  go_wp2_with fail
  clear e2 e3 e4 e5
  go_loopw [15] (fun iv wr => ∃ (j : Nat) (b' col : Nat → Nat), iv = .int .i64 (j : Int) ∧ Hid (Cn w0 wr v.heap.size v.heap.size K s t j b b' L col) ∧ Hid (Below v.heap.size v wr)) (fun iv _ => 4 - (intOf iv).toNat)
  case atStart => exact ⟨0, _, _, rfl, C0, B1⟩
  case round =>
    obtain ⟨j, b', col, rfl, HC, HB⟩ := hrel
    clear C0 B1
    obtain ⟨z, hz⟩ : ∃ z : Int, (j : Int) = z := ⟨_, rfl⟩
    rw [hz]
    by_cases hlt : j < 4
    · rcases (show j = 0 ∨ j = 1 ∨ j = 2 ∨ j = 3 by omega) with rfl | rfl | rfl | rfl
      · obtain rfl : z = 0 := by omega
        have HGj := Lib.hid (HG.out wr HB.out 0 (by omega))
        have ix : ∀ w, (Instr.index 170 (.agg #[gp (b 0), gp (b 1), gp (b 2), gp (b 3)]) (.int .i64 0)).run Try.prog w = .ok (gp (b 0)) w := fun _ => by kernel_rfl
        clear hlt hz
        go_wp2_with fail
        refine HGj.out.mono ?_
        rintro e u ⟨⟨bn, rfl, gx⟩, bu⟩
        obtain ⟨⟨x0, x1, x2, x3, y0, y1, y2, y3⟩, yf⟩ := HC.out.cells bu
        obtain ⟨b2, col2, h2⟩ := HC.out.next (by omega) gx bu
        have H2 := Lib.hid h2
        have HB2 := Lib.hid ((tr HB.out bu).setCell (p := ⟨v.heap.size, 2 + 0, none⟩) (Nat.le_refl _) (gp bn))
        clear h2 gx bu HGj
        go_wp2_with fail
        go_roundw
        case rel => exact ⟨0 + 1, b2, col2, rfl, H2, HB2⟩
        case measure => simp [intOf]
      · obtain rfl : z = 1 := by omega
        have HGj := Lib.hid (HG.out wr HB.out 1 (by omega))
        have ix : ∀ w, (Instr.index 170 (.agg #[gp (b 0), gp (b 1), gp (b 2), gp (b 3)]) (.int .i64 1)).run Try.prog w = .ok (gp (b 1)) w := fun _ => by kernel_rfl
        clear hlt hz
        go_wp2_with fail
        refine HGj.out.mono ?_
        rintro e u ⟨⟨bn, rfl, gx⟩, bu⟩
        obtain ⟨⟨x0, x1, x2, x3, y0, y1, y2, y3⟩, yf⟩ := HC.out.cells bu
        obtain ⟨b2, col2, h2⟩ := HC.out.next (by omega) gx bu
        have H2 := Lib.hid h2
        have HB2 := Lib.hid ((tr HB.out bu).setCell (p := ⟨v.heap.size, 2 + 1, none⟩) (Nat.le_refl _) (gp bn))
        clear h2 gx bu HGj
        go_wp2_with fail
        go_roundw
        case rel => exact ⟨1 + 1, b2, col2, rfl, H2, HB2⟩
        case measure => simp [intOf]
      · obtain rfl : z = 2 := by omega
        have HGj := Lib.hid (HG.out wr HB.out 2 (by omega))
        have ix : ∀ w, (Instr.index 170 (.agg #[gp (b 0), gp (b 1), gp (b 2), gp (b 3)]) (.int .i64 2)).run Try.prog w = .ok (gp (b 2)) w := fun _ => by kernel_rfl
        clear hlt hz
        go_wp2_with fail
        refine HGj.out.mono ?_
        rintro e u ⟨⟨bn, rfl, gx⟩, bu⟩
        obtain ⟨⟨x0, x1, x2, x3, y0, y1, y2, y3⟩, yf⟩ := HC.out.cells bu
        obtain ⟨b2, col2, h2⟩ := HC.out.next (by omega) gx bu
        have H2 := Lib.hid h2
        have HB2 := Lib.hid ((tr HB.out bu).setCell (p := ⟨v.heap.size, 2 + 2, none⟩) (Nat.le_refl _) (gp bn))
        clear h2 gx bu HGj
        go_wp2_with fail
        go_roundw
        case rel => exact ⟨2 + 1, b2, col2, rfl, H2, HB2⟩
        case measure => simp [intOf]
      · obtain rfl : z = 3 := by omega
        have HGj := Lib.hid (HG.out wr HB.out 3 (by omega))
        have ix : ∀ w, (Instr.index 170 (.agg #[gp (b 0), gp (b 1), gp (b 2), gp (b 3)]) (.int .i64 3)).run Try.prog w = .ok (gp (b 3)) w := fun _ => by kernel_rfl
        clear hlt hz
        go_wp2_with fail
        refine HGj.out.mono ?_
        rintro e u ⟨⟨bn, rfl, gx⟩, bu⟩
        obtain ⟨⟨x0, x1, x2, x3, y0, y1, y2, y3⟩, yf⟩ := HC.out.cells bu
        obtain ⟨b2, col2, h2⟩ := HC.out.next (by omega) gx bu
        have H2 := Lib.hid h2
        have HB2 := Lib.hid ((tr HB.out bu).setCell (p := ⟨v.heap.size, 2 + 3, none⟩) (Nat.le_refl _) (gp bn))
        clear h2 gx bu HGj
        go_wp2_with fail
        go_roundw
        case rel => exact ⟨3 + 1, b2, col2, rfl, H2, HB2⟩
        case measure => simp [intOf]
    · obtain rfl : j = 4 := by have := HC.out.jl; omega
      obtain rfl : z = 4 := by omega
      go_wp2_with fail
      exact bodyPost_ret (v := ap v.heap.size) (by simp [results, Try.results123, go_sem]) rfl ⟨v.heap.size, b', rfl, HC.out.ax, HB.out⟩
end
end Go.Proofs.Ytggimkfepcgaoaa.Arc
end
