/-
  The law's step of layer 17 (budget): what its variables hold.
-/
import Derived.Test.YtjlfjgmkbjfbcaaBudV
import Derived.StillTailTactics
set_option linter.unusedVariables false
set_option linter.unusedSimpArgs false
namespace Go.Proofs.Ytjlfjgmkbjfbcaa.Bud
open Go.RowKit Kit
theorem lfair_any (g c : Int) (w : World) :
    Calls Try.prog 26 #[.int .i64 g, .int .i64 c] w fun e w' => e = .returned (.bool (fairI g c)) ∧ w = w' := by
  by_cases g0 : g = 0
  · by_cases h0 : 0 ≤ c
    · by_cases h1 : c ≤ 1099511627776
      all_goals
        go_enter Try.func26, Try.ntmps26
        go_wp2
        go_ret
        exact ⟨ret_bool (by unfold fairI; simp; omega), rfl⟩
    · go_enter Try.func26, Try.ntmps26
      go_wp2
      go_ret
      exact ⟨ret_bool (by unfold fairI; simp; omega), rfl⟩
  · by_cases g1 : g = 1
    · by_cases h0 : 0 ≤ c
      · by_cases h1 : c ≤ 1099511627776
        all_goals
          go_enter Try.func26, Try.ntmps26
          go_wp2
          go_ret
          exact ⟨ret_bool (by unfold fairI; simp; omega), rfl⟩
      · go_enter Try.func26, Try.ntmps26
        go_wp2
        go_ret
        exact ⟨ret_bool (by unfold fairI; simp; omega), rfl⟩
    · go_enter Try.func26, Try.ntmps26
      go_wp2
      go_ret
      exact ⟨ret_bool (by unfold fairI; simp; omega), rfl⟩
def sO (mc mb n0 n1 c0 c1 : Int) : Obj := .cells #[.int .i64 mc, .int .i64 mb, .int .i64 n0, .int .i64 n1, .int .i64 c0, .int .i64 c1] 31
def sV (mc mb n0 n1 c0 c1 : Int) : Value := .agg #[.int .i64 mc, .int .i64 mb, .int .i64 n0, .int .i64 n1, .int .i64 c0, .int .i64 c1]
def aO (what g x y : Int) : Obj := .cells #[.int .i64 what, .int .i64 g, .int .i64 x, .int .i64 y] 37
/-- the law's variables: a state, a call, a result; and the budget -/
structure Sb (w v : World) (b : Nat) (s : S) (mc mb n0 n1 c0 c1 what g x y : Int) : Prop where
  bud : Bud v b s
  s : v.heap[w.heap.size]? = some (sO mc mb n0 n1 c0 c1)
  a : v.heap[w.heap.size + 1]? = some (aO what g x y)
  z : v.heap[w.heap.size + 1 + 1]? = some (sO 0 0 0 0 0 0)
  bb : But b w v
  lt : b < w.heap.size
theorem Sb.start {w : World} {b : Nat} {s : S} (hb : Bud w b s) (mc mb n0 n1 c0 c1 what g x y : Int) : Sb w (((w.alloc (sO mc mb n0 n1 c0 c1)).alloc (aO what g x y)).alloc (sO 0 0 0 0 0 0)) b s mc mb n0 n1 c0 c1 what g x y := by
  have h1 := (MapKept.heap_alloc w (sO mc mb n0 n1 c0 c1)).1
  have h2 := (MapKept.heap_alloc (w.alloc (sO mc mb n0 n1 c0 c1)) (aO what g x y)).1
  have h3 := (MapKept.heap_alloc ((w.alloc (sO mc mb n0 n1 c0 c1)).alloc (aO what g x y)) (sO 0 0 0 0 0 0)).1
  simp only [World.size_alloc] at h2 h3
  exact ⟨BoxA.below hb (by go_grown), (Below.heap_alloc _ _ _ (by simp; omega)).trans ((Below.heap_alloc _ _ _ (by simp)).trans h1), (Below.heap_alloc _ _ _ (by simp)).trans h2, h3, But.of (by go_grown), BoxA.lt hb⟩
theorem Sb.op {w v v' : World} {b : Nat} {s s' : S} {mc mb n0 n1 c0 c1 what g x y : Int} (h : Sb w v b s mc mb n0 n1 c0 c1 what g x y) (hb : Bud v' b s') (k : But b v v') : Sb w v' b s' mc mb n0 n1 c0 c1 what g x y := by
  have hl := h.lt
  have hz := (Array.getElem?_eq_some_iff.1 h.z).1
  exact ⟨hb, (k.block _ (by omega) (by omega)).trans h.s, (k.block _ (by omega) (by omega)).trans h.a, (k.block _ hz (by omega)).trans h.z, h.bb.trans k, hl⟩
theorem Sb.cs {w v : World} {b : Nat} {s : S} {mc mb n0 n1 c0 c1 what g x y : Int} (h : Sb w v b s mc mb n0 n1 c0 c1 what g x y) : (v.cell? ⟨w.heap.size, 0, none⟩ = some (.int .i64 mc) ∧ v.cell? ⟨w.heap.size, 1, none⟩ = some (.int .i64 mb) ∧ v.cell? ⟨w.heap.size, 2, none⟩ = some (.int .i64 n0) ∧ v.cell? ⟨w.heap.size, 3, none⟩ = some (.int .i64 n1) ∧ v.cell? ⟨w.heap.size, 4, none⟩ = some (.int .i64 c0) ∧ v.cell? ⟨w.heap.size, 5, none⟩ = some (.int .i64 c1)) ∧ ∀ o, v.frozen? ⟨w.heap.size, o, none⟩ = false := by
  refine ⟨⟨?_, ?_, ?_, ?_, ?_, ?_⟩, fun o => ?_⟩
  all_goals first | (unfold World.cell?; rw [h.s]; rfl) | (unfold World.frozen?; rw [h.s]; rfl)
theorem Sb.ca {w v : World} {b : Nat} {s : S} {mc mb n0 n1 c0 c1 what g x y : Int} (h : Sb w v b s mc mb n0 n1 c0 c1 what g x y) : v.cell? ⟨w.heap.size + 1, 0, none⟩ = some (.int .i64 what) ∧ v.cell? ⟨w.heap.size + 1, 1, none⟩ = some (.int .i64 g) ∧ v.cell? ⟨w.heap.size + 1, 2, none⟩ = some (.int .i64 x) ∧ v.cell? ⟨w.heap.size + 1, 3, none⟩ = some (.int .i64 y) := by
  refine ⟨?_, ?_, ?_, ?_⟩
  all_goals (unfold World.cell?; rw [h.a]; rfl)
theorem Sb.cz {w v : World} {b : Nat} {s : S} {mc mb n0 n1 c0 c1 what g x y : Int} (h : Sb w v b s mc mb n0 n1 c0 c1 what g x y) : (v.cell? ⟨w.heap.size + 1 + 1, 0, none⟩ = some (.int .i64 0) ∧ v.cell? ⟨w.heap.size + 1 + 1, 1, none⟩ = some (.int .i64 0) ∧ v.cell? ⟨w.heap.size + 1 + 1, 2, none⟩ = some (.int .i64 0) ∧ v.cell? ⟨w.heap.size + 1 + 1, 3, none⟩ = some (.int .i64 0) ∧ v.cell? ⟨w.heap.size + 1 + 1, 4, none⟩ = some (.int .i64 0) ∧ v.cell? ⟨w.heap.size + 1 + 1, 5, none⟩ = some (.int .i64 0)) ∧ ∀ o, v.frozen? ⟨w.heap.size + 1 + 1, o, none⟩ = false := by
  refine ⟨⟨?_, ?_, ?_, ?_, ?_, ?_⟩, fun o => ?_⟩
  all_goals first | (unfold World.cell?; rw [h.z]; rfl) | (unfold World.frozen?; rw [h.z]; rfl)
theorem set_blk {w : World} {b : Nat} {cs : Array Value} {t : TypeId} {fr : Nat × Nat} (h : w.heap[b]? = some (.cells cs t fr)) (i : Nat) (v : Value) : (w.setCell ⟨b, i, none⟩ v).heap[b]? = some (.cells (cs.setIfInBounds i v) t fr) := by
  obtain ⟨hlt, hk⟩ := Array.getElem?_eq_some_iff.1 h
  show (w.heap.modify b _)[b]? = _
  rw [Array.getElem?_eq_getElem (by rw [Array.size_modify]; exact hlt), Array.getElem_modify_self, hk]
  rfl
/-- the result is stored -/
def put6 (w : World) (b : Nat) (mc mb n0 n1 c0 c1 : Int) : World := (((((w.setCell ⟨b, 0, none⟩ (.int .i64 mc)).setCell ⟨b, 1, none⟩ (.int .i64 mb)).setCell ⟨b, 2, none⟩ (.int .i64 n0)).setCell ⟨b, 3, none⟩ (.int .i64 n1)).setCell ⟨b, 4, none⟩ (.int .i64 c0)).setCell ⟨b, 5, none⟩ (.int .i64 c1)
theorem put6_o {w : World} {b : Nat} {mc mb n0 n1 c0 c1 x0 x1 x2 x3 x4 x5 : Int} (h : w.heap[b]? = some (sO x0 x1 x2 x3 x4 x5)) : (put6 w b mc mb n0 n1 c0 c1).heap[b]? = some (sO mc mb n0 n1 c0 c1) := by
  have h0 := set_blk h 0 (.int .i64 mc)
  have h1 := set_blk h0 1 (.int .i64 mb)
  have h2 := set_blk h1 2 (.int .i64 n0)
  have h3 := set_blk h2 3 (.int .i64 n1)
  have h4 := set_blk h3 4 (.int .i64 c0)
  exact (set_blk h4 5 (.int .i64 c1)).trans rfl
theorem put6_but {w : World} {b : Nat} {mc mb n0 n1 c0 c1 : Int} : But b w (put6 w b mc mb n0 n1 c0 c1) := ((((((But.refl b w).setCell _).setCell _).setCell _).setCell _).setCell _).setCell _
theorem s_cells {w : World} {b : Nat} {mc mb n0 n1 c0 c1 : Int} (h : w.heap[b]? = some (sO mc mb n0 n1 c0 c1)) : w.cell? ⟨b, 0, none⟩ = some (.int .i64 mc) ∧ w.cell? ⟨b, 1, none⟩ = some (.int .i64 mb) ∧ w.cell? ⟨b, 2, none⟩ = some (.int .i64 n0) ∧ w.cell? ⟨b, 3, none⟩ = some (.int .i64 n1) ∧ w.cell? ⟨b, 4, none⟩ = some (.int .i64 c0) ∧ w.cell? ⟨b, 5, none⟩ = some (.int .i64 c1) := by
  refine ⟨?_, ?_, ?_, ?_, ?_, ?_⟩
  all_goals (unfold World.cell?; rw [h]; rfl)
theorem But.far {b x : Nat} {w v v' : World} (h : But b w v) (hx : w.heap.size ≤ x) (k : But x v v') : But b w v' :=
  ⟨k.os.trans h.os, k.tape.trans h.tape, k.output.trans h.output, Nat.le_trans h.size k.size, fun i hi hn => (k.block i (Nat.lt_of_lt_of_le hi h.size) (by omega)).trans (h.block i hi hn)⟩
theorem Sb.sets {w v v' : World} {b : Nat} {s : S} {mc mb n0 n1 c0 c1 mc' mb' n0' n1' c0' c1' what g x y : Int} (h : Sb w v b s mc mb n0 n1 c0 c1 what g x y) (k : But w.heap.size v v') (hs : v'.heap[w.heap.size]? = some (sO mc' mb' n0' n1' c0' c1')) : Sb w v' b s mc' mb' n0' n1' c0' c1' what g x y := by
  have hl := h.lt
  have hz := (Array.getElem?_eq_some_iff.1 h.z).1
  exact ⟨(k.block _ (BoxA.lt h.bud) (by omega)).trans h.bud, hs, (k.block _ (by omega) (by omega)).trans h.a, (k.block _ hz (by omega)).trans h.z, h.bb.far (Nat.le_refl _) k, hl⟩
/-- two cells of the state are set -/
theorem Sb.set0 {w v : World} {b : Nat} {s : S} {mc mb n0 n1 c0 c1 what g x y : Int} (h : Sb w v b s mc mb n0 n1 c0 c1 what g x y) (p q : Int) : Sb w ((v.setCell ⟨w.heap.size, 2, none⟩ (.int .i64 p)).setCell ⟨w.heap.size, 4, none⟩ (.int .i64 q)) b s mc mb p n1 q c1 what g x y :=
  h.sets (((But.refl _ v).setCell _).setCell _) ((set_blk (set_blk h.s 2 (.int .i64 p)) 4 (.int .i64 q)).trans rfl)
theorem Sb.set1 {w v : World} {b : Nat} {s : S} {mc mb n0 n1 c0 c1 what g x y : Int} (h : Sb w v b s mc mb n0 n1 c0 c1 what g x y) (p q : Int) : Sb w ((v.setCell ⟨w.heap.size, 3, none⟩ (.int .i64 p)).setCell ⟨w.heap.size, 5, none⟩ (.int .i64 q)) b s mc mb n0 p c0 q what g x y :=
  h.sets (((But.refl _ v).setCell _).setCell _) ((set_blk (set_blk h.s 3 (.int .i64 p)) 5 (.int .i64 q)).trans rfl)
theorem Sb.setc0 {w v : World} {b : Nat} {s : S} {mc mb n0 n1 c0 c1 what g x y : Int} (h : Sb w v b s mc mb n0 n1 c0 c1 what g x y) (q : Int) : Sb w (v.setCell ⟨w.heap.size, 4, none⟩ (.int .i64 q)) b s mc mb n0 n1 q c1 what g x y :=
  h.sets ((But.refl _ v).setCell _) ((set_blk h.s 4 (.int .i64 q)).trans rfl)
theorem Sb.setc1 {w v : World} {b : Nat} {s : S} {mc mb n0 n1 c0 c1 what g x y : Int} (h : Sb w v b s mc mb n0 n1 c0 c1 what g x y) (q : Int) : Sb w (v.setCell ⟨w.heap.size, 5, none⟩ (.int .i64 q)) b s mc mb n0 n1 c0 q what g x y :=
  h.sets ((But.refl _ v).setCell _) ((set_blk h.s 5 (.int .i64 q)).trans rfl)
theorem Sb.setm {w v : World} {b : Nat} {s : S} {mc mb n0 n1 c0 c1 what g x y : Int} (h : Sb w v b s mc mb n0 n1 c0 c1 what g x y) (p q : Int) : Sb w ((v.setCell ⟨w.heap.size, 0, none⟩ (.int .i64 p)).setCell ⟨w.heap.size, 1, none⟩ (.int .i64 q)) b s p q n0 n1 c0 c1 what g x y :=
  h.sets (((But.refl _ v).setCell _).setCell _) ((set_blk (set_blk h.s 0 (.int .i64 p)) 1 (.int .i64 q)).trans rfl)
theorem Sb.grow {w v v' : World} {b : Nat} {s : S} {mc mb n0 n1 c0 c1 what g x y : Int} (h : Sb w v b s mc mb n0 n1 c0 c1 what g x y) (hb : Below v.heap.size v v') : Sb w v' b s mc mb n0 n1 c0 c1 what g x y := h.op (BoxA.below h.bud hb) (But.of hb)
/-- at the normal end: one act and one world; else as before -/
def onceQ (Q : Exit → Act → World → Prop) (A : Act) (V : World) : Exit → Act → World → Prop
  | .normal, a, w => a = A ∧ w = V
  | e, a, w => Q e a w
theorem region_once {P : Program} {c : Code} {Q : Exit → Act → World → Prop} {a : Act} {w : World} (A : Act) (V : World) (first : Code.wp P c (onceQ Q A V) a w) (rest : Q .normal A V) : Code.wp P c Q a w :=
  Code.wp_mono (fun e a' w' h => by
    cases e
    case normal => obtain ⟨rfl, rfl⟩ := h; exact rest
    all_goals exact h) first
/-- what a step gives -/
def SR (b : Nat) (mc mb n0 c0 n1 c1 : Int) (w : World) : Ending → World → Prop := fun e w' => e = .returned (.tuple #[.pointer (some ⟨b, 0, none⟩), sV mc mb n0 n1 c0 c1, .bool true]) ∧ Bud w' b ⟨mc, mb, n0, c0, n1, c1⟩ ∧ But b w w'
theorem Sb.fin {w v : World} {b : Nat} {s : S} {mc mb n0 n1 c0 c1 what g x y : Int} (h : Sb w v b s mc mb n0 n1 c0 c1 what g x y) (m0 m1 m2 m3 m4 m5 : Int) : Bud (put6 v (w.heap.size + 1 + 1) m0 m1 m2 m3 m4 m5) b s ∧ But b w (put6 v (w.heap.size + 1 + 1) m0 m1 m2 m3 m4 m5) ∧ (put6 v (w.heap.size + 1 + 1) m0 m1 m2 m3 m4 m5).heap[w.heap.size + 1 + 1]? = some (sO m0 m1 m2 m3 m4 m5) := by
  have hl := h.lt
  exact ⟨(put6_but.block _ (BoxA.lt h.bud) (by omega)).trans h.bud, h.bb.far (by omega) put6_but, put6_o h.z⟩
theorem Sb.find {w v : World} {b : Nat} {s : S} {mc mb n0 n1 c0 c1 what g x y : Int} (h : Sb w v b s mc mb n0 n1 c0 c1 what g x y) (m0 m1 m2 m3 m4 m5 : Int) : Bud (put6 v (w.heap.size + 1 + 1) m0 m1 m2 m3 m4 m5).drew b s ∧ But b w (put6 v (w.heap.size + 1 + 1) m0 m1 m2 m3 m4 m5).drew ∧ (put6 v (w.heap.size + 1 + 1) m0 m1 m2 m3 m4 m5).drew.heap[w.heap.size + 1 + 1]? = some (sO m0 m1 m2 m3 m4 m5) := by
  have hf := h.fin m0 m1 m2 m3 m4 m5
  generalize put6 v (w.heap.size + 1 + 1) m0 m1 m2 m3 m4 m5 = P at *
  obtain ⟨h1, h2, h3⟩ := hf
  have hd : Below P.heap.size P P.drew := (Below.refl _ _).drew
  exact ⟨BoxA.below h1 hd, h2.trans (But.of hd), (hd.block _ (Array.getElem?_eq_some_iff.1 h3).1).trans h3⟩
set_option maxRecDepth 100000 in
set_option maxHeartbeats 2000000 in
theorem st_add0 (b : Nat) (mc mb n0 c0 n1 c1 : Int) (hs : (S.mk mc mb n0 c0 n1 c1).ok) (x y : Int) (hx0 : 0 ≤ x) (hx1 : x ≤ 1099511627776) (hfit : n0 + 1 ≤ 2097152 ∧ c0 + x ≤ 2305843009213693952) (w : World) (hb : Bud w b ⟨mc, mb, n0, c0, n1, c1⟩) :
    Calls Try.prog 13 #[.pointer (some ⟨b, 0, none⟩), sV mc mb n0 n1 c0 c1, .agg #[.int .i64 0, .int .i64 0, .int .i64 x, .int .i64 y]] w (SR b (mc) (mb) (n0 + 1) (c0 + x) (n1) (c1) w) := by
  have HO := Lib.hid (fun (v : World) (hv : Bud v b ⟨mc, mb, n0, c0, n1, c1⟩) => Add_ok0 b mc mb n0 c0 n1 c1 hs x hx0 hx1 hfit v hv)
  have HF := Lib.hid (fun v => lfair_any 0 x v)
  have hf : fairI 0 x = true := by unfold fairI; simp; omega
  rw [hf] at HF
  have X0 := Lib.hid (Sb.start hb mc mb n0 n1 c0 c1 0 0 x y)
  have hlt := BoxA.lt hb
  obtain ⟨o1, o2, o3, o4, o5, o6, o7, o8, o9, o10, o11, o12⟩ := hs
  simp only at o1 o2 o3 o4 o5 o6 o7 o8 o9 o10 o11 o12
  have hw1 : IntKind.i64.wrap (n0 + 1) = n0 + 1 := IntWalk.i64_in _ (by omega)
  have hw2 : IntKind.i64.wrap (c0 + x) = c0 + x := IntWalk.i64_in _ (by omega)
  clear hb o1 o2 o3 o4 o5 o6 o7 o8 o9 o10 o11 o12 hf hfit
  unfold SR sV
  unfold sO aO at X0
  go_enter Try.func13, Try.ntmps13
  go_wp2_with fail
  refine (HO.out _ X0.out.bud).mono ?_
  rintro e w1 ⟨rfl, h1, k1⟩
  have X1 := Lib.hid (X0.out.op h1 k1)
  clear h1 k1 X0
  obtain ⟨⟨s0, s1, s2, s3, s4, s5⟩, sf⟩ := X1.out.cs
  obtain ⟨a0, a1, a2, a3⟩ := X1.out.ca
  obtain ⟨⟨z0, z1, z2, z3, z4, z5⟩, zf⟩ := X1.out.cz
  have hsz := (Array.getElem?_eq_some_iff.1 X1.out.z).1
  go_wp2_with fail
  refine (HF.out _).mono ?_
  rintro e wx ⟨rfl, rfl⟩
  go_wp2_with fail
  apply region_once
  case first =>
    go_region_with fail
    all_goals exact ⟨rfl, rfl⟩
  have X2 := Lib.hid ((X1.out.set0 (n0 + 1) (c0 + x)).grow ((Below.refl _ _).drew))
  clear s0 s1 s2 s3 s4 s5 sf a0 a1 a2 a3 z0 z1 z2 z3 z4 z5 zf hsz X1
  generalize ((w1.setCell ⟨w.heap.size, 2, none⟩ (.int .i64 (n0 + 1))).setCell ⟨w.heap.size, 4, none⟩ (.int .i64 (c0 + x))).drew = V at *
  obtain ⟨⟨s0, s1, s2, s3, s4, s5⟩, sf⟩ := X2.out.cs
  obtain ⟨⟨z0, z1, z2, z3, z4, z5⟩, zf⟩ := X2.out.cz
  have hsz := (Array.getElem?_eq_some_iff.1 X2.out.z).1
  go_wp2_with fail
  apply region_once
  case first =>
    go_region_with fail
    all_goals exact ⟨rfl, rfl⟩
  have RF := Lib.hid (X2.out.find (mc) (mb) (n0 + 1) (n1) (c0 + x) (c1))
  unfold put6 at RF
  generalize (((((((V.setCell ⟨w.heap.size + 1 + 1, 0, none⟩ (.int .i64 (mc))).setCell ⟨w.heap.size + 1 + 1, 1, none⟩ (.int .i64 (mb))).setCell ⟨w.heap.size + 1 + 1, 2, none⟩ (.int .i64 (n0 + 1))).setCell ⟨w.heap.size + 1 + 1, 3, none⟩ (.int .i64 (n1))).setCell ⟨w.heap.size + 1 + 1, 4, none⟩ (.int .i64 (c0 + x))).setCell ⟨w.heap.size + 1 + 1, 5, none⟩ (.int .i64 (c1)))).drew = U at *
  go_wp2_with fail
  obtain ⟨u0, u1, u2, u3, u4, u5⟩ := s_cells RF.out.2.2
  refine bodyPost_ret (v := .tuple #[.pointer (some ⟨b, 0, none⟩), sV (mc) (mb) (n0 + 1) (n1) (c0 + x) (c1), .bool true]) (by simp [sV, results, u0, u1, u2, u3, u4, u5, Try.results13, go_sem]) rfl ⟨rfl, RF.out.1, RF.out.2.1⟩
end Go.Proofs.Ytjlfjgmkbjfbcaa.Bud
