/-
  Victims (layer 18): copy of rows whose elements have two cells.
-/
import Derived.Test.YtlokilkhlhhjgaaVicC
import Derived.Laws.CopyOwn
set_option linter.unusedVariables false
set_option linter.unusedSimpArgs false
namespace Go.Proofs.Ytlokilkhlhhjgaa.Vic
open Go Go.RowKit Kit
theorem run_copy_size {P : Program} (w : World) (dT sT ty elem : TypeId) (g dLen dCap : Nat) (a : Addr) (sLen sCap s : Nat) (cur : Array Value) (t : TypeId) (cs : List Value)
    (hu : P.underlying dT = some (.slice elem)) (hs : (P.info? elem).map (·.size) = some s)
    (hg : w.heap[g]? = some (.cells cur t (0, 0))) (hn : cs.length = Nat.min sLen dLen * s)
    (hsrc : ∀ j v, cs[j]? = some v → w.cell? (a.add j) = some v) (hfit : cs.length ≤ cur.size) (h1 : ∀ v ∈ cs, v.oneCell' = true) :
    (Builtin.copy_ #[dT, sT] ty #[.slice (some ⟨g, 0, none⟩) dLen dCap, .slice (some a) sLen sCap]).run P w =
      .ok (goInt (Nat.min sLen dLen)) (w.setRow g (cs ++ cur.toList.drop cs.length).toArray) := by
  have hl := run_loadCells_list (P := P) w a cs hsrc
  have hst := run_storeCells_at P g 0 t cs 0 cur w hg (by simpa using hfit) h1
  cases hq : P.info? elem with
  | none => simp [hq] at hs
  | some i =>
    have hi : i.size = s := by simpa [hq] using hs
    simp [Builtin.copy_, run_underlying hu, Builtin.lenOf, Builtin.firstCells, sizeOf, typeInfo, hq, hi, ← hn, hl, hst]
theorem run_copy_zero {P : Program} (w : World) (dT sT ty elem : TypeId) (d a : Option Addr) (dLen dCap sLen sCap s : Nat) (hu : P.underlying dT = some (.slice elem)) (hs : (P.info? elem).map (·.size) = some s) (hn : Nat.min sLen dLen = 0) :
    (Builtin.copy_ #[dT, sT] ty #[.slice d dLen dCap, .slice a sLen sCap]).run P w = .ok (goInt 0) w := by
  cases hq : P.info? elem with
  | none => simp [hq] at hs
  | some i =>
    have hl : ∀ (x : Addr), (loadCells x 0).run P w = .ok #[] w := fun x => by simpa using run_loadCells_list (P := P) w x [] (by simp)
    cases d <;> cases a <;> simp [Builtin.copy_, run_underlying hu, Builtin.lenOf, Builtin.firstCells, sizeOf, typeInfo, hq, hn, storeCells, hl]
/-- a row copied onto an owned one of the same length -/
theorem wpList_copyW {w : World} {ops : Array Oper} {rest : List Oper} {o : Oper} {a : Act} {Q : Exit → Act → World → Prop} (hgd : o.guard = none) (d s : Operand)
    (ho : o.op = .call { callee := .builtin .copy, args := #[d, s], argTypes := #[22, 22] })
    (base : Nat) (v : Value) (n : Nat) (xs : List Value) (hd : a.eval d = v) (hown : w.ownsRow base 34 2 v n xs) (p : Option Addr) (m c : Nat) (l : List Wg) (hx : a.eval s = .slice p m c) (hl : l.length = n) (hm : m = n) (hr : Rd w p l)
    (h : ∀ w', Ow w' base v l → Below base w w' → wpList Try.prog ops Q rest (a.put o.dst (goInt n)) w') :
    wpList Try.prog ops Q (o :: rest) a w := by
  subst hm
  have hu : Try.prog.underlying 22 = some (.slice 34) := by kernel_rfl
  have hsz : (Try.prog.info? 34).map (·.size) = some 2 := by
    obtain ⟨i0, hi0, -, hz1, -⟩ := w_parts
    rw [hi0]; simp [hz1]
  refine wpList_plain hgd fun _ hK => ?_
  unfold Oper.wp execOp
  rcases Nat.eq_zero_or_pos m with rfl | hpos
  · obtain rfl : l = [] := List.length_eq_zero_iff.1 hl
    have hv : ∃ q k, v = .slice q 0 k := by
      obtain ⟨_, ⟨hv, -⟩ | ⟨g, cap, cur, hv, -⟩⟩ := hown
      · exact ⟨_, _, hv⟩
      · exact ⟨_, _, hv⟩
    obtain ⟨q, k, rfl⟩ := hv
    simp only [ho, resolve, invoke, builtin, Sem.run_bind, Sem.run_pure, Result.andThen_ok, List.map_toArray, List.map_cons, List.map_nil, hd, hx, run_copy_zero (P := Try.prog) w _ _ o.type _ q p 0 k 0 c 2 hu hsz rfl]
    refine hK _ _ (h w ?_ (Below.refl _ _))
    obtain ⟨hxl, ho2⟩ := hown
    refine ⟨rfl, ?_⟩
    rcases ho2 with ⟨hv, hn⟩ | ⟨g, cap, cur, hv, hb, hg, hc, hmx, hs, ht⟩
    · exact .inl ⟨hv, rfl⟩
    · exact .inr ⟨g, cap, cur, hv, hb, hg, hc, hmx, hs, by simp [cellsW]⟩
  · obtain ⟨y, rfl⟩ : ∃ y, p = some y := by
      obtain ⟨y, hy, -⟩ := hr 0 (l[0]'(by omega)) (List.getElem?_eq_getElem (by omega))
      exact ⟨y, hy⟩
    obtain ⟨_, ⟨-, hn⟩ | ⟨g, cap, cur, rfl, hb, hg, hc, hmx, hs, ht⟩⟩ := hown
    · omega
    · have hcl : (cellsW l).length = m * 2 := by rw [cellsW_len, hl]
      have hfit : (cellsW l).length ≤ cur.size := by rw [hcl, hs]; omega
      have hrun := run_copy_size (P := Try.prog) w 22 22 o.type 34 g m cap y m c 2 cur 34 (cellsW l) hu hsz hg (by rw [hcl]; simp) (fun j u hj => hr.news j u hj) hfit (cellsW_one l)
      rw [show Nat.min m m = m from Nat.min_self m] at hrun
      simp only [ho, resolve, invoke, builtin, Sem.run_bind, Sem.run_pure, Result.andThen_ok, List.map_toArray, List.map_cons, List.map_nil, hd, hx, hrun]
      refine hK _ _ (h _ ?_ (below_setRow (Below.refl _ _) hb _))
      refine ⟨by rw [hcl, hl], .inr ⟨g, cap, _, by rw [hl], hb, setRow_heap w g _ _ _ _ hg, by rw [hl]; exact hc, hmx, ?_, ?_⟩⟩
      · simp only [List.size_toArray, List.length_append, List.length_drop, Array.length_toList]; omega
      · rw [hl, ← hcl]; simp
end Go.Proofs.Ytlokilkhlhhjgaa.Vic
