/-
  Links (layer 14): appends of rows in a drawn region; the reference's Remove.
-/
import Derived.Test.YtajkcockeccdoaaLnkX
import Derived.Maps.AppendAt
set_option linter.unusedVariables false
set_option linter.unusedSimpArgs false
namespace Go.Proofs.Ytajkcockeccdoaa.Lnk
open Go Go.RowKit Kit
/-- a row of numbers appended to an owned one, at a step of a region that draws -/
theorem step_appU {w : World} {ops : Array Oper} {o : Oper} {a : Act} {K : Act → World → Prop} {Q : Exit → Act → World → Prop} {E : Prop} (hgd : o.guard = none) (s x : Operand)
    (ho : o.op = .call { callee := .builtin .append, args := #[s, x], argTypes := #[39, 39] })
    (base : Nat) (q0 : Option Addr) (n0 k0 : Nat) (l0 : List Int) (hs : a.eval s = .slice q0 n0 k0) (hown : Ks w base (.slice q0 n0 k0) l0) (h0 : l0.length = n0) (p : Option Addr) (m c : Nat) (l : List Int) (hx : a.eval x = .slice p m c) (hl : l.length = m) (hr : Ru w p l) (hn : n0 + m ≤ 1000000) (hbase : base ≤ w.heap.size)
    (h : ∀ q kk w', Ks w' base (.slice q (n0 + m) kk) (l0 ++ l) → Below base w w' → K (a.put o.dst (.slice q (n0 + m) kk)) w') :
    if Region.wanted o (yielded ops a.tmps) = true then Oper.wp Try.prog o a w K Q else E := by
  have hw : Region.wanted o (yielded ops a.tmps) = true := by simp [Region.wanted, hgd]
  rw [if_pos hw]
  obtain ⟨i0, hi0, hz0, hz1, hz2⟩ := u_parts
  have hu : Try.prog.underlying 39 = some (.slice 38) := by kernel_rfl
  subst h0
  rcases Nat.eq_zero_or_pos m with rfl | hpos
  · obtain rfl : l = [] := List.length_eq_zero_iff.1 hl
    obtain ⟨q', k', hv, h1, h2⟩ := own_form hown
    cases hv
    unfold Oper.wp execOp
    simp only [ho, resolve, invoke, builtin, Sem.run_bind, Sem.run_pure, Result.andThen_ok, List.map_toArray, List.map_cons, List.map_nil, hs, hx, run_append_zero' w _ o.type _ i0 hu hi0 q0 l0.length k0 h1 h2 p c]
    exact h q0 k0 w (by rw [List.append_nil]; exact hown) (Below.refl _ _)
  · obtain ⟨y, rfl⟩ : ∃ y, p = some y := by
      obtain ⟨y, hy, -⟩ := hr 0 (l[0]'(by omega)) (List.getElem?_eq_getElem (by omega))
      exact ⟨y, hy⟩
    obtain ⟨v', w', hr2, h2, h3, _, h5⟩ := run_append_own_at (P := Try.prog) w base 39 o.type _ i0 _ 1 4 hu hi0 hz0 hz1 hz2 rfl (by decide) (.slice q0 l0.length k0) l0.length (l0.map (Value.int .u32)) hown y m c (l.map (Value.int .u32)) (by rw [List.length_map, hl, Nat.mul_one]) (fun j u hj => by obtain ⟨y', hy', _, hc⟩ := hr.rg j u hj; cases hy'; exact hc) (u32_one l) (by unfold maxLen; omega) (by omega) hbase
    have h2' : Ks w' base v' (l0 ++ l) := by
      unfold Ks
      rw [List.length_append, hl, List.map_append]
      exact h2
    obtain ⟨q, kk, rfl, _, _⟩ := own_form h2
    unfold Oper.wp execOp
    simp only [ho, resolve, invoke, builtin, Sem.run_bind, Sem.run_pure, Result.andThen_ok, List.map_toArray, List.map_cons, List.map_nil, hs, hx, hr2]
    exact h q kk w' h2' ((Below.refl base w).grown h3 hbase fun k hk => (hown.lt k hk).1)
theorem step_appU0 {w : World} {ops : Array Oper} {o : Oper} {a : Act} {K : Act → World → Prop} {Q : Exit → Act → World → Prop} {E : Prop} (hgd : o.guard = none) (s x : Operand)
    (ho : o.op = .call { callee := .builtin .append, args := #[s, x], argTypes := #[39, 39] })
    (base : Nat) (hs : a.eval s = .slice none 0 0) (p : Option Addr) (m c : Nat) (l : List Int) (hx : a.eval x = .slice p m c) (hl : l.length = m) (hr : Ru w p l) (hn : m ≤ 1000000) (hbase : base ≤ w.heap.size)
    (h : ∀ q kk w', Ks w' base (.slice q m kk) l → Below base w w' → K (a.put o.dst (.slice q m kk)) w') :
    if Region.wanted o (yielded ops a.tmps) = true then Oper.wp Try.prog o a w K Q else E := by
  refine step_appU hgd s x ho base none 0 0 [] hs (World.ownsRow_nil _ _ _ _) rfl p m c l hx hl hr (by omega) hbase ?_
  intro q kk w' h1 h2
  rw [Nat.zero_add] at h1 ⊢
  exact h q kk w' h1 h2
theorem S2.keep2 {w v v' : World} {N : Nat} {p : Option Addr} {H cp : Nat} {a b : Value} (h : S2 w v N p H cp a b) (hb : Below (w.heap.size + 2) v v') : S2 w v' N p H cp a b :=
  ⟨(hb.block _ (by omega)).trans h.1, (hb.block _ (by omega)).trans h.2.1, h.2.2.trans (hb.mono (by omega))⟩
theorem sx_keep2 {w v v' : World} {N H cp h m ch : Nat} {y : Addr} {ph : Option Addr} (yb : y.block < w.heap.size) (hb : Below (w.heap.size + 2) v v') (hs : v.cell? ⟨w.heap.size, 0, none⟩ = some (.int .i64 (N : Int)) ∧ v.cell? ⟨w.heap.size, 1, none⟩ = some (.slice (some y) H cp) ∧ v.cell? (y.add h) = some (.slice ph m ch) ∧ E2 w v N (some y) H cp) : v'.cell? ⟨w.heap.size, 0, none⟩ = some (.int .i64 (N : Int)) ∧ v'.cell? ⟨w.heap.size, 1, none⟩ = some (.slice (some y) H cp) ∧ v'.cell? (y.add h) = some (.slice ph m ch) ∧ E2 w v' N (some y) H cp := by
  obtain ⟨h0, h1, h2, a, b, h3⟩ := hs
  have k := h3.keep2 hb
  exact ⟨k.cells.1, k.cells.2.1, (hb.cell (by rw [add_block]; omega)).trans h2, a, b, k⟩
end Go.Proofs.Ytajkcockeccdoaa.Lnk
