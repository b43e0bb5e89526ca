/-
  Victims (layer 18): appending rows; slices.Concat of two rows.
-/
import Derived.Test.YtlokilkhlhhjgaaVicA
import Derived.Lib.AppendZeros
set_option linter.unusedVariables false
set_option linter.unusedSimpArgs false
namespace Go.Proofs.Ytlokilkhlhhjgaa.Vic
open Go Go.RowKit Kit
theorem w_info : (Try.prog.info? 34).map (fun i => (i.size, i.bytes, i.zero)) = some (2, 16, some (.agg #[.int .u32 0, .int .i64 0])) := by kernel_rfl
theorem w_parts : ∃ i, Try.prog.info? 34 = some i ∧ i.zero = some (.agg #[.int .u32 0, .int .i64 0]) ∧ i.size = 2 ∧ i.bytes = 16 := by
  have h := w_info
  cases hi : Try.prog.info? 34 with
  | none => rw [hi] at h; simp at h
  | some i => rw [hi] at h; simp at h; exact ⟨i, rfl, h.2.2, h.1, h.2.1⟩
/-- the owned row -/
def Ow (w : World) (B : Nat) (v : Value) (l : List Wg) : Prop := w.ownsRow B 34 2 v l.length (cellsW l)
theorem Ow.form {w : World} {B : Nat} {v : Value} {l : List Wg} (h : Ow w B v l) : ∃ p n k, v = .slice p n k ∧ n = l.length ∧ (p = none → n = 0 ∧ k = 0) ∧ n ≤ k := by
  obtain ⟨_, ⟨hv, hn⟩ | ⟨g, cap, cur, hv, hb, hg, hc, hm, hs, ht⟩⟩ := h
  · exact ⟨none, 0, 0, hv, hn.symm, fun _ => ⟨rfl, rfl⟩, Nat.le_refl _⟩
  · exact ⟨_, _, _, hv, rfl, fun h => (by cases h), hc⟩
/-- a row appended to an owned one -/
theorem wpList_appW {w : World} {ops : Array Oper} {rest : List Oper} {o : Oper} {a : Act} {Q : Exit → Act → World → Prop} (hgd : o.guard = none) (s x : Operand)
    (ho : o.op = .call { callee := .builtin .append, args := #[s, x], argTypes := #[22, 22] })
    (base : Nat) (v : Value) (l0 : List Wg) (hs : a.eval s = v) (hown : Ow w base v l0) (p : Option Addr) (m c : Nat) (l : List Wg) (hx : a.eval x = .slice p m c) (hl : l.length = m) (hr : Rd w p l)
    (hn : l0.length + m ≤ 100000000) (hbase : base ≤ w.heap.size)
    (h : ∀ v' w', Ow w' base v' (l0 ++ l) → Below base w w' → w.heap.size ≤ w'.heap.size → wpList Try.prog ops Q rest (a.put o.dst v') w') :
    wpList Try.prog ops Q (o :: rest) a w := by
  obtain ⟨i0, hi0, hz0, hz1, hz2⟩ := w_parts
  have hu : Try.prog.underlying 22 = some (.slice 34) := by kernel_rfl
  rcases Nat.eq_zero_or_pos m with rfl | hpos
  · obtain rfl : l = [] := List.length_eq_zero_iff.1 hl
    obtain ⟨q, n, k, rfl, -, h1, h2⟩ := hown.form
    refine wpList_plain hgd fun _ hK => ?_
    unfold Oper.wp execOp
    simp only [ho, resolve, invoke, builtin, Sem.run_bind, Sem.run_pure, Result.andThen_ok, List.map_toArray, List.map_cons, List.map_nil, hs, hx, run_append_zero' w _ o.type _ i0 hu hi0 q n k h1 h2 p c]
    exact hK _ _ (h _ w (by rw [List.append_nil]; exact hown) (Below.refl _ _) (Nat.le_refl _))
  · obtain ⟨y, rfl⟩ : ∃ y, p = some y := by
      obtain ⟨y, hy, -⟩ := hr 0 (l[0]'(by omega)) (List.getElem?_eq_getElem (by omega))
      exact ⟨y, hy⟩
    refine wpList_append_own _ hgd s x _ ho base _ i0 _ 2 16 hu hi0 hz0 hz1 hz2 rfl (by decide) v l0.length (cellsW l0) hs hown y m c (cellsW l) hx (by rw [cellsW_len, hl]) (fun j u hj => hr.news j u hj) (cellsW_one l) (by unfold maxLen; omega) (by omega) hbase ?_
    intro v' w' hown' hgrow _
    refine h v' w' ?_ ((Below.refl base w).grown hgrow hbase fun k hk => (hown.lt k hk).1) hgrow.size
    unfold Ow
    rw [List.length_append, hl, cellsW_append]
    exact hown'
set_option maxRecDepth 100000 in
set_option maxHeartbeats 1000000 in
theorem grow_any (n : Nat) (hn : n ≤ 10000000) (w : World) :
    Calls Try.prog 37 #[.slice none 0 0, .int .i64 (n : Int)] w fun e w' => ∃ v, e = .returned v ∧ Ow w' w.heap.size v [] ∧ Below w.heap.size w w' := by
  obtain ⟨i0, hi0, hz0, hz1, hz2⟩ := w_parts
  by_cases h0 : n = 0
  · subst h0
    go_enter Try.func37, Try.ntmps37
    go_wp2_with fail
    go_ret
    exact ⟨_, rfl, World.ownsRow_nil _ _ _ _, Below.refl _ _⟩
  · have h1 : (0 : Int) < (n : Int) := by omega
    have wn := IntWalk.i64_in (n : Int) (by omega)
    have hrz := Lib.run_append_nil_zeros (P := Try.prog) w 22 3 22 34 i0 _ .i64 .i64 (by kernel_rfl) (by kernel_rfl) hi0 hz0 n (by omega) (by omega) (by omega) (by rw [hz2]; omega)
    have hge := grownCap_ge w n 0 34
    have hle := grownCap_le_maxLen w n 0 34 (by unfold maxLen; omega)
    obtain ⟨K, hK⟩ : ∃ K, grownCap w n 0 34 = K := ⟨_, rfl⟩
    rw [hK] at hrz hge hle
    obtain ⟨cz, hcz⟩ : ∃ c, Builtin.zeroCells (Value.agg #[.int .u32 0, .int .i64 0]).cells n ++ Builtin.zeroCells (Value.agg #[.int .u32 0, .int .i64 0]).cells (K - n) = c := ⟨_, rfl⟩
    have hsz : cz.size = K * 2 := by
      rw [← hcz, Array.size_append, size_zeroCells, size_zeroCells]
      show n * 2 + (K - n) * 2 = K * 2
      omega
    rw [hcz] at hrz
    have HO := Lib.hid (World.ownsRow_made (base := w.heap.size) (e := 34) (size := 2) w.drew cz K (Nat.le_refl _) hle hsz)
    have HR := Lib.hid hrz
    clear hrz hcz hsz hK
    have hK1 : (0 : Int) ≤ (K : Int) := by omega
    go_enter Try.func37, Try.ntmps37
    go_wp2_with (at_builtin; refine Lib.wpList_append_run w rfl (.tmp 20) (.tmp 21) 22 3 rfl _ _ rfl rfl _ _ HR.out ?_)
    go_wp2_with fail
    go_ret
    exact ⟨_, rfl, HO.out, by go_grown⟩
end Go.Proofs.Ytlokilkhlhhjgaa.Vic
