/-
  Walks over package entry (layer 4) and its reference: equality, order and copies.
-/
import Derived.Test.YtdhdaknfmpfegaaProg
import Derived.Test.YtdhdaknfmpfegaaKit
import Derived.Test.YtdhdaknfmpfegaaByt
import Derived.Carry
import Derived.BigQuiet
import Derived.Deep.QuietTactic
import Derived.Deep.RegionHeld3
import Derived.Deep.AppendLies
set_option linter.unusedVariables false
set_option linter.unusedSimpArgs false
namespace Go.Proofs.Ytdhdaknfmpfegaa.Ent
open Go.RowKit Kit
abbrev ent (k : ByteArray) (p : Option Addr) (l c : Nat) (d b : Int) : Value := .agg #[.string k, .slice p l c, .int .u64 d, .int .u64 b]
def eqB (ka kb : ByteArray) (xs ys : List Int) (da db ba bb : Int) : Bool := (ka.toList == kb.toList) && ((strOfNums xs).toList == (strOfNums ys).toList) && decide (da = db) && decide (ba = bb)
set_option maxRecDepth 100000 in
theorem requal_any (ka kb : ByteArray) (p1 p2 : Option Addr) (l1 c1 l2 c2 : Nat) (xs ys : List Int) (da db ba bb : Int) (w : World) (h1 : Ev.BytesOf w p1 l1 xs) (h2 : Ev.BytesOf w p2 l2 ys) :
    Calls Try.prog 14 #[ent ka p1 l1 c1 da ba, ent kb p2 l2 c2 db bb] w fun e w' => e = .returned (.bool (eqB ka kb xs ys da db ba bb)) ∧ Below w.heap.size w w' := by
  have e1 := fun (w1 : World) (b : Below w.heap.size w w1) => (h1.below b).str (P := Try.prog) c1 (src := 32) (e := 5) (dst := 9) (by kernel_rfl) (by kernel_rfl) (by kernel_rfl)
  have e2 := fun (w1 : World) (b : Below w.heap.size w w1) => (h2.below b).str (P := Try.prog) c2 (src := 32) (e := 5) (dst := 9) (by kernel_rfl) (by kernel_rfl) (by kernel_rfl)
  replace e1 := e1 ((w.alloc (.cells #[.string ka, .slice p1 l1 c1, .int .u64 da, .int .u64 ba] 36)).alloc (.cells #[.string kb, .slice p2 l2 c2, .int .u64 db, .int .u64 bb] 36)) (by go_grown)
  replace e2 := e2 ((w.alloc (.cells #[.string ka, .slice p1 l1 c1, .int .u64 da, .int .u64 ba] 36)).alloc (.cells #[.string kb, .slice p2 l2 c2, .int .u64 db, .int .u64 bb] 36)) (by go_grown)
  clear h1 h2
  unfold eqB
  go_enter Try.func14, Try.ntmps14
  go_wp2_with fail
  all_goals (first | go_ret | go_ret2)
  all_goals (refine ⟨ret_bool ?_, ?_⟩)
  all_goals (clear e1 e2; first | (go_grown; done) | (simp_all; done) | (by_cases hq : da = db <;> simp_all; done) | (simp_all; rw [Bool.eq_iff_iff]; simp; done) | trace_state)
theorem news_of {w : World} {ad : Addr} {l : Nat} {zs : List Int} (h : Ev.BytesOf w (some ad) l zs) (w1 : World) (b : Below w.heap.size w w1) (j : Nat) (u : Value) (hj : (zs.map (Value.int .u8))[j]? = some u) : w1.cell? (ad.add j) = some u := by
  obtain ⟨h1, -, h3, -⟩ := h.below b
  have hjl : j < zs.length := by have := (List.getElem?_eq_some_iff.1 hj).1; simpa using this
  obtain ⟨p, o, e, hc⟩ := h3 (by omega)
  cases e
  have := hc j (by omega)
  simp [hjl] at hj
  subst hj
  rw [Go.WideShapes.add_plain]
  simpa [List.getD, hjl] using this
set_option maxRecDepth 100000 in
set_option maxHeartbeats 2000000 in
theorem rcopy_some (k : ByteArray) (ad : Addr) (l c : Nat) (zs : List Int) (d b : Int) (hl : l ≤ 100000) (hpos : 0 < l) (w : World) (h : Ev.BytesOf w (some ad) l zs) :
    Calls Try.prog 27 #[ent k (some ad) l c d b] w fun e w' => ∃ p' c', e = .returned (ent k p' l c' d b) ∧ Ev.BytesOf w' p' l zs ∧ Below w.heap.size w w' := by
  have hnews := Lib.hid (news_of h)
  obtain ⟨h1, h2, -, h4⟩ := h
  obtain ⟨i0, hi, hzz⟩ := Option.map_eq_some_iff.1 (by kernel_rfl : (Try.prog.info? 5).map (fun i => (i.zero, i.size, i.bytes)) = some (some (.int .u8 0), 1, 1))
  simp only [Prod.mk.injEq] at hzz
  obtain ⟨hz0, hz1, hz2⟩ := hzz
  go_enter Try.func27, Try.ntmps27
  go_wp2_with fail
  go_region_held3? (fun w' => w'.cell? ⟨w.heap.size, 0, none⟩ = some (.string k) ∧ w'.cell? ⟨w.heap.size, 1, none⟩ = some (.slice (some ad) l c) ∧ w'.cell? ⟨w.heap.size, 2, none⟩ = some (.int .u64 d) ∧ w'.cell? ⟨w.heap.size, 3, none⟩ = some (.int .u64 b))
    (first
      | go_keep
      | (go_split_ands
         refine ⟨?_, ?_, ?_, ?_⟩ <;> (rw [hgrow.cell_far _ (by simp; omega) (by simp [Value.ownBlock])]; simp [go_sem])))
    ((refine step_append_lies _ (by rfl) _ _ _ (by rfl) w.heap.size 5 i0 (.int .u8 0) 1 1 Try.underlying32 hi hz0 hz1 hz2 rfl (by decide) (.slice none 0 0) 0 [] (by rfl) (World.ownsRow_nil _ _ _ _)
        ad l c (zs.map (Value.int .u8)) (by rfl) (by simp; omega) (hnews.out _ (by go_grown)) (by intro u hu; obtain ⟨x, _, rfl⟩ := List.mem_map.1 hu; rfl)
        hpos (by unfold maxLen; omega) (by omega) (by simp; omega) (w.heap.size + 2) (by simp) ?_; intro g cap w1 hown hgrow hat hlt; have f0 : w1.cell? ⟨w.heap.size + 1, 0, none⟩ = some (.string ⟨#[]⟩) := (hgrow.cell_far ⟨w.heap.size + 1, 0, none⟩ (by simp) (by simp [Value.ownBlock])).trans (by simp [go_sem]); have f1 : w1.cell? ⟨w.heap.size + 1, 1, none⟩ = some (.slice none 0 0) := (hgrow.cell_far ⟨w.heap.size + 1, 1, none⟩ (by simp) (by simp [Value.ownBlock])).trans (by simp [go_sem]); have f2 : w1.cell? ⟨w.heap.size + 1, 2, none⟩ = some (.int .u64 0) := (hgrow.cell_far ⟨w.heap.size + 1, 2, none⟩ (by simp) (by simp [Value.ownBlock])).trans (by simp [go_sem]); have f3 : w1.cell? ⟨w.heap.size + 1, 3, none⟩ = some (.int .u64 0) := (hgrow.cell_far ⟨w.heap.size + 1, 3, none⟩ (by simp) (by simp [Value.ownBlock])).trans (by simp [go_sem]); have g0 : w1.frozen? ⟨w.heap.size + 1, 0, none⟩ = false := (hgrow.frozen_far ⟨w.heap.size + 1, 0, none⟩ (by simp) (by simp [Value.ownBlock])).trans (by simp [go_sem]); have g1 : w1.frozen? ⟨w.heap.size + 1, 1, none⟩ = false := (hgrow.frozen_far ⟨w.heap.size + 1, 1, none⟩ (by simp) (by simp [Value.ownBlock])).trans (by simp [go_sem]); have g2 : w1.frozen? ⟨w.heap.size + 1, 2, none⟩ = false := (hgrow.frozen_far ⟨w.heap.size + 1, 2, none⟩ (by simp) (by simp [Value.ownBlock])).trans (by simp [go_sem]); have g3 : w1.frozen? ⟨w.heap.size + 1, 3, none⟩ = false := (hgrow.frozen_far ⟨w.heap.size + 1, 3, none⟩ (by simp) (by simp [Value.ownBlock])).trans (by simp [go_sem])))
  go_wp2_with fail
  refine bodyPost_ret (v := ent k (some ⟨g, 0, none⟩) l cap d b) (by simp [results, Try.results27, go_sem, f0, f1, f2, f3]) rfl ?_
  refine ⟨some ⟨g, 0, none⟩, cap, rfl, ⟨h1, h2, fun _ => ⟨g, 0, rfl, fun j hj => ?_⟩, h4⟩, ?_⟩
  · have ho : w1.ownsRow w.heap.size 5 1 (.slice (some ⟨g, 0, none⟩) zs.length cap) zs.length (zs.map (Value.int .u8)) := by simpa [h1] using hown
    rcases own_cases ho with ⟨h, -⟩ | ⟨g', cap', he, -, -, -, -, hc⟩
    · cases h
    · simp only [Value.slice.injEq, Option.some.injEq, Addr.mk.injEq] at he
      obtain ⟨⟨rfl, -⟩, -, -⟩ := he
      have hne : ¬ g = w.heap.size + 1 := by simp [Value.ownBlock] at hat; omega
      have := hc j (by omega)
      simp [go_sem, hne, Ne.symm hne, this, List.getD, show j < zs.length by omega]
  · have b0 : Below w.heap.size w ((w.alloc (.cells #[.string k, .slice (some ad) l c, .int .u64 d, .int .u64 b] 36)).alloc (.cells #[.string ⟨#[]⟩, .slice none 0 0, .int .u64 0, .int .u64 0] 36)).drew := by go_grown
    have b1 := b0.grown hgrow (by simp; omega) (fun k hk => by simp [Value.ownBlock] at hk)
    exact (((b1.setCell (p := ⟨w.heap.size + 1, 0, none⟩) (by simp) _).setCell (p := ⟨w.heap.size + 1, 1, none⟩) (by simp) _).setCell (p := ⟨w.heap.size + 1, 2, none⟩) (by simp) _).setCell (p := ⟨w.heap.size + 1, 3, none⟩) (by simp) _
theorem run_append_zero {P : Program} (w : World) (t ty e : TypeId) (i : TypeInfo) (ht : P.underlying t = some (.slice e)) (hi : P.info? e = some i) (a : Option Addr) (c : Nat) :
    (Builtin.append_ #[t, t] ty #[.slice none 0 0, .slice a 0 c]).run P w = .ok (.slice none 0 0) w := by
  simp [Builtin.append_, run_underlying ht, Go.sizeOf, typeInfo, hi, Builtin.lenOf, Builtin.firstCells]
  cases a <;> simp [Builtin.firstCells, loadCells, loadCellsFrom]

theorem step_append_zero {P : Program} {w : World} {ops : Array Oper} {o : Oper} {a : Act} {K : Act → World → Prop} {Q : Exit → Act → World → Prop} {E : Prop} (hgd : o.guard = none) (s x : Operand) (t : TypeId)
    (ho : o.op = .call { callee := .builtin .append, args := #[s, x], argTypes := #[t, t] }) (e : TypeId) (i : TypeInfo) (ht : P.underlying t = some (.slice e)) (hi : P.info? e = some i)
    (hs : a.eval s = .slice none 0 0) (ad : Option Addr) (c : Nat) (hx : a.eval x = .slice ad 0 c) (h : K (a.put o.dst (.slice none 0 0)) w) :
    if Region.wanted o (yielded ops a.tmps) = true then Oper.wp P o a w K Q else E := by
  have hw : Region.wanted o (yielded ops a.tmps) = true := by simp [Region.wanted, hgd]
  rw [if_pos hw]
  unfold Oper.wp execOp
  simp only [ho, resolve, invoke, builtin, Sem.run_bind, Sem.run_pure, Result.andThen_ok, List.map_toArray, List.map_cons, List.map_nil, hs, hx, run_append_zero w t o.type e i ht hi ad c]
  exact h
set_option maxRecDepth 100000 in
set_option maxHeartbeats 2000000 in
theorem rcopy_zero (k : ByteArray) (ad : Option Addr) (c : Nat) (zs : List Int) (d b : Int) (w : World) (h : Ev.BytesOf w ad 0 zs) :
    Calls Try.prog 27 #[ent k ad 0 c d b] w fun e w' => ∃ p' c', e = .returned (ent k p' 0 c' d b) ∧ Ev.BytesOf w' p' 0 zs ∧ Below w.heap.size w w' := by
  obtain ⟨h1, h2, -, h4⟩ := h
  obtain ⟨i0, hi, hzz⟩ := Option.map_eq_some_iff.1 (by kernel_rfl : (Try.prog.info? 5).map (fun i => (i.zero, i.size, i.bytes)) = some (some (.int .u8 0), 1, 1))
  go_enter Try.func27, Try.ntmps27
  go_wp2_with fail
  go_region_held3 (fun w' => w'.cell? ⟨w.heap.size, 0, none⟩ = some (.string k) ∧ w'.cell? ⟨w.heap.size, 1, none⟩ = some (.slice ad 0 c) ∧ w'.cell? ⟨w.heap.size, 2, none⟩ = some (.int .u64 d) ∧ w'.cell? ⟨w.heap.size, 3, none⟩ = some (.int .u64 b))
    (go_keep)
    (refine step_append_zero (by rfl) _ _ _ (by rfl) 5 i0 Try.underlying32 hi (by rfl) ad c (by rfl) ?_)
  go_wp2_with fail
  refine bodyPost_ret (v := ent k none 0 0 d b) (by simp [results, Try.results27, go_sem]) rfl ?_
  exact ⟨none, 0, rfl, ⟨h1, h2, Lib.BytesIn.nil _ _ _, h4⟩, by go_grown⟩
theorem rcopy_any (k : ByteArray) (p : Option Addr) (l c : Nat) (zs : List Int) (d b : Int) (hl : l ≤ 100000) (w : World) (h : Ev.BytesOf w p l zs) :
    Calls Try.prog 27 #[ent k p l c d b] w fun e w' => ∃ p' c', e = .returned (ent k p' l c' d b) ∧ Ev.BytesOf w' p' l zs ∧ Below w.heap.size w w' := by
  rcases Nat.eq_zero_or_pos l with rfl | hpos
  · exact rcopy_zero k p c zs d b w h
  · obtain ⟨b0, o0, rfl, -⟩ := h.2.2.1 hpos
    exact rcopy_some k _ l c zs d b hl hpos w h
end Go.Proofs.Ytdhdaknfmpfegaa.Ent
