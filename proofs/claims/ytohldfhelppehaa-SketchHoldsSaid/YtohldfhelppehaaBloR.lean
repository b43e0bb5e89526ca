/-
  Walks over package bloom (layer 34): copies, joins, clearing.
-/
import Derived.Test.YtohldfhelppehaaBloS
import Derived.Lib.SliceRun
set_option linter.unusedVariables false
set_option linter.unusedSimpArgs false
namespace Go.Proofs.Ytohldfhelppehaa.Blo
open Go.RowKit Kit Hash
theorem info_u64 : (Try.prog.info? 22).map (fun i => (i.zero, i.size, i.bytes)) = some (some (.int .u64 0), 1, 8) := by kernel_rfl
set_option maxRecDepth 100000 in
set_option maxHeartbeats 1000000 in
theorem clone_any {W : World} (q n c : Nat) (s : Nat → Bool) (hn1 : 1 ≤ n) (hn : n ≤ 16384) (h : Fr W q n s) :
    Calls Try.prog 60 #[.slice (some ⟨q, 0, none⟩) n c] W fun e w' => ∃ g c', e = .returned (.slice (some ⟨g, 0, none⟩) n c') ∧ n ≤ c' ∧ c' ≤ maxLen ∧ W.heap.size ≤ g ∧ Fr w' g n s ∧ Below W.heap.size W w' := by
  have q22 : ∀ (w : World) (a : Option Addr) (n c n' c' : Nat), (binOp .eql 54 (.slice a n c) (.slice none n' c')).run Try.prog w = .ok (.bool a.isNone) w := fun w a n c n' c' => Lib.run_eql_slice_nil w _ _ a n c n' c' Try.underlying54
  have hq := h.lt
  have hnews : ∀ j u, ((List.range n).map fun i => Value.int .u64 (wd s i : Nat))[j]? = some u → (W.alloc (.cells #[] 22)).cell? ((⟨q, 0, none⟩ : Addr).add j) = some u := by
    intro j v hj
    have hjn : j < n := by have := (List.getElem?_eq_some_iff.1 hj).1; simpa using this
    have := (h.alloc (.cells #[] 22)).cell j hjn
    simp [hjn] at hj
    rw [Go.WideShapes.add_plain, Nat.zero_add, this, ← hj]
  have HS := Lib.hid hnews
  clear hnews h
  obtain ⟨i0, hi, hzz⟩ := Option.map_eq_some_iff.1 info_u64
  simp only [Prod.mk.injEq] at hzz
  obtain ⟨hz0, hz1, hz2⟩ := hzz
  go_enter Try.func60, Try.ntmps60
  go_wp2_with (at_builtin; refine wpList_append_own _ rfl _ _ 54 rfl W.heap.size 22 i0 (.int .u64 0) 1 8 Try.underlying54 hi hz0 hz1 hz2 rfl (by decide) _ _ _ rfl (World.ownsRow_made W #[] 0 (Nat.le_refl _) (Nat.zero_le _) rfl) ⟨q, 0, none⟩ n c ((List.range n).map fun i => Value.int .u64 (wd s i : Nat)) rfl (by simp) HS.out (by intro v hv; obtain ⟨x, _, rfl⟩ := List.mem_map.1 hv; rfl) (by unfold maxLen; omega) (by omega) (by simp) ?_)
  intro v' w1 hown hgrow hnil
  rcases own_row hown (by simp) with ⟨-, h0⟩ | ⟨g, c', rfl, hg, hc1, hc2, hrow⟩
  · omega
  · have hb : Below W.heap.size W w1 := (by go_grown : Below W.heap.size W (W.alloc (.cells #[] 22))).grown hgrow (by simp) (fun k hk => by simp [Value.ownBlock] at hk; omega)
    have hr2 : Fr w1 g n s := by
      exact hrow.congr fun i hi => by simp [List.getD, hi]
    have HR := Lib.hid hr2
    have HB := Lib.hid hb
    clear hrow hr2 hb hown hgrow hnil
    go_wp2
    go_ret
    exact ⟨g, c', rfl, by omega, hc2, hg, HR.out, HB.out⟩
theorem copy_fin {W w' : World} {g n c' : Nat} {hs sd : Int} {s : Nat → Bool} (hc1 : n ≤ c') (hc2 : c' ≤ maxLen) (hr : Fr w' g n s) (hg : W.heap.size ≤ g) (q1 : Below W.heap.size W.drew w') :
    ∃ p' q', Ending.returned (.pointer (some ⟨w'.heap.size, 0, none⟩)) = Ending.returned (.pointer (some ⟨p', 0, none⟩)) ∧ Fl (w'.alloc (.cells #[.int .i64 hs, .int .u64 sd, .bool false, .slice (some ⟨g, 0, none⟩) n c'] 94)) p' q' n hs sd s ∧ W.heap.size ≤ p' ∧ W.heap.size ≤ q' ∧
      Below W.heap.size W (w'.alloc (.cells #[.int .i64 hs, .int .u64 sd, .bool false, .slice (some ⟨g, 0, none⟩) n c'] 94)) := by
  have hl := hr.lt
  exact ⟨_, g, rfl, ⟨Fb.newc w' g n c' hs sd hc1 hc2, hr.alloc _, by omega⟩, by omega, hg, (((Below.refl _ W).drew : Below W.heap.size W W.drew).trans q1).alloc (by omega) _⟩
set_option maxRecDepth 100000 in
set_option maxHeartbeats 4000000 in
theorem copyR {W : World} {p q n : Nat} {hs sd : Int} {s : Nat → Bool} (h : Fl W p q n hs sd s) (ok : Ok n hs sd) :
    Calls Try.prog 27 #[.pointer (some ⟨p, 0, none⟩)] W fun e w' => ∃ p' q', e = .returned (.pointer (some ⟨p', 0, none⟩)) ∧ Fl w' p' q' n hs sd s ∧ W.heap.size ≤ p' ∧ W.heap.size ≤ q' ∧ Below W.heap.size W w' := by
  have HF := Lib.hid h
  have HZ := Lib.hid (isZero_no h.b ok)
  have n1 := ok.n1
  have n2 := ok.n2
  have c0 := h.b.c0
  have c1 := h.b.c1
  have c2 := h.b.c2
  obtain ⟨cp, hcp, c3⟩ := h.b.c3
  clear h ok
  go_enter Try.func27, Try.ntmps27
  go_wp2_with fail
  refine HZ.out.mono ?_
  rintro e w1 ⟨rfl, rfl⟩
  have HCL := Lib.hid (fun (w1 : World) (hb : w1.heap[q]? = W.heap[q]?) => clone_any q n cp s n1 n2 (HF.out.r.of_block hb))
  go_wp2_with fail
  go_region_with (go_at_call 60; refine (HCL.out W.drew rfl).mono ?_; rintro e w' ⟨g, c', rfl, hc1, hc2, hg, hr, q1⟩; have HQ : Fl w' p q n hs sd s := ⟨HF.out.b.of_block (q1.block p HF.out.b.lt), HF.out.r.of_block (q1.block q HF.out.r.lt), HF.out.ne⟩; have m0 := HQ.b.c0; have m1 := HQ.b.c1; have m2 := HQ.b.c2)
  all_goals go_wp2_with fail
  all_goals go_ret
  all_goals exact copy_fin hc1 hc2 hr hg q1
end Go.Proofs.Ytohldfhelppehaa.Blo
