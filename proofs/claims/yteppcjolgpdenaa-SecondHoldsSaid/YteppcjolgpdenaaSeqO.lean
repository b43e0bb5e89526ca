/-
  Second chance (layer 31): slices.Clone.
-/
import Derived.Test.YteppcjolgpdenaaSeqN
set_option linter.unusedVariables false
set_option linter.unusedSimpArgs false
namespace Go.Proofs.Yteppcjolgpdenaa.Seq
open Go Go.RowKit Kit Go.Maps
theorem place_info : (Try.prog.info? 65).map (fun i => (i.size, i.bytes, i.zero)) = some (3, 8, some (.agg #[.int .u32 0, .bool false, .bool false])) := by kernel_rfl
set_option maxRecDepth 100000 in
set_option maxHeartbeats 1000000 in
theorem clone_any {W : World} {q cap : Nat} {l : List Pl} (H : Rw W q l) (h1 : 1 ≤ l.length) (h2 : l.length ≤ 1024) (hc : l.length ≤ cap) :
    Calls Try.prog 33 #[.slice (some ⟨q, 0, none⟩) l.length cap] W fun e w' => ∃ g cap', e = .returned (.slice (some ⟨g, 0, none⟩) l.length cap') ∧ Rw w' g l ∧ W.heap.size ≤ g ∧ l.length ≤ cap' ∧ cap' ≤ maxLen ∧ Below W.heap.size W w' := by
  have q22 : ∀ (w : World) (a : Option Addr) (n c n' c' : Nat), (binOp .eql 55 (.slice a n c) (.slice none n' c')).run Try.prog w = .ok (.bool a.isNone) w := fun w a n c n' c' => Lib.run_eql_slice_nil w _ _ a n c n' c' Try.underlying55
  obtain ⟨i0, hi0, hz0, hz1, hz2⟩ := info_parts3 place_info
  have HNW := Lib.hid (fun w' (hb : Below W.heap.size W w') => (H.of (hb.block q H.lt)).news)
  have hcl := cellsL_len l
  obtain ⟨n, hn⟩ : ∃ n, l.length = n := ⟨_, rfl⟩
  rw [hn] at h1 h2 hcl hc ⊢
  have HN := Lib.hid hn
  clear hn H
  go_enter Try.func33, Try.ntmps33
  go_wp2_with (at_builtin; refine wpList_append_own _ rfl (.tmp 5) (.tmp 6) 55 rfl W.heap.size 65 i0 (.agg #[.int .u32 0, .bool false, .bool false]) 3 8 Try.underlying55 hi0 hz0 hz1 hz2 rfl (by decide) _ 0 _ rfl (World.ownsRow_made W #[] 0 (Nat.le_refl _) (Nat.zero_le _) rfl) ⟨q, 0, none⟩ n cap (cellsL l) rfl hcl (HNW.out _ (by go_grown)) (cellsL_one l) (by unfold maxLen; omega) (by omega) (by simp) ?_)
  intro v' w1 hown hgrow _
  obtain ⟨g, cap', rfl, hRw, hbg, hc1, hc2⟩ := rw_own hown HN.out h1
  have hb : Below W.heap.size W w1 := (by go_grown : Below W.heap.size W (W.alloc (.cells #[] 65))).grown hgrow (by simp) (fun k hk => by simp [Value.ownBlock] at hk; omega)
  have HR := Lib.hid hRw
  have HB := Lib.hid hb
  clear hRw hb hown hgrow
  go_wp2
  go_ret
  exact ⟨g, cap', rfl, HR.out, hbg, hc1, hc2, HB.out⟩
end Go.Proofs.Yteppcjolgpdenaa.Seq
