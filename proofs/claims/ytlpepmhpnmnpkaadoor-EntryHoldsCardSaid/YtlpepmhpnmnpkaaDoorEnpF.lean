/-
  Entries (layer 4): the reference's words of a line.
-/
import Derived.Test.YtlpepmhpnmnpkaaDoorEnpE
import Derived.StillTailTactics
set_option linter.unusedVariables false
set_option linter.unusedSimpArgs false
namespace Go.Proofs.YtlpepmhpnmnpkaaDoor.Ent
open Go Go.RowKit Kit
abbrev sv (x : List UInt8) : Value := .string (str x)
theorem info_str : (Tryd.prog.info? 9).map (fun i => (i.size, i.bytes, i.zero)) = some (1, 16, some (.string ⟨#[]⟩)) := by kernel_rfl
theorem info_partsS {t : TypeId} (h : (Tryd.prog.info? t).map (fun i => (i.size, i.bytes, i.zero)) = some (1, 16, some (.string ⟨#[]⟩))) : ∃ i, Tryd.prog.info? t = some i ∧ i.zero = some (.string ⟨#[]⟩) ∧ i.size = 1 ∧ i.bytes = 16 := by
  cases hi : Tryd.prog.info? t with
  | none => rw [hi] at h; simp at h
  | some i => rw [hi] at h; simp at h; exact ⟨i, rfl, h.2.2, h.1, h.2.1⟩
/-- the words in a row -/
def Ws (w : World) (B : Nat) (v : Value) (L : List (List UInt8)) : Prop := w.ownsRow B 9 1 v L.length (L.map sv)
theorem str_one (s : List UInt8) (k : Nat) (h : k < s.length) : (str s).extract k (k + 1) = str [s[k]] := by
  apply ByteArray.ext
  rw [ByteArray.data_extract]
  simp only [str]
  apply Array.ext'
  rw [Array.toList_extract, List.extract_eq_take_drop, show k + 1 - k = 1 from by omega]
  show List.take 1 (List.drop k s) = [s[k]]
  rw [List.drop_eq_getElem_cons h]
  rfl
set_option maxRecDepth 100000 in
set_option maxHeartbeats 1000000 in
theorem rsplit_any (s : List UInt8) (hl : s.length ≤ 1000) (W : World) :
    Calls Tryd.prog 51 #[.string (str s)] W fun e w' => ∃ v, e = .returned v ∧ Ws w' W.heap.size v (wordsOf s) ∧ Below W.heap.size W w' := by
  have hsz := str_size s
  obtain ⟨n, hn⟩ : ∃ n, s.length = n := ⟨_, rfl⟩
  have HIX := Lib.hid (fun j hj w => at_s s j hj w)
  rw [hn] at hsz
  obtain ⟨i0, hi0, hz0, hz1, hz2⟩ := info_partsS info_str
  have ho0 := World.ownsRow_lit (base := W.heap.size) (e := 9) (size := 1) W #[.string ⟨#[]⟩] 1 (Nat.le_refl _) (by unfold maxLen; omega) rfl
  go_enter Tryd.func51, Tryd.ntmps51
  go_wp2_with fail
  go_loopw [3, 4] (fun v i wr => ∃ k : Nat, k ≤ n ∧ i = .int .i64 (k : Int) ∧ Ws wr W.heap.size v ((s.take k).foldl spl [[]]) ∧ Below W.heap.size W wr) (fun _ i _ => n - (intOf i).toNat)
  case atStart => exact ⟨0, by omega, rfl, ho0, by go_grown⟩
  case round =>
    clear ho0
    obtain ⟨k, hk, rfl, hown, hB⟩ := hrel
    by_cases hlt : k < n
    · have hlt1 : k < s.length := by omega
      have i1 := HIX.out k hlt1
      have HFT := Lib.hid (fold_take s hlt1)
      have hwl := words_len (s.take k) [[]] (by simp)
      rw [List.length_take] at hwl
      have hso := str_one s k hlt1
      generalize s[k] = c at *
      obtain ⟨L, hL⟩ : ∃ L, (s.take k).foldl spl [[]] = L := ⟨_, rfl⟩
      rw [hL] at hown hwl HFT
      have hwl2 : L.length ≤ 1001 := by have := hwl.2; simp at this; omega
      have hcl := c.toNat_lt
      by_cases hc : c = 32
      · subst hc
        have HF2 := Lib.hid (show (s.take (k + 1)).foldl spl [[]] = L ++ [[]] from by rw [HFT.out]; unfold spl; rw [if_pos rfl])
        have hsz8 := hB.size
        have HO := Lib.hid hown
        have HBD := Lib.hid hB
        have hi1 : ∀ w, (Instr.index 9 (.string (str s)) (.int .i64 (k : Int))).run Tryd.prog w = .ok (.int .u8 32) w := i1
        clear hL hown hB i1 hso
        go_wp2_with (at_builtin; refine wpList_app1e rfl (.tmp 16) (.tmp 17) 72 rfl W.heap.size 9 i0 (.string ⟨#[]⟩) 16 Tryd.underlying72 hi0 hz0 hz1 hz2 rfl _ _ _ (.string ⟨#[]⟩) rfl HO.out rfl rfl (by omega) (by omega) hsz8 ?_)
        intro v5 w5 o5 e5 l5
        go_wp2_with fail
        go_roundw
        case rel => exact ⟨k + 1, by omega, by go_num, by rw [HF2.out]; unfold Ws; rw [List.length_append, List.map_append]; exact o5, HBD.out.trans e5⟩
        case measure => simp [intOf]; omega
      · obtain ⟨p, x, rfl⟩ := ends L hwl.1
        have HF2 := Lib.hid (show (s.take (k + 1)).foldl spl [[]] = p ++ [x ++ [c]] from by rw [HFT.out, spl_last p x c hc])
        have hcb : (((c.toNat : Nat) : Int) == 32) = false := by
          rw [beq_eq_false_iff_ne]
          intro h
          exact hc (UInt8.toNat.inj (by show c.toNat = 32; omega))
        generalize (c.toNat : Int) = ci at *
        have hown' := hown
        obtain ⟨_, ⟨-, hn0⟩ | ⟨g, cap, cur, rfl, hbg, hg, hcap, hcm, hcs, htk⟩⟩ := hown'
        · simp at hn0
        have hfr := World.ownsRow.frozenAt hown
        have hce := World.ownsRow.cellAt hown p.length (by simp)
        have hst := fun u => World.ownsRow.stored hown p.length u
        rw [show ((p ++ [x]).map sv)[p.length]? = some (sv x) from by simp] at hce
        have hlx : (p ++ [x]).length = p.length + 1 := by simp
        rw [hlx] at hst hcap hwl
        have hgl := (Array.getElem?_eq_some_iff.1 hg).1
        have hxl : x.length ≤ 1000 := by
          have h1 := joinS_fold (s.take k) [[]] (by simp)
          rw [hL] at h1
          have h2 := congrArg List.length h1
          simp [joinS] at h2
          omega
        have hced : wr.drew.cell? ⟨g, p.length, none⟩ = some (.string (str x)) := hce
        have hcee : wr.cell? ⟨g, p.length, none⟩ = some (.string (str x)) := hce
        clear hce
        have hce := hcee
        clear hcee
        have hfrd : ∀ j, wr.drew.frozen? ⟨g, j, none⟩ = false := hfr
        have HBD := Lib.hid (show Below W.heap.size W wr.drew from Below.drew hB)
        have HST := Lib.hid (show ∀ u, (wr.drew.setCell ⟨g, p.length, none⟩ u).ownsRow W.heap.size 9 1 (.slice (some ⟨g, 0, none⟩) (p.length + 1) cap) (p.length + 1) (((p ++ [x]).map sv).set p.length u) from fun u => (hst u).1)
        have HBG := Lib.hid hbg
        have hxs := str_size x
        have hos : ((str s).extract k (k + 1)).size = 1 := by rw [hso]; rfl
        have hsl := fun w => run_slice_string (P := Tryd.prog) w 9 (str s) .i64 .i64 (k : Int) ((k : Int) + 1) Tryd.underlying9 (by omega) (by omega) (by rw [hsz]; omega)
        rw [show ((k : Int)).toNat = k from by omega, show ((k : Int) + 1).toNat = k + 1 from by omega, hso] at hsl
        rw [hso] at hos
        have hkn : (k : Int) < (n : Int) := by omega
        have hk1 : (k : Int) + 1 ≤ (n : Int) := by omega
        have w1 := IntWalk.i64_in ((k : Int) + 1) (by omega)
        have hgld : g < wr.drew.heap.size := hgl
        have hov : ¬ (9223372036854775807 : Nat) < x.length + 1 := by omega
        have hov2 : ¬ (9223372036854775807 : Int) < (x.length : Int) + 1 := by omega
        rw [hlx]
        clear hL hown hB hst hg htk hcs hlx HFT
        obtain ⟨m, hm⟩ : ∃ m, p.length = m := ⟨_, rfl⟩
        have HM := Lib.hid hm
        rw [hm] at hced hce hcap hwl HST ⊢
        have w2 := IntWalk.i64_in (m : Int) (by have := hwl2; rw [List.length_append, hm] at this; simp at this; omega)
        have hmm : (m : Int) < (m : Int) + 1 := by omega
        clear hm
        go_wp2_with fail
        go_still_tail 17, (by kernel_rfl)
        change wpList _ _ _ _ _ wr.drew
        generalize wr.drew = Vd at *
        go_wp2_with fail
        go_roundw
        case rel =>
          refine ⟨k + 1, by omega, by go_num, ?_, HBD.out.setCell (p := ⟨g, m, none⟩) HBG.out _⟩
          rw [HF2.out]
          have h1 := HST.out (.string (str x ++ str [c]))
          unfold Ws
          rw [str_append] at h1 ⊢
          rw [List.length_append, show ([x ++ [c]] : List (List UInt8)).length = 1 from rfl, HM.out, List.map_append]
          rw [List.map_append, ← HM.out, List.set_append_right _ _ (by simp)] at h1
          rw [← HM.out]
          simpa using h1
        case measure => simp [intOf]; omega
    · obtain rfl : k = n := by omega
      rw [List.take_of_length_le (by omega)] at hown
      go_wp2_with fail
      go_ret
      exact ⟨_, rfl, hown, hB⟩
end Go.Proofs.YtlpepmhpnmnpkaaDoor.Ent
