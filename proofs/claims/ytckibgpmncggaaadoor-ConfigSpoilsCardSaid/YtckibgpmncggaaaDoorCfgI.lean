/-
  Configurations (layer 23): the reference's reading.
-/
import Derived.Test.YtckibgpmncggaaaDoorCfgG
import Derived.Deep.AppendLies
import Derived.Laws.OwnMore
import Derived.StillTailTactics
set_option linter.unusedVariables false
set_option linter.unusedSimpArgs false
namespace Go.Proofs.YtckibgpmncggaaaDoor.Cfg
open Go Go.RowKit Kit
theorem info_u64 : (Tryd.prog.info? 22).map (fun i => (i.size, i.bytes, i.zero)) = some (1, 8, some (.int .u64 0)) := by kernel_rfl
theorem info_parts8 {t : TypeId} (h : (Tryd.prog.info? t).map (fun i => (i.size, i.bytes, i.zero)) = some (1, 8, some (.int .u64 0))) : ∃ i, Tryd.prog.info? t = some i ∧ i.zero = some (.int .u64 0) ∧ i.size = 1 ∧ i.bytes = 8 := by
  cases hi : Tryd.prog.info? t with
  | none => rw [hi] at h; simp at h
  | some i => rw [hi] at h; simp at h; exact ⟨i, rfl, h.2.2, h.1, h.2.1⟩
/-- a row of numbers of its own -/
def Nms (w : World) (B : Nat) (v : Value) (l : List Int) : Prop := w.ownsRow B 22 1 v l.length (l.map (Value.int .u64))
theorem at_str (l : List UInt8) (j : Nat) (hj : j < l.length) (w : World) : (Instr.index 9 (.string (str l)) (.int .i64 (j : Int))).run Tryd.prog w = .ok (.int .u8 ((l[j]'hj).toNat : Int)) w := by
  have h1 : j < (str l).size := by rw [str_size]; exact hj
  have h2 : (str l)[j]'h1 = l[j]'hj := by simp [str, ByteArray.getElem_eq_getElem_data]
  simp [Instr.index, asIntOf, run_underlying Tryd.underlying9, h1, h2]
theorem nm_ne (x : UInt8) (p : List Int × Bool) (h : p.2 = true → p.1 ≠ []) : (nm p x).2 = true → (nm p x).1 ≠ [] := by
  unfold nm
  split
  · intro h; cases h
  · split
    · rename_i h2
      intro _ h3
      have := congrArg List.length h3
      simp at this
      exact h h2 this
    · simp
theorem fold_ne (l : List UInt8) : ∀ (p : List Int × Bool), (p.2 = true → p.1 ≠ []) → (l.foldl nm p).2 = true → (l.foldl nm p).1 ≠ [] := by
  induction l with
  | nil => exact fun p h => h
  | cons x l ih => exact fun p h => ih _ (nm_ne x p h)
theorem nm_len (x : UInt8) (p : List Int × Bool) : (nm p x).1.length ≤ p.1.length + 1 := by
  unfold nm
  split
  · simp
  · split <;> simp
theorem fold_len (l : List UInt8) : ∀ (p : List Int × Bool), (l.foldl nm p).1.length ≤ p.1.length + l.length := by
  induction l with
  | nil => exact fun p => Nat.le_refl _
  | cons x l ih =>
    intro p
    have h1 := ih (nm p x)
    have h2 := nm_len x p
    simp only [List.foldl_cons, List.length_cons]
    omega
/-- what was read of the first j bytes -/
def fd (s : List UInt8) (j : Nat) : List Int × Bool := (s.take j).foldl nm ([], false)
theorem fd_succ (s : List UInt8) (j : Nat) (hj : j < s.length) : fd s (j + 1) = nm (fd s j) s[j] := by
  unfold fd
  rw [List.take_add_one, List.foldl_append, List.getElem?_eq_getElem hj]
  rfl
/-- the last number of a row -/
theorem last_of {w : World} {B : Nat} {v : Value} {l : List Int} (h : Nms w B v l) (hl : l ≠ []) : ∃ g cap k x, v = .slice (some ⟨g, 0, none⟩) (k + 1) cap ∧ l.length = k + 1 ∧ l[k]? = some x ∧ B ≤ g ∧ w.cell? ⟨g, k, none⟩ = some (.int .u64 x) ∧ w.frozen? ⟨g, k, none⟩ = false ∧
    ∀ y, Nms (w.setCell ⟨g, k, none⟩ (.int .u64 y)) B v (l.set k y) ∧ Below B w (w.setCell ⟨g, k, none⟩ (.int .u64 y)) := by
  obtain ⟨k, hk⟩ : ∃ k, l.length = k + 1 := ⟨l.length - 1, by have := List.length_pos_iff.2 hl; omega⟩
  unfold Nms at h
  rw [hk] at h
  obtain ⟨g, cap, rfl, hb, hg⟩ := h.form (Nat.succ_pos k)
  have hx : l[k]? = some l[k] := List.getElem?_eq_getElem (by omega)
  refine ⟨g, cap, k, l[k], rfl, hk, hx, hb, ?_, h.frozenAt k, fun y => ⟨?_, ?_⟩⟩
  · rw [h.cellAt k (by omega), List.getElem?_map, hx]; rfl
  · unfold Nms
    rw [List.length_set, hk, List.map_set]
    exact (h.stored k _).1
  · exact (Below.refl B w).setCell (p := ⟨g, k, none⟩) hb _
theorem nms_set {w : World} {B g k cap : Nat} {l : List Int} (h : Nms w B (.slice (some ⟨g, 0, none⟩) (k + 1) cap) l) (hk : l.length = k + 1) (y : Int) : Nms (w.setCell ⟨g, k, none⟩ (.int .u64 y)) B (.slice (some ⟨g, 0, none⟩) (k + 1) cap) (l.set k y) := by
  unfold Nms at *
  rw [hk] at h
  rw [List.length_set, hk, List.map_set]
  exact (h.stored k _).1
set_option maxRecDepth 100000 in
set_option maxHeartbeats 4000000 in
theorem numbers_any (s : List UInt8) (hs : s.length ≤ 1000) (w : World) :
    Calls Tryd.prog 41 #[.string (str s)] w fun e w' => ∃ v, e = .returned v ∧ Nms w' w.heap.size v (nums s) ∧ Below w.heap.size w w' := by
  obtain ⟨i0, hi, hz0, hz1, hz2⟩ := info_parts8 info_u64
  have hss : (str s).size = s.length := str_size s
  go_enter Tryd.func41, Tryd.ntmps41
  go_wp2_with fail
  go_loopw [3, 4, 5] (fun v3 v4 i wr => ∃ j : Nat, j ≤ s.length ∧ i = .int .i64 j ∧ v4 = .bool (fd s j).2 ∧ Nms wr w.heap.size v3 (fd s j).1 ∧ Below w.heap.size w wr) (fun _ _ i _ => s.length - (intOf i).toNat)
  case atStart => exact ⟨0, by omega, rfl, rfl, World.ownsRow_nil _ _ _ _, Below.refl _ _⟩
  case round =>
    obtain ⟨j, hj, rfl, rfl, hN, bW⟩ := hrel
    by_cases hlt : j < s.length
    · have hlt' : (j : Int) < (s.length : Int) := by omega
      have hix := at_str s j hlt
      have HF := Lib.hid (fd_succ s j hlt)
      have HNE := Lib.hid (fold_ne (s.take j) ([], false) (by simp))
      have HL := Lib.hid (fold_len (s.take j) ([], false))
      have hLL : (fd s j).1.length ≤ 1000 := by
        have := HL.out
        simp only [List.length_nil, List.length_take] at this
        unfold fd
        omega
      have hNE : (fd s j).2 = true → (fd s j).1 ≠ [] := HNE.out
      obtain ⟨z0, z1⟩ : 0 ≤ ((s[j]'hlt).toNat : Int) ∧ ((s[j]'hlt).toNat : Int) < 256 := ⟨by omega, by have := (s[j]'hlt).toNat_lt; omega⟩
      obtain ⟨c, hc⟩ : ∃ c, s[j]'hlt = c := ⟨_, rfl⟩
      rw [hc] at hix z0 z1 HF
      generalize hq1 : fd s (j + 1) = P1 at *
      generalize fd s j = P0 at *
      have HQ := Lib.hid hq1
      clear hq1
      clear HNE HL
      by_cases h1 : (c.toNat : Int) < 48
      · have HP := Lib.hid (HF.out.trans (if_pos (Or.inl (by omega))))
        clear hNE
        go_wp2_with fail
        go_roundw
        case rel => exact ⟨j + 1, by omega, by go_num, by rw [HQ.out, HP.out], by rw [HQ.out, HP.out]; exact hN, bW⟩
        case measure => simp [intOf]; omega
      · by_cases h2 : 57 < (c.toNat : Int)
        · have HP := Lib.hid (HF.out.trans (if_pos (Or.inr (by omega))))
          clear hNE
          go_wp2_with fail
          go_roundw
          case rel => exact ⟨j + 1, by omega, by go_num, by rw [HQ.out, HP.out], by rw [HQ.out, HP.out]; exact hN, bW⟩
          case measure => simp [intOf]; omega
        · have u1 := IntWalk.u8_in ((c.toNat : Int) - 48) (by omega)
          have u2 : IntKind.u64.wrap ((c.toNat : Int) - 48) = (c.toNat : Int) - 48 := wrap64u _ (by omega) (by omega)
          have HP0 := Lib.hid (HF.out.trans (if_neg (by omega)))
          cases hb : P0.2 with
          | true =>
            have HP := Lib.hid (HP0.out.trans (if_pos hb))
            obtain ⟨g, cap, k, x, rfl, hk, hx, hg, hc0, hf0, hst⟩ := last_of hN (hNE hb)
            have HST := Lib.hid hst
            have HX := Lib.hid (show P1 = (P0.1.set k (IntKind.u64.wrap (IntKind.u64.wrap (10 * x) + ((c.toNat : Int) - 48))), true) from by rw [HP.out, hk, Nat.add_sub_cancel, hx]; rfl)
            clear hst hNE HP HP0 hx hb
            have hN1 : Nms wr.drew w.heap.size _ P0.1 := World.ownsRow.drew hN
            have HN1 := Lib.hid hN1
            have hc1 : wr.drew.cell? ⟨g, k, none⟩ = some (.int .u64 x) := hc0
            have hf1 : wr.drew.frozen? ⟨g, k, none⟩ = false := hf0
            have b1 : Below w.heap.size w wr.drew := bW.drew
            clear hN hN1 HST
            have hwk := IntWalk.i64_in (k : Int) (by omega)
            have hk0 : (0 : Int) ≤ (k : Int) := by omega
            have hk1 : (k : Int) < (k : Int) + 1 := by omega
            go_wp2_with fail
            go_still_tail 17, (by kernel_rfl)
            change wpList _ _ _ _ _ wr.drew
            generalize wr.drew = Vd at *
            go_wp2_with fail
            go_roundw
            case rel => exact ⟨j + 1, by omega, by go_num, by rw [HQ.out, HX.out], by rw [HQ.out, HX.out]; exact nms_set HN1.out hk _, b1.setCell (p := ⟨g, k, none⟩) hg _⟩
            case measure => simp [intOf]; omega
          | false =>
            have HP := Lib.hid (HP0.out.trans (if_neg (by rw [hb]; decide)))
            have HN := Lib.hid hN
            have HB := Lib.hid hb
            clear hNE HP0 hN
            go_wp2_with (at_builtin; refine wpList_app1 rfl (.tmp 24) (.tmp 25) 66 rfl w.heap.size 22 i0 (.int .u64 0) 8 Tryd.underlying66 hi hz0 hz1 hz2 rfl _ _ _ _ rfl HN.out rfl rfl (by omega) (by omega) bW.size ?_)
            intro v5 w5 o5 e5 _
            have hN5 : Nms w5 w.heap.size v5 (P0.1 ++ [0]) := by
              unfold Nms
              rw [List.length_append, List.map_append]
              exact o5
            obtain ⟨g, cap, k, x, rfl, hk, hx, hg, hc0, hf0, hst⟩ := last_of hN5 (by simp)
            have hk2 : k = P0.1.length := by rw [List.length_append] at hk; simp at hk; omega
            obtain rfl : x = 0 := by
              rw [hk2, List.getElem?_append_right (Nat.le_refl _), Nat.sub_self] at hx
              simpa using hx.symm
            have HST := Lib.hid hst
            have HX := Lib.hid (show P1 = ((P0.1 ++ [0]).set k ((c.toNat : Int) - 48), true) from by
              rw [HP.out, hk2, List.set_append_right _ _ (Nat.le_refl _), Nat.sub_self]; rfl)
            have b5 := bW.trans e5
            have HN1 := Lib.hid (show Nms w5.drew w.heap.size _ (P0.1 ++ [0]) from World.ownsRow.drew hN5)
            have hc1 : w5.drew.cell? ⟨g, k, none⟩ = some (.int .u64 0) := hc0
            have hf1 : w5.drew.frozen? ⟨g, k, none⟩ = false := hf0
            have b6 : Below w.heap.size w w5.drew := b5.drew
            have HK := Lib.hid hk
            have hkl : k ≤ 1000 := by omega
            clear hst HP hx o5 hN5 e5 hb HST hk hk2
            have hwk := IntWalk.i64_in (k : Int) (by omega)
            have hk0 : (0 : Int) ≤ (k : Int) := by omega
            have hk1 : (k : Int) < (k : Int) + 1 := by omega
            go_wp2_with fail
            go_still_tail 17, (by kernel_rfl)
            change wpList _ _ _ _ _ w5.drew
            generalize w5.drew = Vd at *
            go_wp2_with fail
            go_roundw
            case rel => exact ⟨j + 1, by omega, by go_num, by rw [HQ.out, HX.out], by rw [HQ.out, HX.out]; exact nms_set HN1.out HK.out _, b6.setCell (p := ⟨g, k, none⟩) hg _⟩
            case measure => simp [intOf]; omega
    · obtain rfl : j = s.length := by omega
      have HE := Lib.hid (show nums s = (fd s s.length).1 from by unfold nums fd; rw [List.take_length])
      go_wp2_with fail
      go_ret
      exact ⟨_, rfl, by rw [HE.out]; exact hN, bW⟩
end Go.Proofs.YtckibgpmncggaaaDoor.Cfg
