/-
  Plain LRU lists (layer 15): room for a slot.
-/
import Derived.Test.YtbbcmheedhdlfaaLruA
import Derived.Test.YtbbcmheedhdlfaaApp
set_option linter.unusedVariables false
set_option linter.unusedSimpArgs false
namespace Go.Proofs.Ytbbcmheedhdlfaa.Lru
open Go Go.RowKit Kit Lnk
theorem kp_trans2 {b1 b2 : Nat → Prop} {x y z : World} (h : Kp b1 x y) (k : Kp b2 y z) (hb : ∀ n, n < x.heap.size → b2 n → b1 n) : Kp b1 x z :=
  ⟨k.os.trans h.os, k.tape.trans h.tape, k.output.trans h.output, Nat.le_trans h.size k.size, fun b h1 h2 => (k.block b (Nat.lt_of_lt_of_le h1 h.size) fun h3 => h2 (hb b h1 h3)).trans (h.block b h1 h2)⟩
/-- what an operation on an LRU list leaves: its blocks are the old ones, or new -/
def Opr (w w' : World) (o c q r : Nat) (l : List Nat) : Prop := ∃ c' q' r' cq cr N F, Lu w' o c' q' r' cq cr N F l ∧ (c' = c ∨ w.heap.size ≤ c') ∧ (q' = q ∨ w.heap.size ≤ q') ∧ (r' = r ∨ w.heap.size ≤ r') ∧ Kp (Ob4 o c q r) w w'
theorem Opr.same {w w' : World} {o c q r cq cr N : Nat} {F : Lnk.Fd} {l : List Nat} (H : Lu w o c q r cq cr N F l) (hb : Below w.heap.size w w') : Opr w w' o c q r l := ⟨c, q, r, cq, cr, N, F, H.below hb, .inl rfl, .inl rfl, .inl rfl, Kp.of hb⟩
theorem Opr.trans {w v u : World} {o c q r c1 q1 r1 : Nat} {l : List Nat} (hc : c1 = c ∨ w.heap.size ≤ c1) (hq : q1 = q ∨ w.heap.size ≤ q1) (hr : r1 = r ∨ w.heap.size ≤ r1) (hk : Kp (Ob4 o c q r) w v) (h : Opr v u o c1 q1 r1 l) : Opr w u o c q r l := by
  obtain ⟨c2, q2, r2, cq, cr, N, F, h1, h2, h3, h4, h5⟩ := h
  have hs := hk.size
  refine ⟨c2, q2, r2, cq, cr, N, F, h1, ?_, ?_, ?_, kp_trans2 hk h5 ?_⟩
  · rcases h2 with rfl | h2
    · exact hc
    · exact .inr (by omega)
  · rcases h3 with rfl | h3
    · exact hq
    · exact .inr (by omega)
  · rcases h4 with rfl | h4
    · exact hr
    · exact .inr (by omega)
  · intro k hk1 hk2
    rcases hk2 with rfl | rfl | rfl | rfl
    · exact .inl rfl
    · exact .inr (.inl (by omega))
    · exact .inr (.inr (.inl (by omega)))
    · exact .inr (.inr (.inr (by omega)))
/-- the numbers as they are -/
theorem same_map {N M : Nat} (hNM : N ≤ M) {l : List Nat} (hn : l.Nodup) (hl : ∀ x ∈ l, x < N) : rnA M (fun n => (List.range N)[n]?.getD 0) 0 [l] (List.replicate [l].length []) = some [l] := by
  have hm : l.map (fun n => (List.range N)[n]?.getD 0) = l := by
    conv => rhs; rw [← List.map_id l]
    exact List.map_congr_left fun x hx => by simp [hl x hx]
  have := rnA_ok (N := M) (t := fun n => (List.range N)[n]?.getD 0) [l] [] 0 rfl (fun l' hl' x hx => by
    simp at hl'
    subst hl'
    have := hl x hx
    simp [this]; omega) (by simpa [hm] using hn)
  simpa [hm] using this
set_option maxRecDepth 100000 in
set_option maxHeartbeats 2000000 in
theorem grow_any {w : World} {o c q r cq cr N : Nat} {F : Lnk.Fd} {l : List Nat} (H : Lu w o c q r cq cr N F l) {x : Nat} (hx : x < 4194304) :
    Calls Try.prog 88 #[.pointer (some ⟨o, 0, none⟩), .int .u32 (x : Int)] w fun e w' => e = .returned (.int .i64 0) ∧ ∃ q' r' cq' cr' N' F', Lu w' o c q' r' cq' cr' N' F' l ∧ x < N' ∧ (q' = q ∨ w.heap.size ≤ q') ∧ (r' = r ∨ w.heap.size ≤ r') ∧ Kp (Ob4 o c q r) w w' := by
  have c0 := H.cell
  have HNO := Lib.hid (fun (v : World) (hb : Below w.heap.size w v) => Nodes_any (H.below hb).lo)
  have HH := Lib.hid H
  have n1 := H.lo.n1
  have n2 := H.lo.n2
  clear H
  have wx := IntWalk.i64_in (x : Int) (by omega)
  by_cases hxN : x < N
  · have h1 : (x : Int) < (N : Int) := by omega
    go_enter Try.func88, Try.ntmps88
    go_wp2_with fail
    refine (HNO.out _ (Below.refl _ _)).mono ?_
    rintro e w1 ⟨rfl, rfl⟩
    go_wp2_with fail
    go_ret
    exact ⟨rfl, q, r, cq, cr, N, F, HH.out, hxN, .inl rfl, .inl rfl, Kp.refl _ _⟩
  · have h1 : ¬ (x : Int) < (N : Int) := by omega
    have hmk := fun v => App.mk_row (t := 39) (e := 38) (z := .int .u32 0) (bytes := 4) (by kernel_rfl) (by kernel_rfl) rfl (by omega) N (by omega) v
    go_enter Try.func88, Try.ntmps88
    go_wp2_with fail
    refine (HNO.out _ (Below.refl _ _)).mono ?_
    rintro e w1 ⟨rfl, rfl⟩
    go_wp2_with fail
    clear hmk
    have R0 := Lib.hid (Row.made w (.int .u32 0) rfl N 38)
    have B0 := Lib.hid (box_below w (madeCells #[.int .u32 0] N) 38)
    go_loopw [21] (fun iv wr => ∃ j : Nat, j ≤ N ∧ iv = .int .i64 (j : Int) ∧ Row wr w.heap.size N 38 (fun k => if k < j then .int .u32 (k : Int) else .int .u32 0) ∧ Below w.heap.size w wr) (fun iv _ => N - (intOf iv).toNat)
    case atStart => exact ⟨0, by omega, rfl, by simpa [Value.cells] using R0.out, B0.out⟩
    case round =>
      obtain ⟨j, hj, rfl, rw0, b0⟩ := hrel
      have RW := Lib.hid rw0
      have BW := Lib.hid b0
      by_cases hjN : j = N
      · subst hjN
        have HLU := Lib.hid (HH.out.below b0)
        have cc := HLU.out.cell
        obtain ⟨a2, ha2⟩ : ∃ a2 : Int, 2 * (j : Int) = a2 := ⟨_, rfl⟩
        obtain ⟨b2, hb2⟩ : ∃ b2 : Int, (x : Int) + 1 = b2 := ⟨_, rfl⟩
        have w1 : IntKind.i64.wrap (2 * (j : Int)) = a2 := by rw [IntWalk.i64_in _ (by omega), ha2]
        have w2 : IntKind.i64.wrap ((x : Int) + 1) = b2 := by rw [IntWalk.i64_in _ (by omega), hb2]
        have hru : Lnk.Ru wr (some ⟨w.heap.size, 0, none⟩) (ints (List.range j)) := fun i z hz => by
          unfold ints at hz
          rw [List.getElem?_map] at hz
          by_cases hi : i < j
          · rw [List.getElem?_range hi] at hz
            cases hz
            refine ⟨_, rfl, rw0.lt, ?_⟩
            rw [Lnk.add2, rw0.cell i hi]
            simp [hi]
          · rw [List.getElem?_eq_none (by simpa using hi)] at hz
            cases hz
        have HRG := Lib.hid (fun (m : Int) (M : Nat) (hm : m = (M : Int)) (hMj : j ≤ M) (hM2 : M ≤ 4194304) (hMx : x < M) => (show Calls Try.prog 57 #[.pointer (some ⟨c, 0, none⟩), .slice (some ⟨w.heap.size, 0, none⟩) j j, .int .i64 m] wr fun e w1 => e = .returned (.int .i64 0) ∧ ∃ q' r' cq' cr' N' F', Lu w1 o c q' r' cq' cr' N' F' l ∧ x < N' ∧ (q' = q ∨ w.heap.size ≤ q') ∧ (r' = r ∨ w.heap.size ≤ r') ∧ Kp (Ob4 o c q r) w w1 from by
          subst hm
          have h0 := Renumber_by (ct := j) HLU.out.lo (List.length_range ..) hru (fun z hz => by have := List.mem_range.1 hz; omega) (show 1 ≤ M by omega) hM2
          rw [same_map hMj (HLU.out.lo.ring.nodup 0 l rfl) (fun z hz => (HLU.out.lo.ring.mem 0 l z rfl hz).1)] at h0
          unfold RnR at h0
          refine h0.mono ?_
          rintro e w1 ⟨rfl, ⟨q', r', cq', cr', F', lo', hq', hr'⟩, kp⟩
          have hs := BW.out.size
          have ho := HLU.out.lt.1
          exact ⟨rfl, q', r', cq', cr', M, F', ⟨(kp.block o ho HLU.out.oc).trans HLU.out.ob, lo', HLU.out.oc, by omega, by omega⟩, hMx, .inr (by omega), .inr (by omega), kp_trans2 (Kp.of BW.out) kp fun k _ hk => .inr (.inl hk)⟩))
        have HXJ := Lib.hid (show (j ≤ x ∧ x < 4194304) ∧ 2 * (j : Int) = a2 ∧ (x : Int) + 1 = b2 from ⟨⟨by omega, hx⟩, ha2, hb2⟩)
        clear hru rw0 b0 hx hxN ha2 hb2
        go_wp2_with fail
        · rename_i h0
          rw [if_pos h] at h0
          have HR1 := Lib.hid (HRG.out b2 b2.toNat (by have := HXJ.out; omega) (by have := HXJ.out; omega) (by have := HXJ.out; omega) (by have := HXJ.out; omega))
          clear h0 h
          refine HR1.out.mono ?_
          rintro e w1 ⟨rfl, hres⟩
          have RES := Lib.hid hres
          clear hres
          go_wp2_with fail
          go_ret
          exact ⟨rfl, RES.out⟩
        · rename_i h0
          rw [if_neg (by omega)] at h0
          have HR1 := Lib.hid (HRG.out a2 a2.toNat (by have := HXJ.out; omega) (by have := HXJ.out; omega) (by have := HXJ.out; omega) (by have := HXJ.out; omega))
          clear h0 h
          refine HR1.out.mono ?_
          rintro e w1 ⟨rfl, hres⟩
          have RES := Lib.hid hres
          clear hres
          go_wp2_with fail
          go_ret
          exact ⟨rfl, RES.out⟩
        · rename_i h0
          have HR1 := Lib.hid (HRG.out 4194304 4194304 (by have := HXJ.out; omega) (by have := HXJ.out; omega) (by have := HXJ.out; omega) (by have := HXJ.out; omega))
          clear h0 h
          refine HR1.out.mono ?_
          rintro e w1 ⟨rfl, hres⟩
          have RES := Lib.hid hres
          clear hres
          go_wp2_with fail
          go_ret
          exact ⟨rfl, RES.out⟩
        · rename_i h0
          have HR1 := Lib.hid (HRG.out 4194304 4194304 (by have := HXJ.out; omega) (by have := HXJ.out; omega) (by have := HXJ.out; omega) (by have := HXJ.out; omega))
          clear h0 h
          refine HR1.out.mono ?_
          rintro e w1 ⟨rfl, hres⟩
          have RES := Lib.hid hres
          clear hres
          go_wp2_with fail
          go_ret
          exact ⟨rfl, RES.out⟩
      · have hjl : (j : Int) < (N : Int) := by omega
        have j0 : (0 : Int) ≤ (j : Int) := by omega
        have wu := IntWalk.u32_in (j : Int) (by omega)
        have wi := IntWalk.i64_in ((j : Int) + 1) (by omega)
        have f1 := rw0.fr j
        have k1 := rw0.cell j (by omega)
        rw [if_neg (by omega)] at k1
        have RS := Lib.hid ((rw0.set j (.int .u32 (j : Int))).congr (g := fun k => if k < j + 1 then .int .u32 (k : Int) else .int .u32 0) (fun k _ => by
          by_cases hk : k = j
          · subst hk; simp
          · by_cases hk2 : k < j
            · simp [hk, hk2, show k < j + 1 by omega]
            · simp [hk, hk2, show ¬ k < j + 1 by omega]))
        have BS := Lib.hid (BW.out.setCell (p := ⟨w.heap.size, j, none⟩) (Nat.le_refl _) (.int .u32 (j : Int)))
        clear rw0 b0 hx hxN n2
        go_wp2_with fail
        go_roundw
        case rel => exact ⟨j + 1, by omega, by go_num, RS.out, BS.out⟩
        case measure => simp [intOf]; omega
end Go.Proofs.Ytbbcmheedhdlfaa.Lru
