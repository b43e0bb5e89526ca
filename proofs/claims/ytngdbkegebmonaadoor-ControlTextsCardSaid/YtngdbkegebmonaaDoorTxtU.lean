/-
  ControlTexts (layer 5): the reference's text of a group; the law.
-/
import Derived.Test.YtngdbkegebmonaaDoorTxtV
set_option linter.unusedVariables false
set_option linter.unusedSimpArgs false
namespace Go.Proofs.YtngdbkegebmonaaDoor.Num
open Go.RowKit Kit Go.Sort
set_option maxRecDepth 100000 in
theorem text_bad (x : Int) (hx : Ctl.U64 x) (hv : Ctl.vaB x = false) (w : World) :
    Calls Tryd.prog 26 #[.int .u64 x] w fun e w' => e = .returned (.tuple #[.string ⟨#[]⟩, .int .i64 2]) ∧ Below w.heap.size w w' := by
  have HV := Lib.hid (hv ▸ Ctl.valid_any x hx)
  clear hv hx
  go_enter Tryd.func26, Tryd.ntmps26
  go_wp2_with fail
  refine (HV.out _).mono ?_
  rintro e w1 ⟨rfl, rfl⟩
  go_wp2_with fail
  go_ret2
  exact ⟨rfl, by go_grown⟩
set_option maxRecDepth 100000 in
set_option maxHeartbeats 2000000 in
theorem rtext_ok (x : Int) (hx : Ctl.U64 x) (c : Nat → Nat) (hc : ∀ i, c i < 256) (hl : ∀ i, Word.lane x i = (c i : Int)) (w : World) :
    Calls Tryd.prog 27 #[.int .u64 x] w fun e w' => e = .returned (.string (catT c 8)) ∧ Below w.heap.size w w' := by
  have HB := Lib.hid (Word.rbytes_any x hx.1 hx.2)
  unfold Word.lanes at HB
  simp only [hl] at HB
  have HN := Lib.hid (fun (i : Nat) (w1 : World) => rnumber_any (c i) (by have := hc i; omega) w1)
  clear hx hl
  go_enter Tryd.func27, Tryd.ntmps27
  go_wp2_with fail
  refine (HB.out _).mono ?_
  rintro e w2 ⟨rfl, b2⟩
  go_wp2_with fail
  generalize hT : w2.alloc (Obj.cells #[Value.int IntKind.u8 (c 0), Value.int IntKind.u8 (c 1), Value.int IntKind.u8 (c 2), Value.int IntKind.u8 (c 3), Value.int IntKind.u8 (c 4), Value.int IntKind.u8 (c 5), Value.int IntKind.u8 (c 6), Value.int IntKind.u8 (c 7)] 44) = W
  have hW : Below w.heap.size w W := by rw [← hT]; exact tr b2 (by go_grown)
  have kc : ∀ q, q < 8 → W.cell? ⟨w2.heap.size, q, none⟩ = some (.int .u8 (c q)) := by
    have hp := (MapKept.heap_alloc w2 (Obj.cells #[Value.int IntKind.u8 (c 0), Value.int IntKind.u8 (c 1), Value.int IntKind.u8 (c 2), Value.int IntKind.u8 (c 3), Value.int IntKind.u8 (c 4), Value.int IntKind.u8 (c 5), Value.int IntKind.u8 (c 6), Value.int IntKind.u8 (c 7)] 44)).1
    rw [hT] at hp
    clear hT hW HB HN b2
    intro q hq
    obtain rfl | rfl | rfl | rfl | rfl | rfl | rfl | rfl : q = 0 ∨ q = 1 ∨ q = 2 ∨ q = 3 ∨ q = 4 ∨ q = 5 ∨ q = 6 ∨ q = 7 := by omega
    all_goals simp [World.cell?, hp]
  have hs : ∀ j, (catT c j).size ≤ 4 * j + 3 := by
    intro j
    induction j with
    | zero => show (⟨#[]⟩ : ByteArray).size ≤ _; simp [ByteArray.size]
    | succ j ih => cases j with
      | zero => have := ltx_len (c 0) (hc 0); show (ltx (c 0)).size ≤ _; omega
      | succ j =>
        have := ltx_len (c (j + 1)) (hc (j + 1))
        show (catT c (j + 1) ++ ⟨#[32]⟩ ++ ltx (c (j + 1))).size ≤ _
        rw [ByteArray.size_append, ByteArray.size_append]
        have h1 : (⟨#[32]⟩ : ByteArray).size = 1 := rfl
        omega
  clear hT
  go_loopw [3, 5] (fun o i wr => ∃ j : Nat, j ≤ 8 ∧ i = .int .i64 j ∧ o = .string (catT c j) ∧ wr = W) (fun _ i _ => 8 - (intOf i).toNat)
  case atStart => exact ⟨0, by omega, rfl, rfl, rfl⟩
  case round =>
    obtain ⟨j, hj, rfl, rfl, rfl⟩ := hrel
    by_cases hlt : j < 8
    · obtain rfl | rfl | rfl | rfl | rfl | rfl | rfl | rfl : j = 0 ∨ j = 1 ∨ j = 2 ∨ j = 3 ∨ j = 4 ∨ j = 5 ∨ j = 6 ∨ j = 7 := by omega
      · have kj := kc 0 (by decide)
        clear kc
        have hc' := hc 0
        have hs' := hs 0
        clear hs
        have hE := Lib.hid (show catT c 0 ++ ltx (c 0) = catT c 1 from by rw [show catT c 0 = ⟨#[]⟩ from rfl]; exact ByteArray.empty_append)
        generalize catT c 0 = o at *
        generalize hq : catT c 1 = o1 at *
        have hq' := Lib.hid hq
        clear hq
        have hs1 : ¬ 9223372036854775807 < o.size + 1 := by omega
        have hs2 : ¬ 9223372036854775807 < o.size + 1 + 1 := by omega
        by_cases e1 : c 0 = 128
        · have hL := Lib.hid (show (⟨#[45]⟩ : ByteArray) = ltx (c 0) from (if_pos e1).symm)
          rw [e1] at kj
          go_wp2_with fail
          go_roundw
          case rel => exact ⟨1, by omega, rfl, by rw [hq'.out, ← hE.out, ← hL.out], trivial⟩
          case measure => simp [intOf]
        by_cases e2 : c 0 = 254
        · have hL := Lib.hid (show (⟨#[120]⟩ : ByteArray) = ltx (c 0) from ((if_neg e1).trans (if_pos e2)).symm)
          rw [e2] at kj
          go_wp2_with fail
          go_roundw
          case rel => exact ⟨1, by omega, rfl, by rw [hq'.out, ← hE.out, ← hL.out], trivial⟩
          case measure => simp [intOf]
        · have hL := Lib.hid (show dec (c 0) = ltx (c 0) from ((if_neg e1).trans (if_neg e2)).symm)
          have b1 : ((c 0 : Int) == 128) = false := by rw [beq_eq_false_iff_ne]; omega
          have b2 : ((c 0 : Int) == 254) = false := by rw [beq_eq_false_iff_ne]; omega
          have i0 : (c 0 : Int) < 256 := by omega
          have hd : (dec (c 0)).size ≤ 3 := dec_len _ hc'
          have hd1 : ¬ 9223372036854775807 < o.size + (dec (c 0)).size := by omega
          have hd2 : ¬ 9223372036854775807 < o.size + 1 + (dec (c 0)).size := by omega
          clear e1 e2
          go_wp2_with fail
          refine (HN.out 0 _).mono ?_
          rintro e w3 ⟨rfl, rfl⟩
          go_wp2_with fail
          go_roundw
          case rel => exact ⟨1, by omega, rfl, by rw [hq'.out, ← hE.out, ← hL.out], trivial⟩
          case measure => simp [intOf]
      · have kj := kc 1 (by decide)
        clear kc
        have hc' := hc 1
        have hs' := hs 1
        clear hs
        have hE := Lib.hid (show catT c 1 ++ ⟨#[32]⟩ ++ ltx (c 1) = catT c 2 from rfl)
        generalize catT c 1 = o at *
        generalize hq : catT c 2 = o1 at *
        have hq' := Lib.hid hq
        clear hq
        have hs1 : ¬ 9223372036854775807 < o.size + 1 := by omega
        have hs2 : ¬ 9223372036854775807 < o.size + 1 + 1 := by omega
        by_cases e1 : c 1 = 128
        · have hL := Lib.hid (show (⟨#[45]⟩ : ByteArray) = ltx (c 1) from (if_pos e1).symm)
          rw [e1] at kj
          go_wp2_with fail
          go_roundw
          case rel => exact ⟨2, by omega, rfl, by rw [hq'.out, ← hE.out, ← hL.out], trivial⟩
          case measure => simp [intOf]
        by_cases e2 : c 1 = 254
        · have hL := Lib.hid (show (⟨#[120]⟩ : ByteArray) = ltx (c 1) from ((if_neg e1).trans (if_pos e2)).symm)
          rw [e2] at kj
          go_wp2_with fail
          go_roundw
          case rel => exact ⟨2, by omega, rfl, by rw [hq'.out, ← hE.out, ← hL.out], trivial⟩
          case measure => simp [intOf]
        · have hL := Lib.hid (show dec (c 1) = ltx (c 1) from ((if_neg e1).trans (if_neg e2)).symm)
          have b1 : ((c 1 : Int) == 128) = false := by rw [beq_eq_false_iff_ne]; omega
          have b2 : ((c 1 : Int) == 254) = false := by rw [beq_eq_false_iff_ne]; omega
          have i0 : (c 1 : Int) < 256 := by omega
          have hd : (dec (c 1)).size ≤ 3 := dec_len _ hc'
          have hd1 : ¬ 9223372036854775807 < o.size + (dec (c 1)).size := by omega
          have hd2 : ¬ 9223372036854775807 < o.size + 1 + (dec (c 1)).size := by omega
          clear e1 e2
          go_wp2_with fail
          refine (HN.out 1 _).mono ?_
          rintro e w3 ⟨rfl, rfl⟩
          go_wp2_with fail
          go_roundw
          case rel => exact ⟨2, by omega, rfl, by rw [hq'.out, ← hE.out, ← hL.out], trivial⟩
          case measure => simp [intOf]
      · have kj := kc 2 (by decide)
        clear kc
        have hc' := hc 2
        have hs' := hs 2
        clear hs
        have hE := Lib.hid (show catT c 2 ++ ⟨#[32]⟩ ++ ltx (c 2) = catT c 3 from rfl)
        generalize catT c 2 = o at *
        generalize hq : catT c 3 = o1 at *
        have hq' := Lib.hid hq
        clear hq
        have hs1 : ¬ 9223372036854775807 < o.size + 1 := by omega
        have hs2 : ¬ 9223372036854775807 < o.size + 1 + 1 := by omega
        by_cases e1 : c 2 = 128
        · have hL := Lib.hid (show (⟨#[45]⟩ : ByteArray) = ltx (c 2) from (if_pos e1).symm)
          rw [e1] at kj
          go_wp2_with fail
          go_roundw
          case rel => exact ⟨3, by omega, rfl, by rw [hq'.out, ← hE.out, ← hL.out], trivial⟩
          case measure => simp [intOf]
        by_cases e2 : c 2 = 254
        · have hL := Lib.hid (show (⟨#[120]⟩ : ByteArray) = ltx (c 2) from ((if_neg e1).trans (if_pos e2)).symm)
          rw [e2] at kj
          go_wp2_with fail
          go_roundw
          case rel => exact ⟨3, by omega, rfl, by rw [hq'.out, ← hE.out, ← hL.out], trivial⟩
          case measure => simp [intOf]
        · have hL := Lib.hid (show dec (c 2) = ltx (c 2) from ((if_neg e1).trans (if_neg e2)).symm)
          have b1 : ((c 2 : Int) == 128) = false := by rw [beq_eq_false_iff_ne]; omega
          have b2 : ((c 2 : Int) == 254) = false := by rw [beq_eq_false_iff_ne]; omega
          have i0 : (c 2 : Int) < 256 := by omega
          have hd : (dec (c 2)).size ≤ 3 := dec_len _ hc'
          have hd1 : ¬ 9223372036854775807 < o.size + (dec (c 2)).size := by omega
          have hd2 : ¬ 9223372036854775807 < o.size + 1 + (dec (c 2)).size := by omega
          clear e1 e2
          go_wp2_with fail
          refine (HN.out 2 _).mono ?_
          rintro e w3 ⟨rfl, rfl⟩
          go_wp2_with fail
          go_roundw
          case rel => exact ⟨3, by omega, rfl, by rw [hq'.out, ← hE.out, ← hL.out], trivial⟩
          case measure => simp [intOf]
      · have kj := kc 3 (by decide)
        clear kc
        have hc' := hc 3
        have hs' := hs 3
        clear hs
        have hE := Lib.hid (show catT c 3 ++ ⟨#[32]⟩ ++ ltx (c 3) = catT c 4 from rfl)
        generalize catT c 3 = o at *
        generalize hq : catT c 4 = o1 at *
        have hq' := Lib.hid hq
        clear hq
        have hs1 : ¬ 9223372036854775807 < o.size + 1 := by omega
        have hs2 : ¬ 9223372036854775807 < o.size + 1 + 1 := by omega
        by_cases e1 : c 3 = 128
        · have hL := Lib.hid (show (⟨#[45]⟩ : ByteArray) = ltx (c 3) from (if_pos e1).symm)
          rw [e1] at kj
          go_wp2_with fail
          go_roundw
          case rel => exact ⟨4, by omega, rfl, by rw [hq'.out, ← hE.out, ← hL.out], trivial⟩
          case measure => simp [intOf]
        by_cases e2 : c 3 = 254
        · have hL := Lib.hid (show (⟨#[120]⟩ : ByteArray) = ltx (c 3) from ((if_neg e1).trans (if_pos e2)).symm)
          rw [e2] at kj
          go_wp2_with fail
          go_roundw
          case rel => exact ⟨4, by omega, rfl, by rw [hq'.out, ← hE.out, ← hL.out], trivial⟩
          case measure => simp [intOf]
        · have hL := Lib.hid (show dec (c 3) = ltx (c 3) from ((if_neg e1).trans (if_neg e2)).symm)
          have b1 : ((c 3 : Int) == 128) = false := by rw [beq_eq_false_iff_ne]; omega
          have b2 : ((c 3 : Int) == 254) = false := by rw [beq_eq_false_iff_ne]; omega
          have i0 : (c 3 : Int) < 256 := by omega
          have hd : (dec (c 3)).size ≤ 3 := dec_len _ hc'
          have hd1 : ¬ 9223372036854775807 < o.size + (dec (c 3)).size := by omega
          have hd2 : ¬ 9223372036854775807 < o.size + 1 + (dec (c 3)).size := by omega
          clear e1 e2
          go_wp2_with fail
          refine (HN.out 3 _).mono ?_
          rintro e w3 ⟨rfl, rfl⟩
          go_wp2_with fail
          go_roundw
          case rel => exact ⟨4, by omega, rfl, by rw [hq'.out, ← hE.out, ← hL.out], trivial⟩
          case measure => simp [intOf]
      · have kj := kc 4 (by decide)
        clear kc
        have hc' := hc 4
        have hs' := hs 4
        clear hs
        have hE := Lib.hid (show catT c 4 ++ ⟨#[32]⟩ ++ ltx (c 4) = catT c 5 from rfl)
        generalize catT c 4 = o at *
        generalize hq : catT c 5 = o1 at *
        have hq' := Lib.hid hq
        clear hq
        have hs1 : ¬ 9223372036854775807 < o.size + 1 := by omega
        have hs2 : ¬ 9223372036854775807 < o.size + 1 + 1 := by omega
        by_cases e1 : c 4 = 128
        · have hL := Lib.hid (show (⟨#[45]⟩ : ByteArray) = ltx (c 4) from (if_pos e1).symm)
          rw [e1] at kj
          go_wp2_with fail
          go_roundw
          case rel => exact ⟨5, by omega, rfl, by rw [hq'.out, ← hE.out, ← hL.out], trivial⟩
          case measure => simp [intOf]
        by_cases e2 : c 4 = 254
        · have hL := Lib.hid (show (⟨#[120]⟩ : ByteArray) = ltx (c 4) from ((if_neg e1).trans (if_pos e2)).symm)
          rw [e2] at kj
          go_wp2_with fail
          go_roundw
          case rel => exact ⟨5, by omega, rfl, by rw [hq'.out, ← hE.out, ← hL.out], trivial⟩
          case measure => simp [intOf]
        · have hL := Lib.hid (show dec (c 4) = ltx (c 4) from ((if_neg e1).trans (if_neg e2)).symm)
          have b1 : ((c 4 : Int) == 128) = false := by rw [beq_eq_false_iff_ne]; omega
          have b2 : ((c 4 : Int) == 254) = false := by rw [beq_eq_false_iff_ne]; omega
          have i0 : (c 4 : Int) < 256 := by omega
          have hd : (dec (c 4)).size ≤ 3 := dec_len _ hc'
          have hd1 : ¬ 9223372036854775807 < o.size + (dec (c 4)).size := by omega
          have hd2 : ¬ 9223372036854775807 < o.size + 1 + (dec (c 4)).size := by omega
          clear e1 e2
          go_wp2_with fail
          refine (HN.out 4 _).mono ?_
          rintro e w3 ⟨rfl, rfl⟩
          go_wp2_with fail
          go_roundw
          case rel => exact ⟨5, by omega, rfl, by rw [hq'.out, ← hE.out, ← hL.out], trivial⟩
          case measure => simp [intOf]
      · have kj := kc 5 (by decide)
        clear kc
        have hc' := hc 5
        have hs' := hs 5
        clear hs
        have hE := Lib.hid (show catT c 5 ++ ⟨#[32]⟩ ++ ltx (c 5) = catT c 6 from rfl)
        generalize catT c 5 = o at *
        generalize hq : catT c 6 = o1 at *
        have hq' := Lib.hid hq
        clear hq
        have hs1 : ¬ 9223372036854775807 < o.size + 1 := by omega
        have hs2 : ¬ 9223372036854775807 < o.size + 1 + 1 := by omega
        by_cases e1 : c 5 = 128
        · have hL := Lib.hid (show (⟨#[45]⟩ : ByteArray) = ltx (c 5) from (if_pos e1).symm)
          rw [e1] at kj
          go_wp2_with fail
          go_roundw
          case rel => exact ⟨6, by omega, rfl, by rw [hq'.out, ← hE.out, ← hL.out], trivial⟩
          case measure => simp [intOf]
        by_cases e2 : c 5 = 254
        · have hL := Lib.hid (show (⟨#[120]⟩ : ByteArray) = ltx (c 5) from ((if_neg e1).trans (if_pos e2)).symm)
          rw [e2] at kj
          go_wp2_with fail
          go_roundw
          case rel => exact ⟨6, by omega, rfl, by rw [hq'.out, ← hE.out, ← hL.out], trivial⟩
          case measure => simp [intOf]
        · have hL := Lib.hid (show dec (c 5) = ltx (c 5) from ((if_neg e1).trans (if_neg e2)).symm)
          have b1 : ((c 5 : Int) == 128) = false := by rw [beq_eq_false_iff_ne]; omega
          have b2 : ((c 5 : Int) == 254) = false := by rw [beq_eq_false_iff_ne]; omega
          have i0 : (c 5 : Int) < 256 := by omega
          have hd : (dec (c 5)).size ≤ 3 := dec_len _ hc'
          have hd1 : ¬ 9223372036854775807 < o.size + (dec (c 5)).size := by omega
          have hd2 : ¬ 9223372036854775807 < o.size + 1 + (dec (c 5)).size := by omega
          clear e1 e2
          go_wp2_with fail
          refine (HN.out 5 _).mono ?_
          rintro e w3 ⟨rfl, rfl⟩
          go_wp2_with fail
          go_roundw
          case rel => exact ⟨6, by omega, rfl, by rw [hq'.out, ← hE.out, ← hL.out], trivial⟩
          case measure => simp [intOf]
      · have kj := kc 6 (by decide)
        clear kc
        have hc' := hc 6
        have hs' := hs 6
        clear hs
        have hE := Lib.hid (show catT c 6 ++ ⟨#[32]⟩ ++ ltx (c 6) = catT c 7 from rfl)
        generalize catT c 6 = o at *
        generalize hq : catT c 7 = o1 at *
        have hq' := Lib.hid hq
        clear hq
        have hs1 : ¬ 9223372036854775807 < o.size + 1 := by omega
        have hs2 : ¬ 9223372036854775807 < o.size + 1 + 1 := by omega
        by_cases e1 : c 6 = 128
        · have hL := Lib.hid (show (⟨#[45]⟩ : ByteArray) = ltx (c 6) from (if_pos e1).symm)
          rw [e1] at kj
          go_wp2_with fail
          go_roundw
          case rel => exact ⟨7, by omega, rfl, by rw [hq'.out, ← hE.out, ← hL.out], trivial⟩
          case measure => simp [intOf]
        by_cases e2 : c 6 = 254
        · have hL := Lib.hid (show (⟨#[120]⟩ : ByteArray) = ltx (c 6) from ((if_neg e1).trans (if_pos e2)).symm)
          rw [e2] at kj
          go_wp2_with fail
          go_roundw
          case rel => exact ⟨7, by omega, rfl, by rw [hq'.out, ← hE.out, ← hL.out], trivial⟩
          case measure => simp [intOf]
        · have hL := Lib.hid (show dec (c 6) = ltx (c 6) from ((if_neg e1).trans (if_neg e2)).symm)
          have b1 : ((c 6 : Int) == 128) = false := by rw [beq_eq_false_iff_ne]; omega
          have b2 : ((c 6 : Int) == 254) = false := by rw [beq_eq_false_iff_ne]; omega
          have i0 : (c 6 : Int) < 256 := by omega
          have hd : (dec (c 6)).size ≤ 3 := dec_len _ hc'
          have hd1 : ¬ 9223372036854775807 < o.size + (dec (c 6)).size := by omega
          have hd2 : ¬ 9223372036854775807 < o.size + 1 + (dec (c 6)).size := by omega
          clear e1 e2
          go_wp2_with fail
          refine (HN.out 6 _).mono ?_
          rintro e w3 ⟨rfl, rfl⟩
          go_wp2_with fail
          go_roundw
          case rel => exact ⟨7, by omega, rfl, by rw [hq'.out, ← hE.out, ← hL.out], trivial⟩
          case measure => simp [intOf]
      · have kj := kc 7 (by decide)
        clear kc
        have hc' := hc 7
        have hs' := hs 7
        clear hs
        have hE := Lib.hid (show catT c 7 ++ ⟨#[32]⟩ ++ ltx (c 7) = catT c 8 from rfl)
        generalize catT c 7 = o at *
        generalize hq : catT c 8 = o1 at *
        have hq' := Lib.hid hq
        clear hq
        have hs1 : ¬ 9223372036854775807 < o.size + 1 := by omega
        have hs2 : ¬ 9223372036854775807 < o.size + 1 + 1 := by omega
        by_cases e1 : c 7 = 128
        · have hL := Lib.hid (show (⟨#[45]⟩ : ByteArray) = ltx (c 7) from (if_pos e1).symm)
          rw [e1] at kj
          go_wp2_with fail
          go_roundw
          case rel => exact ⟨8, by omega, rfl, by rw [hq'.out, ← hE.out, ← hL.out], trivial⟩
          case measure => simp [intOf]
        by_cases e2 : c 7 = 254
        · have hL := Lib.hid (show (⟨#[120]⟩ : ByteArray) = ltx (c 7) from ((if_neg e1).trans (if_pos e2)).symm)
          rw [e2] at kj
          go_wp2_with fail
          go_roundw
          case rel => exact ⟨8, by omega, rfl, by rw [hq'.out, ← hE.out, ← hL.out], trivial⟩
          case measure => simp [intOf]
        · have hL := Lib.hid (show dec (c 7) = ltx (c 7) from ((if_neg e1).trans (if_neg e2)).symm)
          have b1 : ((c 7 : Int) == 128) = false := by rw [beq_eq_false_iff_ne]; omega
          have b2 : ((c 7 : Int) == 254) = false := by rw [beq_eq_false_iff_ne]; omega
          have i0 : (c 7 : Int) < 256 := by omega
          have hd : (dec (c 7)).size ≤ 3 := dec_len _ hc'
          have hd1 : ¬ 9223372036854775807 < o.size + (dec (c 7)).size := by omega
          have hd2 : ¬ 9223372036854775807 < o.size + 1 + (dec (c 7)).size := by omega
          clear e1 e2
          go_wp2_with fail
          refine (HN.out 7 _).mono ?_
          rintro e w3 ⟨rfl, rfl⟩
          go_wp2_with fail
          go_roundw
          case rel => exact ⟨8, by omega, rfl, by rw [hq'.out, ← hE.out, ← hL.out], trivial⟩
          case measure => simp [intOf]
    · obtain rfl : j = 8 := by omega
      go_wp2_with fail
      go_ret
      exact ⟨rfl, hW⟩
set_option maxRecDepth 100000 in
theorem texts5_any (x : Int) (hx : Ctl.U64 x) (w : World) (htab : Tabs w)
    (HKN : ∀ w1, Below w.heap.size w w1 → Calls Tryd.prog 20 #[] w1 fun e w' => e = .returned (.bool true) ∧ Below w1.heap.size w1 w') :
    Calls Tryd.prog 7 #[.int .u64 x] w fun e w' => e = .returned (.bool true) ∧ Below w.heap.size w w' := by
  have HK := Lib.hid HKN
  have HV := Lib.hid (Ctl.rvalid_any x hx)
  obtain ⟨c, hl⟩ : ∃ c : Nat → Nat, ∀ i, Word.lane x i = (c i : Int) := ⟨fun i => (Word.lane x i).toNat, fun i => by have := Word.lane_byte x i; simp only []; omega⟩
  have hc : ∀ i, c i < 256 := fun i => by have h1 := Word.lane_byte x i; have h2 := hl i; omega
  cases hv : Ctl.vaB x
  · rw [hv] at HV
    have HT := Lib.hid (text_bad x hx hv w)
    clear HKN htab hx hl hc hv
    go_enter Tryd.func7, Tryd.ntmps7
    go_wp2_with fail
    refine HT.out.mono ?_
    rintro e w2 ⟨rfl, b2⟩
    go_wp2_with fail
    refine (HV.out _).mono ?_
    rintro e w3 ⟨rfl, b3⟩
    have b4 := tr b2 b3
    go_wp2_with fail
    refine (HK.out _ b4).mono ?_
    rintro e w5 ⟨rfl, b5⟩
    have b6 := tr b4 b5
    go_wp2_with fail
    go_ret
    exact ⟨rfl, b6⟩
  · rw [hv] at HV
    have HT := Lib.hid (text_ok x hx hv c hc hl w htab)
    have HR := Lib.hid (fun w1 => rtext_ok x hx c hc hl w1)
    clear HKN htab hx hl hc hv
    generalize catT c 8 = q at *
    go_enter Tryd.func7, Tryd.ntmps7
    go_wp2_with fail
    refine HT.out.mono ?_
    rintro e w2 ⟨rfl, b2⟩
    go_wp2_with fail
    refine (HV.out _).mono ?_
    rintro e w3 ⟨rfl, b3⟩
    have b4 := tr b2 b3
    go_wp2_with fail
    refine (HR.out _).mono ?_
    rintro e w5 ⟨rfl, b5⟩
    have b6 := tr b4 b5
    go_wp2_with fail
    refine (HK.out _ b6).mono ?_
    rintro e w7 ⟨rfl, b7⟩
    have b8 := tr b6 b7
    go_wp2_with fail
    go_ret
    exact ⟨rfl, b8⟩
end Go.Proofs.YtngdbkegebmonaaDoor.Num
