/-
  Links (layer 14): sound.
-/
import Derived.Test.YtajkcockeccdoaaLnkCa
set_option linter.unusedVariables false
set_option linter.unusedSimpArgs false
namespace Go.Proofs.Ytajkcockeccdoaa.Lnk
open Go Go.RowKit Kit
section
variable {w : World} {c q r cq cr N : Nat} {F : Fd} {Ls : List (List Nat)}
def sumL (Ls : List (List Nat)) (h : Nat) : Nat := ((Ls.take h).map List.length).sum
theorem sumL_succ {Ls : List (List Nat)} {h : Nat} {l : List Nat} (hl : Ls[h]? = some l) : sumL Ls (h + 1) = sumL Ls h + l.length := by
  unfold sumL
  rw [List.take_add_one, hl]
  simp
theorem sumL_le {F : Fd} {N : Nat} {Ls : List (List Nat)} (R : Ring F N Ls) (h : Nat) : sumL Ls h ≤ N := by
  have h1 : sumL Ls h = (Ls.take h).flatten.length := by unfold sumL; rw [List.length_flatten]
  rw [h1]
  obtain ⟨a, b, _⟩ := R.flat
  refine nodup_le ?_ fun x hx => ?_
  · have : Ls.flatten = (Ls.take h).flatten ++ (Ls.drop h).flatten := by rw [← List.flatten_append, List.take_append_drop]
    rw [this] at a
    exact (List.nodup_append.1 a).1
  · obtain ⟨l, hl, hx⟩ := List.mem_flatten.1 hx
    exact b l (List.mem_of_mem_take hl) x hx
theorem withN_le (hd : Nat → Int) (n : Nat) : withN hd n ≤ n := by
  unfold withN
  exact Nat.le_trans (List.length_filter_le _ _) (by simp)
set_option maxRecDepth 100000 in
set_option maxHeartbeats 4000000 in
theorem sound_any (L : Lo w c q r cq cr N F Ls) (hN : N ≤ 5000) {Hn : Nat} (hH : Ls.length = Hn) :
    Calls Try.prog 34 #[.pointer (some ⟨c, 0, none⟩), .int .i64 (N : Int), .int .i64 (Hn : Int)] w fun e w' => e = .returned (.bool true) ∧ Below w.heap.size w w' := by
  have h2 := L.h2
  rw [hH] at h2
  have HH := Lib.hid hH
  have HR := Lib.hid L.ring
  have LB := Lib.hid (fun (v : World) (hb : Below w.heap.size w v) => L.below hb)
  have HSL := Lib.hid (fun h => sumL_le L.ring h)
  clear L hH
  go_enter Try.func34, Try.ntmps34
  go_wp2_with fail
  go_loopw [7, 9] (fun s hv wr => ∃ h : Nat, h ≤ Hn ∧ hv = .int .i64 (h : Int) ∧ s = .int .i64 ((sumL Ls h : Nat) : Int) ∧ Below w.heap.size w wr) (fun _ hv _ => Hn - (intOf hv).toNat)
  case atStart => exact ⟨0, by omega, rfl, rfl, Below.refl _ _⟩
  case round =>
    obtain ⟨h, hh, rfl, rfl, b0⟩ := hrel
    have B0 := Lib.hid b0
    clear b0
    by_cases hend : h = Hn
    · subst hend
      have HQ := Lib.hid (show sumL Ls h = withN F.hd N from by
        obtain ⟨f1, f2, f3⟩ := HR.out.flat
        rw [← sum_with f1 f3]
        unfold sumL
        rw [← HH.out, List.take_length])
      have hqN : withN F.hd N ≤ N := by rw [← HQ.out]; exact HSL.out h
      go_wp2_with fail
      rw [HQ.out]
      go_loopw [8, 18] (fun s nv wr => ∃ n : Nat, n ≤ N ∧ nv = .int .i64 (n : Int) ∧ s = .int .i64 ((withN F.hd n : Nat) : Int) ∧ Below w.heap.size w wr) (fun _ nv _ => N - (intOf nv).toNat)
      case atStart => exact ⟨0, by omega, rfl, rfl, B0.out⟩
      case round =>
        obtain ⟨n, hn, rfl, rfl, b1⟩ := hrel
        have B1 := Lib.hid b1
        clear b1
        by_cases hend2 : n = N
        · subst hend2
          go_wp2_with fail
          go_ret
          exact ⟨rfl, B1.out⟩
        · have hlt2 : n < N := by omega
          have hlt2' : (n : Int) < (N : Int) := by omega
          have hle := withN_le F.hd n
          have hsu := withN_succ F.hd n
          have wi := IntWalk.i64_in ((n : Int) + 1) (by omega)
          have wu := IntWalk.u32_in (n : Int) (by omega)
          have ws := IntWalk.i64_in (((withN F.hd n : Nat) : Int) + 1) (by omega)
          by_cases hk : F.hd n = -1
          · rw [if_pos hk, Nat.add_zero] at hsu
            have HOF := Lib.hid (fun (v : World) (hb : Below w.heap.size w v) => Of_in (LB.out v hb) hlt2 hk)
            rw [if_pos rfl] at HOF
            have HSU := Lib.hid hsu
            clear hsu hk hqN HQ
            generalize withN F.hd n = sn at *
            go_wp2_with fail
            refine (HOF.out _ B1.out).mono ?_
            rintro e v2 ⟨rfl, b2⟩
            have B2 := Lib.hid (tr B1.out b2)
            clear b2
            go_wp2_with fail
            go_roundw
            case rel => exact ⟨n + 1, by omega, by go_num, by rw [HSU.out]; rfl, B2.out⟩
            case measure => simp [intOf]; omega
          · rw [if_neg hk] at hsu
            have HOF := Lib.hid (fun (v : World) (hb : Below w.heap.size w v) => Of_in (LB.out v hb) hlt2 (rfl : F.hd n = F.hd n))
            rw [if_neg hk] at HOF
            have HSU := Lib.hid hsu
            clear hsu hk hqN HQ
            generalize withN F.hd n = sn at *
            generalize F.hd n = hdn at *
            go_wp2_with fail
            refine (HOF.out _ B1.out).mono ?_
            rintro e v2 ⟨rfl, b2⟩
            have B2 := Lib.hid (tr B1.out b2)
            clear b2
            go_wp2_with fail
            go_roundw
            case rel => exact ⟨n + 1, by omega, by go_num, by rw [HSU.out]; simp, B2.out⟩
            case measure => simp [intOf]; omega
    · have hlt : h < Hn := by omega
      have hlt' : (h : Int) < (Hn : Int) := by omega
      obtain ⟨l, hl⟩ : ∃ l, Ls[h]? = some l := ⟨Ls[h]'(by rw [HH.out]; omega), List.getElem?_eq_getElem _⟩
      have HL := Lib.hid hl
      have HCO := Lib.hid (fun (v : World) (hb : Below w.heap.size w v) => collect_ok (LB.out v hb) hN hl)
      have HLE := Lib.hid (fun (v : World) (hb : Below w.heap.size w v) => Len_ok (LB.out v hb) hl)
      have hs1 := sumL_succ hl
      have hs2 := HSL.out (h + 1)
      have wi := IntWalk.i64_in ((h : Int) + 1) (by omega)
      have ws := IntWalk.i64_in (((sumL Ls h : Nat) : Int) + (l.length : Int)) (by omega)
      have hfew : l.length ≤ N := by omega
      have HS1 := Lib.hid hs1
      clear hl hs1 hs2
      generalize sumL Ls h = sm at *
      obtain ⟨m, hm⟩ : ∃ m, l.length = m := ⟨_, rfl⟩
      rw [hm] at ws hfew HLE
      have HM := Lib.hid hm
      clear hm
      go_wp2_with fail
      refine (HCO.out _ B0.out).mono ?_
      rintro e v1 ⟨kl, b1⟩
      obtain ⟨p, k, rfl, ru, hmk, hpn, hpf⟩ := kl_out kl HM.out
      have B1 := Lib.hid (tr B0.out b1)
      have RU := Lib.hid (fun (v : World) (hb : Below v1.heap.size v1 v) => ru.below hb)
      clear b1 kl hpn hpf hmk ru
      go_wp2_with fail
      refine (HLE.out _ B1.out).mono ?_
      rintro e v2 ⟨rfl, rfl⟩
      go_wp2_with fail
      go_loopw [11] (fun iv wr2 => ∃ i : Nat, i ≤ m ∧ iv = .int .i64 (i : Int) ∧ Below v1.heap.size v1 wr2) (fun iv _ => m - (intOf iv).toNat)
      case atStart => exact ⟨0, by omega, rfl, Below.refl _ _⟩
      case round =>
        obtain ⟨i, hi, rfl, b2⟩ := hrel
        have B2 := Lib.hid b2
        have W2 := Lib.hid (tr B1.out b2)
        clear b2
        by_cases hie : i = m
        · subst hie
          go_wp2_with fail
          go_roundw
          case rel => exact ⟨h + 1, by omega, by go_num, by rw [HS1.out, HM.out]; simp, W2.out⟩
          case measure => simp [intOf]; omega
        · have hil : (i : Int) < (m : Int) := by omega
          have i0 : (0 : Int) ≤ (i : Int) := by omega
          have wi1 := IntWalk.i64_in ((i : Int) + 1) (by omega)
          obtain ⟨x, hx⟩ : ∃ x, l[i]? = some x := ⟨l[i]'(by rw [HM.out]; omega), List.getElem?_eq_getElem _⟩
          obtain ⟨y, rfl, _, e0⟩ := RU.out _ B2.out i (x : Int) (by unfold ints; rw [List.getElem?_map, hx]; rfl)
          obtain ⟨m1, m2⟩ := HR.out.mem h l x HL.out (List.mem_of_getElem? hx)
          have HOF := Lib.hid (fun (v : World) (hb : Below w.heap.size w v) => Of_in (LB.out v hb) m1 m2)
          rw [if_neg (by omega)] at HOF
          by_cases hi0 : i = 0
          · have hi1 : ¬ (0 : Int) < (i : Int) := by omega
            have HI0 := Lib.hid hi0
            clear hx hi0
            go_wp2_with fail
            refine (HOF.out _ W2.out).mono ?_
            rintro e v3 ⟨rfl, b3⟩
            have B3 := Lib.hid (tr B2.out b3)
            clear b3 e0
            go_wp2_with fail
            go_roundw
            case rel => exact ⟨i + 1, by omega, by go_num, B3.out⟩
            case measure => simp [intOf]; omega
          · obtain ⟨j, hj⟩ : ∃ j, i = j + 1 := ⟨i - 1, by omega⟩
            obtain ⟨z, hz⟩ : ∃ z, l[j]? = some z := ⟨l[j]'(by rw [HM.out]; omega), List.getElem?_eq_getElem _⟩
            obtain ⟨n1, n2⟩ := HR.out.mem h l z HL.out (List.mem_of_getElem? hz)
            have wj : IntKind.i64.wrap ((i : Int) - 1) = (j : Int) := by rw [IntWalk.i64_in _ (by omega)]; omega
            have j0 : (0 : Int) ≤ (j : Int) := by omega
            have jl : (j : Int) < (m : Int) := by omega
            have jp : (0 : Int) < (i : Int) := by omega
            rw [hj] at hx
            have CE := Lib.hid (fun (v : World) (hb : Below v1.heap.size v1 v) => (show v.cell? (y.add j) = some (.int .u32 (z : Int)) ∧ v.cell? (y.add i) = some (.int .u32 (x : Int)) from by
              obtain ⟨y1, q1, _, e1⟩ := RU.out v hb j (z : Int) (by unfold ints; rw [List.getElem?_map, hz]; rfl)
              obtain ⟨y2, q2, _, e2⟩ := RU.out v hb (j + 1) (x : Int) (by unfold ints; rw [List.getElem?_map, hx]; rfl)
              cases q1; cases q2
              rw [hj]
              exact ⟨e1, e2⟩))
            have HNX := Lib.hid (fun (v : World) (hb : Below w.heap.size w v) => Next_in (LB.out v hb) n1 (by rw [n2]; omega) ((HR.out.at_ HL.out hz).trans (fst_drop hx _)) (by omega))
            have HPV := Lib.hid (fun (v : World) (hb : Below w.heap.size w v) => Prev_in (LB.out v hb) m1 (by rw [m2]; omega) ((HR.out.pv_at HL.out hx).trans (lst_at _ _ j z (by rw [List.length_take, HM.out]; omega) (by rw [List.getElem?_take_of_lt (by omega)]; exact hz))) (by omega))
            rw [if_pos m1] at HNX
            rw [if_pos n1] at HPV
            unfold nodeR at HNX HPV
            have HJ := Lib.hid hj
            clear hx hz m1 m2 n1 n2 hi0 hj
            go_wp2_with fail
            refine (HOF.out _ W2.out).mono ?_
            rintro e v3 ⟨rfl, b3⟩
            have B3 := Lib.hid (tr B2.out b3)
            have W3 := Lib.hid (tr W2.out b3)
            clear b3 e0
            obtain ⟨e0, e1⟩ := CE.out _ B3.out
            go_wp2_with fail
            refine (HNX.out _ W3.out).mono ?_
            rintro e v4 ⟨rfl, b4⟩
            have B4 := Lib.hid (tr B3.out b4)
            have W4 := Lib.hid (tr W3.out b4)
            clear b4 e0 e1
            obtain ⟨e0, e1⟩ := CE.out _ B4.out
            go_wp2_with fail
            refine (HPV.out _ W4.out).mono ?_
            rintro e v5 ⟨rfl, b5⟩
            have B5 := Lib.hid (tr B4.out b5)
            clear b5 e0 e1
            obtain ⟨e0, e1⟩ := CE.out _ B5.out
            go_wp2_with fail
            refine (gives_any _ _ _ _ _).mono ?_
            rintro e v6 ⟨rfl, rfl⟩
            go_wp2_with fail
            refine (gives_any _ _ _ _ _).mono ?_
            rintro e v6 ⟨rfl, rfl⟩
            go_wp2_with fail
            go_roundw
            case rel => exact ⟨i + 1, by omega, by go_num, B5.out⟩
            case measure => simp [intOf]; omega
end
end Go.Proofs.Ytajkcockeccdoaa.Lnk
