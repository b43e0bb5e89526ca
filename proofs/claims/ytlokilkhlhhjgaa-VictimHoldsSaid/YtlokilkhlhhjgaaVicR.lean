/-
  Victims (layer 18): the reference: Order.
-/
import Derived.Test.YtlokilkhlhhjgaaVicQ
set_option linter.unusedVariables false
set_option linter.unusedSimpArgs false
namespace Go.Proofs.Ytlokilkhlhhjgaa.Vic
open Go Go.RowKit Kit Go.Maps
theorem rd_one (w : World) (p : Wg) : Rd (w.alloc (.cells #[.int .u32 p.1, .int .i64 p.2] 34)) (some ⟨w.heap.size, 0, none⟩) [p] := fun i x hx => by
  have h := (MapKept.heap_alloc w (.cells #[.int .u32 p.1, .int .i64 p.2] 34)).1
  match i, hx with
  | 0, hx =>
    simp at hx
    subst hx
    refine ⟨_, rfl, (Array.getElem?_eq_some_iff.1 h).1, ?_, ?_⟩
    · rw [add2]; unfold World.cell?; simp only; rw [show (w.alloc (.cells #[.int .u32 p.1, .int .i64 p.2] 34)).heap[w.heap.size]? = _ from h]; rfl
    · rw [add2]; unfold World.cell?; simp only; rw [show (w.alloc (.cells #[.int .u32 p.1, .int .i64 p.2] 34)).heap[w.heap.size]? = _ from h]; rfl
set_option maxRecDepth 100000 in
set_option maxHeartbeats 1000000 in
theorem rorder_any {W : World} {m1 c1 m2 c2 : Nat} {p1 p2 : Option Addr} {l1 l2 : List Wg} (k : Int) (h1 : l1.length = m1) (h2 : l2.length = m2) (r1 : Rd W p1 l1) (r2 : Rd W p2 l2) (hb1 : m1 ≤ 100) (hb2 : m2 ≤ 100) :
    Calls Try.prog 14 #[.slice p1 m1 c1, .slice p2 m2 c2, .int .u32 k] W fun e w' => ∃ v, e = .returned v ∧ Ow w' W.heap.size v (notk k (l1 ++ l2)) ∧ Below W.heap.size W w' := by
  have hL : (l1 ++ l2).length = m1 + m2 := by rw [List.length_append, h1, h2]
  have R1 := Lib.hid (fun (v : World) (hb : Below W.heap.size W v) => r1.below hb)
  have R2 := Lib.hid (fun (v : World) (hb : Below W.heap.size W v) => r2.below hb)
  have H1 := Lib.hid h1
  have H2 := Lib.hid h2
  clear r1 r2
  go_enter Try.func14, Try.ntmps14
  clear h1 h2
  go_wp2_with (first
    | (at_builtin; refine wpList_appW rfl (.const (.slice none 0 0)) (.tmp 10) rfl W.heap.size (.slice none 0 0) [] rfl (World.ownsRow_nil _ _ _ _) p1 m1 c1 l1 rfl H1.out (R1.out _ (Below.refl _ _)) (by simp; omega) (Nat.le_refl _) ?_; intro v2 x2 o2 b2 s2; have O2 := Lib.hid o2; have B2 := Lib.hid b2; clear o2 b2)
    | (at_builtin; refine wpList_appF rfl (.tmp 11) (.tmp 12) rfl W.heap.size v2 ([] ++ l1) rfl O2.out p2 m2 c2 l2 rfl H2.out (R2.out _ B2.out) (by rw [List.nil_append, H1.out]; omega) B2.out.size ?_; intro q nn kk x3 hnn o3 b3 s3; have AL := Lib.hid (ow_al o3); have B3 := Lib.hid (B2.out.trans b3); clear o3 b3; have hnb : nn ≤ 200 := (by rw [List.nil_append, H1.out] at hnn; omega); obtain ⟨ll, hll⟩ : ∃ x, l1 ++ l2 = x := ⟨_, rfl⟩; rw [List.nil_append, hll] at AL; have HLL := Lib.hid hll; have HL := Lib.hid AL.out.1; clear hnn hll s2 s3 hL O2 B2 R1 R2 H1 H2 hb1 hb2))
  go_loopw [8, 9] (fun v8 v wr => ∃ i : Nat, i ≤ nn ∧ v = .int .i64 i ∧ Ow wr x3.heap.size v8 (notk k (ll.take i)) ∧ Below x3.heap.size x3 wr) (fun _ v _ => nn - (intOf v).toNat)
  case atStart => exact ⟨0, by omega, rfl, World.ownsRow_nil _ _ _ _, Below.refl _ _⟩
  case round =>
    obtain ⟨i, hi, rfl, hO, bW⟩ := hrel
    have BW := Lib.hid bW
    have HO := Lib.hid hO
    have BE := Lib.hid (fun w' (hb : Below x3.heap.size x3 w') => B3.out.trans (hb.mono B3.out.size))
    clear bW hO
    have i0 : (0 : Int) ≤ (i : Int) := by omega
    by_cases hin : i = nn
    · subst hin
      go_wp2_with fail
      go_ret
      refine ⟨_, rfl, ?_, BE.out _ BW.out⟩
      have h := HO.out
      rw [List.take_of_length_le (Nat.le_of_eq HL.out)] at h
      rw [HLL.out]
      exact h.lift B3.out.size
    · have hlt : i < nn := by omega
      have hlt' : (i : Int) < (nn : Int) := by omega
      obtain ⟨p, hp⟩ : ∃ p, ll[i]? = some p := ⟨ll[i]'(by rw [HL.out]; omega), List.getElem?_eq_getElem _⟩
      obtain ⟨g, rfl, -, -, hG⟩ := AL.out.at_ hp
      obtain ⟨e0, e1, hg⟩ := hG _ BW.out
      have HT := Lib.hid (show notk k (ll.take (i + 1)) = notk k (ll.take i) ++ (if p.1 == k then [] else [p]) from by
        unfold notk
        rw [List.take_add_one, hp, List.filter_append]
        cases hx : (p.1 == k) <;> simp [hx])
      have HN := Lib.hid (show (notk k (ll.take i)).length ≤ 200 from Nat.le_trans (notk_len _ _) (by rw [List.length_take]; omega))
      clear hp hG
      by_cases hz : p.1 = k
      · subst hz
        have hx : (p.1 == p.1) = true := by simp
        rw [hx] at HT
        go_wp2_with fail
        go_roundw
        case rel => exact ⟨i + 1, by omega, by go_num, by rw [HT.out]; simpa using HO.out, BW.out⟩
        case measure => simp [intOf]; omega
      · have hb1 : (p.1 == k) = false := by rw [beq_eq_false_iff_ne]; exact hz
        have hb2 : (p.1 != k) = true := by rw [bne_iff_ne]; exact hz
        rw [hb1] at HT
        have bA : Below wr.heap.size wr (wr.alloc (.cells #[.int .u32 p.1, .int .i64 p.2] 34)) := box_below _ _ _
        have OA := Lib.hid (ow_below HO.out bA)
        have BA := Lib.hid (BW.out.trans (bA.mono BW.out.size))
        have RA := Lib.hid (rd_one wr p)
        clear bA hz
        go_wp2_with (at_builtin; refine wpList_appW rfl (.tmp 27) (.tmp 32) rfl x3.heap.size u8 (notk k (ll.take i)) rfl OA.out (some ⟨wr.heap.size, 0, none⟩) 1 1 [p] rfl rfl RA.out (by have := HN.out; omega) BA.out.size ?_; intro v5 x5 o5 b5 s5; have O5 := Lib.hid o5; have B5 := Lib.hid (BA.out.trans b5); clear o5 b5)
        go_roundw
        case rel => exact ⟨i + 1, by omega, by go_num, by rw [HT.out]; exact O5.out, B5.out⟩
        case measure => simp [intOf]; omega
end Go.Proofs.Ytlokilkhlhhjgaa.Vic
