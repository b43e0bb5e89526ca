/-
  Victims (layer 18): the law's small functions.
-/
import Derived.Test.YtlokilkhlhhjgaaVicV
set_option linter.unusedVariables false
set_option linter.unusedSimpArgs false
namespace Go.Proofs.Ytlokilkhlhhjgaa.Vic
open Go Go.RowKit Kit Go.Maps
set_option maxRecDepth 100000 in
/-- orders, where the wanted list and error are as they should be -/
theorem orders_any {W : World} {m1 c1 m2 c2 m3 c3 : Nat} {p1 p2 p3 : Option Addr} {l1 l2 : List Wg} {k : Int} (h1 : l1.length = m1) (h2 : l2.length = m2) (r1 : Rd W p1 l1) (r2 : Rd W p2 l2) (hb1 : m1 ≤ 100) (hb2 : m2 ≤ 100) (hw : Wf (l1 ++ l2)) (hf : Fin (l1 ++ l2) (l1 ++ l2).length) (h3 : (notk k (l1 ++ l2)).length = m3) (r3 : Rd W p3 (notk k (l1 ++ l2))) :
    Calls Try.prog 13 #[ents p1 m1 c1 p2 m2 c2, .int .u32 k, .slice p3 m3 c3, .int .i64 0] W fun e w' => e = .returned (.bool true) ∧ Below W.heap.size W w' := by
  have HO := Lib.hid (fun (v : World) (hb : Below W.heap.size W v) => Order_any (W := v) (c1 := c1) (c2 := c2) (k := k) h1 h2 (r1.below hb) (r2.below hb) hb1 hb2 hw)
  have R3 := Lib.hid (fun (v : World) (hb : Below W.heap.size W v) => r3.below hb)
  have H3 := Lib.hid h3
  have HF := Lib.hid hf
  have hm3 : m3 ≤ 1000 := by have := notk_len k (l1 ++ l2); rw [List.length_append] at this; omega
  clear r1 r2 r3 h1 h2 h3 hf hw
  go_enter Try.func13, Try.ntmps13
  go_wp2_with fail
  have BA := Lib.hid (box_below W #[.slice p1 m1 c1, .slice p2 m2 c2] 24)
  refine (HO.out _ BA.out).mono ?_
  rintro e w1 ⟨ho, b1⟩
  obtain ⟨v, rfl, o1⟩ := ho.1 HF.out
  obtain ⟨q, nn, kk, rfl, hnn, -, -⟩ := o1.form
  have B1 := Lib.hid (tr BA.out b1)
  have RQ := Lib.hid (rd_ow o1)
  have HN := Lib.hid hnn.symm
  have hnb : nn ≤ 1000 := by have := H3.out; omega
  clear ho o1 b1 hnn
  go_wp2_with fail
  refine (wsame_any HN.out H3.out RQ.out (R3.out _ B1.out) (by omega) (by omega)).mono ?_
  rintro e w2 ⟨⟨v, rfl, hv⟩, b2⟩
  obtain rfl : v = true := hv.2 rfl
  have B2 := Lib.hid (tr B1.out b2)
  clear hv b2
  go_wp2_with fail
  go_ret
  exact ⟨rfl, B2.out⟩
set_option maxRecDepth 100000 in
theorem chooses_ok {W : World} {m1 c1 m2 c2 m3 c3 m : Nat} {p1 p2 p3 : Option Addr} {l1 l2 : List Wg} {k n b : Int} (h1 : l1.length = m1) (h2 : l2.length = m2) (r1 : Rd W p1 l1) (r2 : Rd W p2 l2) (hb1 : m1 ≤ 100) (hb2 : m2 ≤ 100) (hw : Wf (l1 ++ l2)) (hok : VOk n b (l1 ++ l2))
    (hm : Vc n b ((l1 ++ l2).length : Int) (tot (l1 ++ l2)) (notk k (l1 ++ l2)) m) (h3 : (slots ((notk k (l1 ++ l2)).take m)).length = m3) (r3 : Ru W p3 (slots ((notk k (l1 ++ l2)).take m))) :
    Calls Try.prog 15 #[ents p1 m1 c1 p2 m2 c2, .int .u32 k, .int .i64 n, .int .i64 b, .slice p3 m3 c3, .int .i64 0] W fun e w' => e = .returned (.bool true) ∧ Below W.heap.size W w' := by
  have HO := Lib.hid (fun (v : World) (hb : Below W.heap.size W v) => Choose_any (W := v) (c1 := c1) (c2 := c2) (k := k) (n := n) (b := b) h1 h2 (r1.below hb) (r2.below hb) hb1 hb2 hw)
  have R3 := Lib.hid (fun (v : World) (hb : Below W.heap.size W v) => r3.below hb)
  have H3 := Lib.hid h3
  have HF := Lib.hid hok
  have HM := Lib.hid hm
  have hm3 : m3 ≤ 1000 := by
    rw [← h3]; unfold slots; rw [List.length_map, List.length_take]
    have := notk_len k (l1 ++ l2); rw [List.length_append] at this; omega
  clear r1 r2 r3 h1 h2 h3 hok hw hm
  go_enter Try.func15, Try.ntmps15
  go_wp2_with fail
  have BA := Lib.hid (box_below W #[.slice p1 m1 c1, .slice p2 m2 c2] 24)
  refine (HO.out _ BA.out).mono ?_
  rintro e w1 ⟨ho, b1⟩
  obtain ⟨v, rfl, m', v', hv', hm', o1⟩ := ho.1 HF.out
  obtain rfl := hm'.uni HM.out
  cases hv'
  obtain ⟨q, kk, rfl, rq⟩ := ks_ru o1
  have B1 := Lib.hid (tr BA.out b1)
  have RQ := Lib.hid rq
  clear ho o1 b1 hm' rq
  rw [H3.out]
  go_wp2_with fail
  refine (rsame_any H3.out H3.out RQ.out (R3.out _ B1.out) (by omega) (by omega)).mono ?_
  rintro e w2 ⟨⟨v, rfl, hv⟩, b2⟩
  obtain rfl : v = true := hv.2 rfl
  have B2 := Lib.hid (tr B1.out b2)
  clear hv b2
  go_wp2_with fail
  go_ret
  exact ⟨rfl, B2.out⟩
set_option maxRecDepth 100000 in
theorem chooses_no {W : World} {m1 c1 m2 c2 : Nat} {p1 p2 : Option Addr} {l1 l2 : List Wg} {k n b : Int} (h1 : l1.length = m1) (h2 : l2.length = m2) (r1 : Rd W p1 l1) (r2 : Rd W p2 l2) (hb1 : m1 ≤ 100) (hb2 : m2 ≤ 100) (hw : Wf (l1 ++ l2)) (hok : ¬ VOk n b (l1 ++ l2)) :
    Calls Try.prog 15 #[ents p1 m1 c1 p2 m2 c2, .int .u32 k, .int .i64 n, .int .i64 b, .slice none 0 0, .int .i64 2] W fun e w' => e = .returned (.bool true) ∧ Below W.heap.size W w' := by
  have HO := Lib.hid (fun (v : World) (hb : Below W.heap.size W v) => Choose_any (W := v) (c1 := c1) (c2 := c2) (k := k) (n := n) (b := b) h1 h2 (r1.below hb) (r2.below hb) hb1 hb2 hw)
  have HF := Lib.hid hok
  clear r1 r2 h1 h2 hok hw
  go_enter Try.func15, Try.ntmps15
  go_wp2_with fail
  have BA := Lib.hid (box_below W #[.slice p1 m1 c1, .slice p2 m2 c2] 24)
  refine (HO.out _ BA.out).mono ?_
  rintro e w1 ⟨ho, b1⟩
  obtain rfl := ho.2 HF.out
  have B1 := Lib.hid (tr BA.out b1)
  clear ho b1
  go_wp2_with fail
  refine (rsame_any (l1 := []) (l2 := []) rfl rfl (fun i x hx => by simp at hx) (fun i x hx => by simp at hx) (by simp) (by simp)).mono ?_
  rintro e w2 ⟨⟨v, rfl, hv⟩, b2⟩
  obtain rfl : v = true := hv.2 rfl
  have B2 := Lib.hid (tr B1.out b2)
  clear hv b2
  go_wp2_with fail
  go_ret
  exact ⟨rfl, B2.out⟩
/-- checks: any list of victims -/
theorem checks_ok {W : World} {m1 c1 m2 c2 m3 c3 m : Nat} {p1 p2 p3 : Option Addr} {l1 l2 : List Wg} {vs : List Int} {k n b r : Int} (h1 : l1.length = m1) (h2 : l2.length = m2) (r1 : Rd W p1 l1) (r2 : Rd W p2 l2) (hb1 : m1 ≤ 100) (hb2 : m2 ≤ 100) (hw : Wf (l1 ++ l2)) (hok : VOk n b (l1 ++ l2))
    (hm : Vc n b ((l1 ++ l2).length : Int) (tot (l1 ++ l2)) (notk k (l1 ++ l2)) m) (h3 : vs.length = m3) (r3 : Ru W p3 vs) (hb3 : m3 ≤ 1000) (hr : r = firstI (slots ((notk k (l1 ++ l2)).take m)) vs) :
    Calls Try.prog 17 #[ents p1 m1 c1 p2 m2 c2, .int .u32 k, .int .i64 n, .int .i64 b, .slice p3 m3 c3, .int .i64 r, .int .i64 0] W fun e w' => e = .returned (.bool true) ∧ Below W.heap.size W w' := by
  have HO := Lib.hid (fun (v : World) (hb : Below W.heap.size W v) => Check_any (W := v) (c1 := c1) (c2 := c2) (c3 := c3) (k := k) (n := n) (b := b) h1 h2 (r1.below hb) (r2.below hb) hb1 hb2 hw h3 (r3.below hb) hb3)
  have HF := Lib.hid hok
  have HM := Lib.hid hm
  have HR := Lib.hid hr
  clear r1 r2 r3 h1 h2 h3 hok hw hm hr
  go_enter Try.func17, Try.ntmps17
  go_wp2_with fail
  have BA := Lib.hid (box_below W #[.slice p1 m1 c1, .slice p2 m2 c2] 24)
  refine (HO.out _ BA.out).mono ?_
  rintro e w1 ⟨ho, b1⟩
  obtain ⟨m', hm', rfl⟩ := ho.1 HF.out
  obtain rfl := hm'.uni HM.out
  rw [← HR.out]
  have B1 := Lib.hid (tr BA.out b1)
  clear ho b1 hm'
  go_wp2_with fail
  go_ret
  exact ⟨rfl, B1.out⟩
theorem checks_no {W : World} {m1 c1 m2 c2 m3 c3 : Nat} {p1 p2 p3 : Option Addr} {l1 l2 : List Wg} {vs : List Int} {k n b : Int} (h1 : l1.length = m1) (h2 : l2.length = m2) (r1 : Rd W p1 l1) (r2 : Rd W p2 l2) (hb1 : m1 ≤ 100) (hb2 : m2 ≤ 100) (hw : Wf (l1 ++ l2)) (hok : ¬ VOk n b (l1 ++ l2))
    (h3 : vs.length = m3) (r3 : Ru W p3 vs) (hb3 : m3 ≤ 1000) :
    Calls Try.prog 17 #[ents p1 m1 c1 p2 m2 c2, .int .u32 k, .int .i64 n, .int .i64 b, .slice p3 m3 c3, .int .i64 0, .int .i64 2] W fun e w' => e = .returned (.bool true) ∧ Below W.heap.size W w' := by
  have HO := Lib.hid (fun (v : World) (hb : Below W.heap.size W v) => Check_any (W := v) (c1 := c1) (c2 := c2) (c3 := c3) (k := k) (n := n) (b := b) h1 h2 (r1.below hb) (r2.below hb) hb1 hb2 hw h3 (r3.below hb) hb3)
  have HF := Lib.hid hok
  clear r1 r2 r3 h1 h2 h3 hok hw
  go_enter Try.func17, Try.ntmps17
  go_wp2_with fail
  have BA := Lib.hid (box_below W #[.slice p1 m1 c1, .slice p2 m2 c2] 24)
  refine (HO.out _ BA.out).mono ?_
  rintro e w1 ⟨ho, b1⟩
  obtain rfl := ho.2 HF.out
  have B1 := Lib.hid (tr BA.out b1)
  clear ho b1
  go_wp2_with fail
  go_ret
  exact ⟨rfl, B1.out⟩
end Go.Proofs.Ytlokilkhlhhjgaa.Vic
