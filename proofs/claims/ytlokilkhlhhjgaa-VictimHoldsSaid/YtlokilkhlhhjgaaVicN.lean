/-
  Victims (layer 18): Order, Choose.
-/
import Derived.Test.YtlokilkhlhhjgaaVicM
set_option linter.unusedVariables false
set_option linter.unusedSimpArgs false
namespace Go.Proofs.Ytlokilkhlhhjgaa.Vic
open Go Go.RowKit Kit Go.Maps
/-- what Order returns -/
def OrdR (e : Ending) (w : World) (B : Nat) (k : Int) (l : List Wg) : Prop := (Fin l l.length → ∃ v, e = .returned (.tuple #[v, .int .i64 0]) ∧ Ow w B v (notk k l)) ∧ (¬ Fin l l.length → e = .returned (.tuple #[.slice none 0 0, .int .i64 2]))
/-- what Choose returns -/
def ChoR (e : Ending) (w : World) (B : Nat) (n b k : Int) (l : List Wg) : Prop := (VOk n b l → ∃ v, e = .returned (.tuple #[v, .int .i64 0]) ∧ Gives (.returned v) w B n b k l) ∧ (¬ VOk n b l → e = .returned (.tuple #[.slice none 0 0, .int .i64 2]))
theorem vok0 {l : List Wg} : VOk 0 0 l ↔ Fin l l.length := ⟨fun h => h.2.2, fun h => ⟨Int.le_refl _, Int.le_refl _, h⟩⟩
theorem box_below (W : World) (vs : Array Value) (t : TypeId) : Below W.heap.size W (W.alloc (.cells vs t)) := by go_grown
set_option maxRecDepth 100000 in
set_option maxHeartbeats 1000000 in
theorem Order_any {W : World} {m1 c1 m2 c2 : Nat} {p1 p2 : Option Addr} {l1 l2 : List Wg} {k : Int} (h1 : l1.length = m1) (h2 : l2.length = m2) (r1 : Rd W p1 l1) (r2 : Rd W p2 l2) (hb1 : m1 ≤ 100) (hb2 : m2 ≤ 100) (hw : Wf (l1 ++ l2)) :
    Calls Try.prog 11 #[.slice p1 m1 c1, .slice p2 m2 c2, .int .u32 k] W fun e w' => OrdR e w' W.heap.size k (l1 ++ l2) ∧ Below W.heap.size W w' := by
  have HV := Lib.hid (fun (v : World) (hb : Below W.heap.size W v) => valid_any (W := v) (c1 := c1) (c2 := c2) (k := k) (n := 0) (b := 0) h1 h2 (r1.below hb) (r2.below hb) hb1 hb2 hw)
  have HO := Lib.hid (fun (v : World) (hb : Below W.heap.size W v) => order_any (W := v) (c1 := c1) (c2 := c2) (k := k) (n := 0) (b := 0) h1 h2 (r1.below hb) (r2.below hb) (by omega) (by omega))
  obtain ⟨ll, hll⟩ : ∃ x, l1 ++ l2 = x := ⟨_, rfl⟩
  rw [hll] at HV HO
  have HLL := Lib.hid hll
  clear r1 r2 hll hw h1 h2 hb1 hb2
  go_enter Try.func11, Try.ntmps11
  go_wp2_with fail
  have BA := Lib.hid (box_below W #[.slice p1 m1 c1, .slice p2 m2 c2, .int .u32 k, .int .i64 0, .int .i64 0] 53)
  have BQ := Lib.hid (Bq.new W p1 m1 c1 p2 m2 c2 k 0 0)
  refine (HV.out _ BA.out).mono ?_
  rintro e w1 ⟨⟨v, rfl, hv⟩, b1⟩
  have BQ1 := Lib.hid (BQ.out.below b1)
  have B1 := Lib.hid (tr BA.out b1)
  have hs1 : W.heap.size < w1.heap.size := by have := b1.size; simp only [World.size_alloc] at this; omega
  clear b1
  cases v with
  | false =>
    have hn : ¬ Fin ll ll.length := fun h => by have := hv.2 (vok0.2 h); cases this
    have HN := Lib.hid hn
    clear hv hn
    go_wp2_with fail
    go_ret2
    refine ⟨?_, B1.out⟩
    rw [HLL.out]
    exact ⟨fun h => absurd h HN.out, fun _ => rfl⟩
  | true =>
    have HN := Lib.hid (vok0.1 (hv.1 rfl))
    obtain ⟨x0, x1, x2, x3, x4⟩ := BQ1.out.five
    clear hv
    go_wp2_with fail
    refine (HO.out _ B1.out).mono ?_
    rintro e w2 ⟨v2, rfl, o2, b2⟩
    have O2 := Lib.hid o2
    have B2 := Lib.hid (tr B1.out b2)
    clear o2 b2
    go_wp2_with fail
    go_ret2
    refine ⟨?_, B2.out⟩
    rw [HLL.out]
    exact ⟨fun _ => ⟨v2, rfl, O2.out.lift (Nat.le_of_lt hs1)⟩, fun h => absurd HN.out h⟩
set_option maxRecDepth 100000 in
set_option maxHeartbeats 1000000 in
theorem Choose_any {W : World} {m1 c1 m2 c2 : Nat} {p1 p2 : Option Addr} {l1 l2 : List Wg} {k n b : Int} (h1 : l1.length = m1) (h2 : l2.length = m2) (r1 : Rd W p1 l1) (r2 : Rd W p2 l2) (hb1 : m1 ≤ 100) (hb2 : m2 ≤ 100) (hw : Wf (l1 ++ l2)) :
    Calls Try.prog 19 #[.slice p1 m1 c1, .slice p2 m2 c2, .int .u32 k, .int .i64 n, .int .i64 b] W fun e w' => ChoR e w' W.heap.size n b k (l1 ++ l2) ∧ Below W.heap.size W w' := by
  have HV := Lib.hid (fun (v : World) (hb : Below W.heap.size W v) => valid_any (W := v) (c1 := c1) (c2 := c2) (k := k) (n := n) (b := b) h1 h2 (r1.below hb) (r2.below hb) hb1 hb2 hw)
  have HO := Lib.hid (fun (v : World) (hb : Below W.heap.size W v) hc => victims_any (W := v) (c1 := c1) (c2 := c2) (k := k) (n := n) (b := b) h1 h2 (r1.below hb) (r2.below hb) hb1 hb2 hc)
  obtain ⟨ll, hll⟩ : ∃ x, l1 ++ l2 = x := ⟨_, rfl⟩
  rw [hll] at HV HO
  have HLL := Lib.hid hll
  clear r1 r2 hll hw h1 h2 hb1 hb2
  go_enter Try.func19, Try.ntmps19
  go_wp2_with fail
  have BA := Lib.hid (box_below W #[.slice p1 m1 c1, .slice p2 m2 c2, .int .u32 k, .int .i64 n, .int .i64 b] 53)
  have BQ := Lib.hid (Bq.new W p1 m1 c1 p2 m2 c2 k n b)
  refine (HV.out _ BA.out).mono ?_
  rintro e w1 ⟨⟨v, rfl, hv⟩, b1⟩
  have BQ1 := Lib.hid (BQ.out.below b1)
  have B1 := Lib.hid (tr BA.out b1)
  have hs1 : W.heap.size < w1.heap.size := by have := b1.size; simp only [World.size_alloc] at this; omega
  clear b1
  cases v with
  | false =>
    have hn : ¬ VOk n b ll := fun h => by have := hv.2 h; cases this
    have HN := Lib.hid hn
    clear hv hn
    go_wp2_with fail
    go_ret2
    refine ⟨?_, B1.out⟩
    rw [HLL.out]
    exact ⟨fun h => absurd h HN.out, fun _ => rfl⟩
  | true =>
    have HN := Lib.hid (hv.1 rfl)
    obtain ⟨x0, x1, x2, x3, x4⟩ := BQ1.out.five
    clear hv
    go_wp2_with fail
    refine (HO.out _ B1.out (Costs.of_fin HN.out.2.2)).mono ?_
    rintro e w2 ⟨⟨m, v2, rfl, hm, o2⟩, b2⟩
    have O2 := Lib.hid o2
    have B2 := Lib.hid (tr B1.out b2)
    have HM := Lib.hid hm
    clear o2 b2 hm
    go_wp2_with fail
    go_ret2
    refine ⟨?_, B2.out⟩
    rw [HLL.out]
    exact ⟨fun _ => ⟨v2, rfl, m, v2, rfl, HM.out, O2.out.lift (Nat.le_of_lt hs1)⟩, fun h => absurd HN.out h⟩
end Go.Proofs.Ytlokilkhlhhjgaa.Vic
