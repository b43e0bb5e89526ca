/-
  Plain LRU lists (layer 15): a list and the reference's row.
-/
import Derived.Test.YtajkcockeccdoaaLruI
import Derived.Test.YtajkcockeccdoaaLruG
set_option linter.unusedVariables false
set_option linter.unusedSimpArgs false
namespace Go.Proofs.Ytajkcockeccdoaa.Lru
open Go Go.RowKit Kit Go.Shelf Lnk
section
variable {v : World} {o c q r cq cr N : Nat} {F : Lnk.Fd} {l : List Nat}
set_option maxRecDepth 100000 in
theorem lu_ends (h : Lu v o c q r cq cr N F l) (a b e : Int) : Calls Try.prog 97 #[.pointer (some ⟨o, 0, none⟩), .int .u32 a, .int .u32 b, .int .i64 e] v fun r w' => (∃ t, r = .returned (.bool t) ∧ (t = true ↔ nodeR l.head? = .tuple #[.int .u32 a, .int .i64 e] ∧ nodeR l.getLast? = .tuple #[.int .u32 b, .int .i64 e])) ∧ Below v.heap.size v w' := by
  have HO := Lib.hid (Oldest_any h)
  have HN := Lib.hid (fun (v' : World) (hb : Below v.heap.size v v') => Newest_any (h.below hb))
  obtain ⟨p, p2, hp⟩ : ∃ p p2 : Int, nodeR l.head? = .tuple #[.int .u32 p, .int .i64 p2] := by cases l.head? <;> exact ⟨_, _, rfl⟩
  obtain ⟨s, s2, hs⟩ : ∃ s s2 : Int, nodeR l.getLast? = .tuple #[.int .u32 s, .int .i64 s2] := by cases l.getLast? <;> exact ⟨_, _, rfl⟩
  rw [hp] at HO
  rw [hs] at HN
  rw [hp, hs]
  clear h hp hs
  go_enter Try.func97, Try.ntmps97
  go_wp2_with fail
  refine HO.out.mono ?_
  rintro e w1 ⟨rfl, b1⟩
  have B1 := Lib.hid b1
  clear b1
  go_wp2_with fail
  refine (HN.out _ B1.out).mono ?_
  rintro e w2 ⟨rfl, b2⟩
  have K2 := Lib.hid (tr B1.out b2)
  clear b2
  go_wp2_with fail
  all_goals go_ret
  all_goals refine ⟨⟨_, rfl, ?_⟩, K2.out⟩
  all_goals clear HO HN B1 K2
  all_goals simp_all
set_option maxRecDepth 100000 in
set_option maxHeartbeats 8000000 in
theorem is15_any {p : Option Addr} {n cp : Nat} (H : Lu v o c q r cq cr N F l) (hl : l.length = n) (hn : n ≤ 5000) (R : Ru v p (ints l)) (x : Nat) (hx : x < 4294967296) :
    Calls Try.prog 43 #[.pointer (some ⟨o, 0, none⟩), .slice p n cp, .int .u32 (x : Int)] v fun e w' => e = .returned (.bool true) ∧ Below v.heap.size v w' := by
  have HE := Lib.hid (fun (u : World) (hb : Below v.heap.size v u) (a b e : Int) => lu_ends (H.below hb) a b e)
  have HC := Lib.hid (fun (u : World) (hb : Below v.heap.size v u) => collect_lu (H.below hb) (by omega))
  have HS := Lib.hid (fun (u : World) (hb : Below v.heap.size v u) (p1 : Option Addr) (n1 c1 : Nat) (h1 : (ints l).length = n1) (hn1 : n1 ≤ 5000) (r1 : Ru u p1 (ints l)) => same15_any (c1 := c1) (c2 := cp) h1 ((ints_len l).trans hl) r1 (R.below hb) (by omega) (by omega))
  have HL := Lib.hid (fun (u : World) (hb : Below v.heap.size v u) => Len_any (H.below hb))
  have HH := Lib.hid (fun (u : World) (hb : Below v.heap.size v u) => Has_any (H.below hb) x hx)
  have HF := Lib.hid (fun (u : World) (hb : Below v.heap.size v u) => rfind_any (c := cp) hl (by omega) (R.below hb) x)
  have HLL := Lib.hid hl
  rw [hl] at HL
  have HI := Lib.hid (show (x ∈ l ↔ (0 : Int) ≤ findR l x) from by
    unfold findR
    split
    · simp [*]
    · simp [*])
  obtain ⟨z, hz⟩ : ∃ z : Int, (x : Int) = z := ⟨_, rfl⟩
  rw [hz] at HH HF ⊢
  obtain ⟨fr, hfr⟩ : ∃ fr, findR l x = fr := ⟨_, rfl⟩
  obtain ⟨bm, hbm⟩ : ∃ bm, decide (x ∈ l) = bm := ⟨_, rfl⟩
  rw [hfr] at HF HI
  rw [hbm] at HH
  have hbf : bm = decide ((0 : Int) ≤ fr) := by rw [← hbm]; simp only [HI.out]
  have HRR := Lib.hid R
  have HH0 := Lib.hid H
  clear hz hfr hbm HI R H hl hx
  rcases Nat.eq_zero_or_pos n with rfl | hpos
  · have h0 : l = [] := List.length_eq_zero_iff.1 HLL.out
    go_enter Try.func43, Try.ntmps43
    go_wp2_with fail
    refine (HE.out _ (Below.refl _ _) 0 0 9).mono ?_
    rintro e w1 ⟨⟨t, rfl, ht⟩, b0⟩
    obtain rfl : t = true := ht.2 (by rw [h0]; exact ⟨rfl, rfl⟩)
    have B0 := Lib.hid b0
    clear b0 ht
    go_wp2_with fail
    refine (HC.out _ B0.out).mono ?_
    rintro e u1 ⟨⟨v1, rfl, k1⟩, b1⟩
    obtain ⟨p1, c1, rfl, r1⟩ := ks_ru k1
    rw [ints_len, HLL.out]
    have B1 := Lib.hid (tr B0.out b1)
    have R1 := Lib.hid r1
    clear k1 b1 r1
    go_wp2_with fail
    refine (HS.out _ B1.out p1 _ c1 ((ints_len l).trans HLL.out) hn R1.out).mono ?_
    rintro e u2 ⟨⟨s2, rfl, h2⟩, b2⟩
    obtain rfl : s2 = true := by simpa [Is] using h2
    have B2 := Lib.hid (tr B1.out b2)
    clear b2 h2
    go_wp2_with fail
    refine (HL.out _ B2.out).mono ?_
    rintro e u3 ⟨rfl, rfl⟩
    go_wp2_with fail
    refine (HH.out _ B2.out).mono ?_
    rintro e u3 ⟨rfl, b3⟩
    have B3 := Lib.hid (tr B2.out b3)
    clear b3
    go_wp2_with fail
    refine (HF.out _ B3.out).mono ?_
    rintro e u4 ⟨rfl, rfl⟩
    go_wp2_with fail
    go_ret
    exact ⟨rfl, B3.out⟩
  · obtain ⟨a, ha⟩ : ∃ a, l[0]? = some a := ⟨l[0]'(by rw [HLL.out]; exact hpos), List.getElem?_eq_getElem _⟩
    obtain ⟨b, hb⟩ : ∃ b, l[n - 1]? = some b := ⟨l[n - 1]'(by rw [HLL.out]; omega), List.getElem?_eq_getElem _⟩
    have HHD := Lib.hid (show l.head? = some a ∧ l.getLast? = some b from ⟨by rw [List.head?_eq_getElem?]; exact ha, by rw [List.getLast?_eq_getElem?, HLL.out]; exact hb⟩)
    obtain ⟨y, rfl, hyb, e0⟩ := HRR.out 0 (a : Int) (Lnk.ints_at ha)
    have e1 : v.cell? (y.add (n - 1)) = some (.int .u32 (b : Int)) := by
      obtain ⟨y', hy, _, e1⟩ := HRR.out (n - 1) (b : Int) (Lnk.ints_at hb)
      cases hy
      exact e1
    have HCE := Lib.hid (fun (u : World) (hb : Below v.heap.size v u) => (⟨(hb.cell (p := y.add 0) (by rw [Lnk.add_block]; exact hyb)).trans e0, (hb.cell (p := y.add (n - 1)) (by rw [Lnk.add_block]; exact hyb)).trans e1⟩ : u.cell? (y.add 0) = some (.int .u32 (a : Int)) ∧ u.cell? (y.add (n - 1)) = some (.int .u32 (b : Int))))
    clear ha hb e0 e1 hyb
    have hp0 : (0 : Int) < (n : Int) := by omega
    have hp1 : (0 : Int) ≤ (n : Int) - 1 := by omega
    have wn : IntKind.i64.wrap ((n : Int) - 1) = ((n - 1 : Nat) : Int) := by have := IntWalk.i64_in ((n : Int) - 1) (by omega); rw [this]; omega
    obtain ⟨k, hk⟩ : ∃ k, n - 1 = k := ⟨_, rfl⟩
    rw [hk] at wn HCE
    have hk1 : (k : Int) < (n : Int) := by omega
    have hk0 : (0 : Int) ≤ (k : Int) := by omega
    clear hk
    go_enter Try.func43, Try.ntmps43
    go_wp2_with fail
    refine (HE.out _ (Below.refl _ _) 0 0 9).mono ?_
    rintro e w1 ⟨⟨t, rfl, -⟩, b0⟩
    have B0 := Lib.hid b0
    obtain ⟨ce0, ce1⟩ := HCE.out _ (tr b0 (Below.drew (Below.refl w1.heap.size w1)))
    rw [Addr.add_zero'] at ce0
    clear b0
    go_wp2_with fail
    have BD := Lib.hid (tr B0.out (Below.drew (Below.refl w1.heap.size w1)))
    apply region_one (R := fun u => Below v.heap.size v u)
    case first =>
      go_region_with (go_at_call 97; refine (HE.out _ BD.out (a : Int) (b : Int) 0).mono ?_; rintro e u1 ⟨⟨t1, rfl, ht1⟩, b1⟩; obtain rfl : t1 = true := ht1.2 (by rw [HHD.out.1, HHD.out.2]; exact ⟨rfl, rfl⟩); have B9 := tr BD.out b1)
      all_goals (dsimp only [midQ]; exact ⟨rfl, by assumption⟩)
    case rest =>
    intro u0 bu
    have BU := Lib.hid bu
    clear bu
    go_wp2_with fail
    refine (HC.out _ BU.out).mono ?_
    rintro e u1 ⟨⟨v1, rfl, k1⟩, b1⟩
    obtain ⟨p1, c1, rfl, r1⟩ := ks_ru k1
    rw [ints_len, HLL.out]
    have B1 := Lib.hid (tr BU.out b1)
    have R1 := Lib.hid r1
    clear k1 b1 r1
    go_wp2_with fail
    refine (HS.out _ B1.out p1 _ c1 ((ints_len l).trans HLL.out) hn R1.out).mono ?_
    rintro e u2 ⟨⟨s2, rfl, h2⟩, b2⟩
    obtain rfl : s2 = true := by simpa [Is] using h2
    have B2 := Lib.hid (tr B1.out b2)
    clear b2 h2
    go_wp2_with fail
    refine (HL.out _ B2.out).mono ?_
    rintro e u3 ⟨rfl, rfl⟩
    go_wp2_with fail
    refine (HH.out _ B2.out).mono ?_
    rintro e u3 ⟨rfl, b3⟩
    have B3 := Lib.hid (tr B2.out b3)
    clear b3
    go_wp2_with fail
    refine (HF.out _ B3.out).mono ?_
    rintro e u4 ⟨rfl, rfl⟩
    go_wp2_with fail
    go_ret
    exact ⟨rfl, B3.out⟩
end
end Go.Proofs.Ytajkcockeccdoaa.Lru
