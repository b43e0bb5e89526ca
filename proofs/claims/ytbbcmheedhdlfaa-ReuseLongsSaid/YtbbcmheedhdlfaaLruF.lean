/-
  Plain LRU lists (layer 15): Copy; a list whose blocks are new.
-/
import Derived.Test.YtbbcmheedhdlfaaLruD
import Derived.Test.YtbbcmheedhdlfaaLnkBb
set_option linter.unusedVariables false
set_option linter.unusedSimpArgs false
namespace Go.Proofs.Ytbbcmheedhdlfaa.Lru
open Go Go.RowKit Kit Go.Shelf Lnk
set_option maxRecDepth 100000 in
theorem Copy15_any {w : World} {o c q r cq cr N : Nat} {F : Lnk.Fd} {l : List Nat} (H : Lu w o c q r cq cr N F l) :
    Calls Try.prog 85 #[.pointer (some ⟨o, 0, none⟩)] w fun e w' => (∃ o' c' q' r' cq' cr', e = .returned (.pointer (some ⟨o', 0, none⟩)) ∧ Lu w' o' c' q' r' cq' cr' N F l ∧ w.heap.size ≤ o' ∧ w.heap.size ≤ c' ∧ w.heap.size ≤ q' ∧ w.heap.size ≤ r') ∧ Below w.heap.size w w' := by
  have HZ := Lib.hid (isZero_any H)
  have HC := Lib.hid (fun (v : World) (hb : Below w.heap.size w v) => Copy_any (H.below hb).lo)
  have c0 := H.cell
  clear H
  go_enter Try.func85, Try.ntmps85
  go_wp2_with fail
  refine HZ.out.mono ?_
  rintro e w1 ⟨rfl, rfl⟩
  go_wp2_with fail
  refine (HC.out _ (Below.refl _ _)).mono ?_
  rintro e w1 ⟨⟨c', q', r', cq', cr', rfl, lo, h1, h2, h3⟩, b1⟩
  have L1 := Lib.hid lo
  have B1 := Lib.hid b1
  have C1 := Lib.hid (show w.heap.size ≤ c' ∧ w.heap.size ≤ q' ∧ w.heap.size ≤ r' from ⟨h1, h2, h3⟩)
  clear lo b1 h1 h2 h3
  go_wp2_with fail
  go_ret
  have hb := box_below w1 #[.pointer (some ⟨c', 0, none⟩)] 115
  have hl := L1.out.lt
  exact ⟨⟨w1.heap.size, c', q', r', cq', cr', rfl, ⟨(MapKept.heap_alloc w1 _).1, L1.out.below hb, by omega, by omega, by omega⟩, B1.out.size, C1.out.1, C1.out.2.1, C1.out.2.2⟩, tr B1.out hb⟩
/-- the list at o stands for l, its blocks are new since w -/
def Kn (w : World) (o : Nat) (l : List Nat) (v : World) : Prop := (∃ c q r cq cr N F, Lu v o c q r cq cr N F l ∧ w.heap.size ≤ o ∧ w.heap.size ≤ c ∧ w.heap.size ≤ q ∧ w.heap.size ≤ r) ∧ Below w.heap.size w v
section
variable {w v : World} {o : Nat} {l : List Nat}
theorem Kn.below {v' : World} (h : Kn w o l v) (hb : Below v.heap.size v v') : Kn w o l v' := by
  obtain ⟨⟨c, q, r, cq, cr, N, F, h1, h2⟩, h3⟩ := h
  exact ⟨⟨c, q, r, cq, cr, N, F, h1.below hb, h2⟩, tr h3 hb⟩
theorem Kn.opr {v' : World} {c q r : Nat} {l' : List Nat} (ho : w.heap.size ≤ o) (hc : w.heap.size ≤ c) (hq : w.heap.size ≤ q) (hr : w.heap.size ≤ r) (hb : Below w.heap.size w v) (h : Opr v v' o c q r l') : Kn w o l' v' := by
  obtain ⟨c', q', r', cq, cr, N, F, h1, h2, h3, h4, h5⟩ := h
  have := hb.size
  refine ⟨⟨c', q', r', cq, cr, N, F, h1, ho, ?_, ?_, ?_⟩, hb.trans (h5.below (n := w.heap.size) (fun k hk hb => by rcases hb with rfl | rfl | rfl | rfl <;> omega) this)⟩
  · rcases h2 with rfl | h2 <;> omega
  · rcases h3 with rfl | h3 <;> omega
  · rcases h4 with rfl | h4 <;> omega
theorem Kn.new (w : World) : Calls Try.prog 26 #[] w fun e w' => ∃ o, e = .returned (.pointer (some ⟨o, 0, none⟩)) ∧ Kn w o [] w' :=
  (New_any w).mono fun e w' ⟨⟨o, c, q, r, F, h1, h2, h3⟩, h4⟩ => ⟨o, h1, ⟨c, q, r, _, _, _, F, h2, h3⟩, h4⟩
theorem Kn.add (h : Kn w o l v) (x : Nat) (hx : x < 4294967296) : Calls Try.prog 30 #[.pointer (some ⟨o, 0, none⟩), .int .u32 (x : Int)] v fun e w' => e = .returned (.int .i64 (addC l x)) ∧ Kn w o (addL l x) w' := by
  obtain ⟨⟨c, q, r, cq, cr, N, F, h1, h2, h3, h4, h5⟩, h6⟩ := h
  exact (Add_any h1 x hx).mono fun e w' ⟨k1, k2⟩ => ⟨k1, Kn.opr h2 h3 h4 h5 h6 k2⟩
theorem Kn.remove (h : Kn w o l v) (x : Nat) (hx : x < 4294967296) : Calls Try.prog 33 #[.pointer (some ⟨o, 0, none⟩), .int .u32 (x : Int)] v fun e w' => e = .returned (.int .i64 (remC l x)) ∧ Kn w o (l.erase x) w' := by
  obtain ⟨⟨c, q, r, cq, cr, N, F, h1, h2, h3, h4, h5⟩, h6⟩ := h
  exact (Remove_any h1 x hx).mono fun e w' ⟨k1, k2⟩ => ⟨k1, Kn.opr h2 h3 h4 h5 h6 k2⟩
theorem Kn.use (h : Kn w o l v) (x : Nat) (hx : x < 4294967296) : Calls Try.prog 32 #[.pointer (some ⟨o, 0, none⟩), .int .u32 (x : Int)] v fun e w' => e = .returned (.int .i64 (remC l x)) ∧ Kn w o (useL l x) w' := by
  obtain ⟨⟨c, q, r, cq, cr, N, F, h1, h2, h3, h4, h5⟩, h6⟩ := h
  exact (Use_any h1 x hx).mono fun e w' ⟨k1, k2⟩ => ⟨k1, Kn.opr h2 h3 h4 h5 h6 k2⟩
theorem Kn.len (h : Kn w o l v) : Calls Try.prog 45 #[.pointer (some ⟨o, 0, none⟩)] v fun e w' => e = .returned (.int .i64 (l.length : Int)) ∧ Kn w o l w' := by
  have h0 := h
  obtain ⟨⟨c, q, r, cq, cr, N, F, h1, h2, h3, h4, h5⟩, h6⟩ := h
  exact (Len_any h1).mono fun e w' ⟨k1, k2⟩ => ⟨k1, k2 ▸ h0⟩
theorem Kn.has (h : Kn w o l v) (x : Nat) (hx : x < 4294967296) : Calls Try.prog 44 #[.pointer (some ⟨o, 0, none⟩), .int .u32 (x : Int)] v fun e w' => e = .returned (.bool (decide (x ∈ l))) ∧ Kn w o l w' := by
  have h0 := h
  obtain ⟨⟨c, q, r, cq, cr, N, F, h1, h2, h3, h4, h5⟩, h6⟩ := h
  exact (Has_any h1 x hx).mono fun e w' ⟨k1, k2⟩ => ⟨k1, h0.below k2⟩
theorem Kn.collect (h : Kn w o l v) (hl : l.length ≤ 5000) : Calls Try.prog 79 #[.pointer (some ⟨o, 0, none⟩)] v fun e w' => Kl e w' v.heap.size (ints l) ∧ Below v.heap.size v w' ∧ Kn w o l w' := by
  have h0 := h
  obtain ⟨⟨c, q, r, cq, cr, N, F, h1, h2, h3, h4, h5⟩, h6⟩ := h
  exact (collect_lu h1 hl).mono fun e w' ⟨k1, k2⟩ => ⟨k1, k2, h0.below k2⟩
theorem Kn.oldest (h : Kn w o l v) : Calls Try.prog 46 #[.pointer (some ⟨o, 0, none⟩)] v fun e w' => e = .returned (nodeR l.head?) ∧ Below v.heap.size v w' := by
  obtain ⟨⟨c, q, r, cq, cr, N, F, h1, h2, h3, h4, h5⟩, h6⟩ := h
  exact Oldest_any h1
theorem Kn.newest (h : Kn w o l v) : Calls Try.prog 110 #[.pointer (some ⟨o, 0, none⟩)] v fun e w' => e = .returned (nodeR l.getLast?) ∧ Below v.heap.size v w' := by
  obtain ⟨⟨c, q, r, cq, cr, N, F, h1, h2, h3, h4, h5⟩, h6⟩ := h
  exact Newest_any h1
set_option maxRecDepth 100000 in
/-- ends, given what both ends are -/
theorem Kn.ends (h : Kn w o l v) (a b e : Int) : Calls Try.prog 80 #[.pointer (some ⟨o, 0, none⟩), .int .u32 a, .int .u32 b, .int .i64 e] v fun r w' => (∃ t, r = .returned (.bool t) ∧ (t = true ↔ nodeR l.head? = .tuple #[.int .u32 a, .int .i64 e] ∧ nodeR l.getLast? = .tuple #[.int .u32 b, .int .i64 e])) ∧ Kn w o l w' := by
  have HO := Lib.hid h.oldest
  have HN := Lib.hid (fun (v' : World) (hb : Below v.heap.size v v') => (h.below hb).newest)
  have HK := Lib.hid h
  obtain ⟨p, p2, hp⟩ : ∃ p p2 : Int, nodeR l.head? = .tuple #[.int .u32 p, .int .i64 p2] := by cases l.head? <;> exact ⟨_, _, rfl⟩
  obtain ⟨s, s2, hs⟩ : ∃ s s2 : Int, nodeR l.getLast? = .tuple #[.int .u32 s, .int .i64 s2] := by cases l.getLast? <;> exact ⟨_, _, rfl⟩
  rw [hp] at HO
  rw [hs] at HN
  rw [hp, hs]
  clear h hp hs
  go_enter Try.func80, Try.ntmps80
  go_wp2_with fail
  refine HO.out.mono ?_
  rintro e w1 ⟨rfl, b1⟩
  have B1 := Lib.hid b1
  clear b1
  go_wp2_with fail
  refine (HN.out _ B1.out).mono ?_
  rintro e w2 ⟨rfl, b2⟩
  have K2 := Lib.hid ((HK.out.below B1.out).below b2)
  clear b2
  go_wp2_with fail
  all_goals go_ret
  all_goals refine ⟨⟨_, rfl, ?_⟩, K2.out⟩
  all_goals clear HK HO HN B1 K2
  all_goals simp_all
end
end Go.Proofs.Ytbbcmheedhdlfaa.Lru
