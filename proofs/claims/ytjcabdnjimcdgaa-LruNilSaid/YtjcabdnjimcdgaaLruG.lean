/-
  Plain LRU lists (layer 15): the examples.
-/
import Derived.Test.YtjcabdnjimcdgaaLruE
import Derived.Test.YtjcabdnjimcdgaaLruF
set_option linter.unusedVariables false
set_option linter.unusedSimpArgs false
namespace Go.Proofs.Ytjcabdnjimcdgaa.Lru
open Go Go.RowKit Kit Go.Shelf Lnk
theorem Kn.add' {w v : World} {o : Nat} {l : List Nat} (h : Hid (Kn w o l v)) (x : Nat) (z : Int) (l' : List Nat) (hx : x < 4294967296) (hz : addC l x = z) (hl : addL l x = l') : Calls Try.prog 32 #[.pointer (some ⟨o, 0, none⟩), .int .u32 (x : Int)] v fun e w' => e = .returned (.int .i64 z) ∧ Hid (Kn w o l' w') := by
  subst hz hl; exact (h.out.add x hx).mono fun e w' ⟨a, b⟩ => ⟨a, Lib.hid b⟩
theorem Kn.use' {w v : World} {o : Nat} {l : List Nat} (h : Hid (Kn w o l v)) (x : Nat) (z : Int) (l' : List Nat) (hx : x < 4294967296) (hz : remC l x = z) (hl : useL l x = l') : Calls Try.prog 34 #[.pointer (some ⟨o, 0, none⟩), .int .u32 (x : Int)] v fun e w' => e = .returned (.int .i64 z) ∧ Hid (Kn w o l' w') := by
  subst hz hl; exact (h.out.use x hx).mono fun e w' ⟨a, b⟩ => ⟨a, Lib.hid b⟩
theorem Kn.rem' {w v : World} {o : Nat} {l : List Nat} (h : Hid (Kn w o l v)) (x : Nat) (z : Int) (l' : List Nat) (hx : x < 4294967296) (hz : remC l x = z) (hl : l.erase x = l') : Calls Try.prog 35 #[.pointer (some ⟨o, 0, none⟩), .int .u32 (x : Int)] v fun e w' => e = .returned (.int .i64 z) ∧ Hid (Kn w o l' w') := by
  subst hz hl; exact (h.out.remove x hx).mono fun e w' ⟨a, b⟩ => ⟨a, Lib.hid b⟩
theorem Kn.has' {w v : World} {o : Nat} {l : List Nat} (h : Hid (Kn w o l v)) (x : Nat) (z : Bool) (hx : x < 4294967296) (hz : decide (x ∈ l) = z) : Calls Try.prog 37 #[.pointer (some ⟨o, 0, none⟩), .int .u32 (x : Int)] v fun e w' => e = .returned (.bool z) ∧ Hid (Kn w o l w') := by
  subst hz; exact (h.out.has x hx).mono fun e w' ⟨a, b⟩ => ⟨a, Lib.hid b⟩
theorem Kn.len' {w v : World} {o : Nat} {l : List Nat} (h : Hid (Kn w o l v)) (z : Int) (hz : (l.length : Int) = z) : Calls Try.prog 38 #[.pointer (some ⟨o, 0, none⟩)] v fun e w' => e = .returned (.int .i64 z) ∧ Hid (Kn w o l w') := by
  subst hz; exact h.out.len.mono fun e w' ⟨a, b⟩ => ⟨a, Lib.hid b⟩
theorem Kn.ends' {w v : World} {o : Nat} {l : List Nat} (h : Hid (Kn w o l v)) (a b e : Int) (ha : nodeR l.head? = .tuple #[.int .u32 a, .int .i64 e]) (hb : nodeR l.getLast? = .tuple #[.int .u32 b, .int .i64 e]) : Calls Try.prog 36 #[.pointer (some ⟨o, 0, none⟩), .int .u32 a, .int .u32 b, .int .i64 e] v fun r w' => r = .returned (.bool true) ∧ Hid (Kn w o l w') :=
  (h.out.ends a b e).mono fun r w' ⟨⟨t, h1, h2⟩, b⟩ => ⟨by rw [h1, h2.2 ⟨ha, hb⟩], Lib.hid b⟩
theorem Kn.coll' {w v : World} {o : Nat} {l : List Nat} (h : Hid (Kn w o l v)) (n : Nat) (hn : l.length = n) (hl : n ≤ 5000) : Calls Try.prog 39 #[.pointer (some ⟨o, 0, none⟩)] v fun e w' => ∃ p c, e = .returned (.slice p n c) ∧ Hid (Ru w' p (ints l)) ∧ Hid (Kn w o l w') := by
  subst hn
  exact (h.out.collect hl).mono fun e w' ⟨⟨v, h1, h2⟩, b, c⟩ => by
    obtain ⟨p, cp, h3, h4⟩ := ks_ru h2
    rw [ints_len] at h3
    exact ⟨p, cp, h3 ▸ h1, Lib.hid h4, Lib.hid c⟩
/-- a row that is written out -/
theorem lit_ru (v : World) (xs : List Int) (t : TypeId) : Ru (v.alloc (.cells (xs.map (Value.int .u32)).toArray t)) (some ⟨v.heap.size, 0, none⟩) xs := fun i x hx => by
  refine ⟨_, rfl, by simp, ?_⟩
  rw [Lnk.add2]
  unfold World.cell?
  dsimp only
  rw [(MapKept.heap_alloc v _).1]
  simp [hx]
theorem Kn.same' {w v : World} {o : Nat} {l : List Nat} {p : Option Addr} {c : Nat} (h : Hid (Kn w o l v)) (R : Hid (Ru v p (ints l))) (xs : List Int) (n m : Nat) (t : TypeId) (h1 : l.length = n) (h2 : xs.length = m) (h3 : n ≤ 1000000) (h4 : m ≤ 1000000) (he : ints l = xs) : Calls Try.prog 49 #[.slice p n c, .slice (some ⟨v.heap.size, 0, none⟩) m m] (v.alloc (.cells (xs.map (Value.int .u32)).toArray t)) fun e w' => e = .returned (.bool true) ∧ Hid (Kn w o l w') := by
  have hb := box_below v (xs.map (Value.int .u32)).toArray t
  exact (same15_any (c1 := c) (c2 := m) ((ints_len l).trans h1) h2 (R.out.below hb) (lit_ru v xs t) h3 h4).mono fun e w' ⟨⟨s, k1, k2⟩, k3⟩ => ⟨by rw [k1, k2.2 he], Lib.hid ((h.out.below hb).below k3)⟩
theorem Kn.ren_ok {w v : World} {o : Nat} {l : List Nat} (h : Hid (Kn w o l v)) (T l' : List Nat) (M : Nat) (t : TypeId) (hT : T.length = M) (hM : M ≤ 1000000) (hw : ∀ x ∈ T, x < 4294967296) (hn : rnum T l [] = some l') : Calls Try.prog 40 #[.pointer (some ⟨o, 0, none⟩), .slice (some ⟨v.heap.size, 0, none⟩) M M] (v.alloc (.cells ((ints T).map (Value.int .u32)).toArray t)) fun e w' => e = .returned (.int .i64 0) ∧ Hid (Kn w o l' w') := by
  have hb := box_below v ((ints T).map (Value.int .u32)).toArray t
  obtain ⟨⟨c, q, r, cq, cr, N, F, h1, h2, h3, h4, h5⟩, h6⟩ := h.out.below hb
  have := Renumber15 (ct := M) h1 hT hM (lit_ru v (ints T) t) hw
  rw [hn] at this
  exact this.mono fun e w' ⟨k1, k2⟩ => ⟨k1, Lib.hid (Kn.opr h2 h3 h4 h5 h6 k2)⟩
theorem Kn.ren_bad {w v : World} {o : Nat} {l : List Nat} (h : Hid (Kn w o l v)) (T : List Nat) (M : Nat) (t : TypeId) (hT : T.length = M) (hM : M ≤ 1000000) (hw : ∀ x ∈ T, x < 4294967296) (hn : rnum T l [] = none) : Calls Try.prog 40 #[.pointer (some ⟨o, 0, none⟩), .slice (some ⟨v.heap.size, 0, none⟩) M M] (v.alloc (.cells ((ints T).map (Value.int .u32)).toArray t)) fun e w' => e = .returned (.int .i64 2) ∧ Hid (Kn w o l w') := by
  have hb := box_below v ((ints T).map (Value.int .u32)).toArray t
  have hk := h.out.below hb
  obtain ⟨⟨c, q, r, cq, cr, N, F, h1, h2, h3, h4, h5⟩, h6⟩ := hk
  have := Renumber15 (ct := M) h1 hT hM (lit_ru v (ints T) t) hw
  rw [hn] at this
  exact this.mono fun e w' ⟨k1, k2⟩ => ⟨k1, Lib.hid ((h.out.below hb).below k2)⟩
set_option maxRecDepth 100000 in
set_option maxHeartbeats 4000000 in
theorem known15 (w : World) : Calls Try.prog 27 #[] w fun e w' => e = .returned (.bool true) ∧ Below w.heap.size w w' := by
  have HN := Lib.hid (Kn.new w)
  go_enter Try.func27, Try.ntmps27
  go_wp2_with fail
  refine HN.out.mono ?_
  rintro e w1 ⟨o, rfl, k1⟩
  have K1 := Lib.hid k1
  clear k1
  go_wp2_with fail
  refine (Kn.add' K1 5 0 [5] (by decide) (by decide) (by decide)).mono ?_
  rintro e w2 ⟨rfl, K2⟩
  clear K1
  go_wp2_with fail
  refine (Kn.add' K2 2 0 [5, 2] (by decide) (by decide) (by decide)).mono ?_
  rintro e w3 ⟨rfl, K3⟩
  clear K2
  go_wp2_with fail
  refine (Kn.add' K3 9 0 [5, 2, 9] (by decide) (by decide) (by decide)).mono ?_
  rintro e w4 ⟨rfl, K4⟩
  clear K3
  go_wp2_with fail
  refine (Kn.use' K4 5 0 [2, 9, 5] (by decide) (by decide) (by decide)).mono ?_
  rintro e w5 ⟨rfl, K5⟩
  clear K4
  go_wp2_with fail
  refine (Kn.coll' K5 3 rfl (by decide)).mono ?_
  rintro e w6 ⟨pa5, ca5, rfl, R6, K6⟩
  clear K5
  go_wp2_with fail
  refine (Kn.same' K6 R6 [2, 9, 5] 3 3 _ rfl rfl (by decide) (by decide) rfl).mono ?_
  rintro e w7 ⟨rfl, K7⟩
  clear K6 R6
  go_wp2_with fail
  refine (Kn.ends' K7 2 5 0 rfl rfl).mono ?_
  rintro e w8 ⟨rfl, K8⟩
  clear K7
  go_wp2_with fail
  refine (Kn.add' K8 9 11 [2, 9, 5] (by decide) (by decide) (by decide)).mono ?_
  rintro e w9 ⟨rfl, K9⟩
  clear K8
  go_wp2_with fail
  refine (Kn.use' K9 7 9 [2, 9, 5] (by decide) (by decide) (by decide)).mono ?_
  rintro e w10 ⟨rfl, K10⟩
  clear K9
  go_wp2_with fail
  refine (Kn.rem' K10 9 0 [2, 5] (by decide) (by decide) (by decide)).mono ?_
  rintro e w11 ⟨rfl, K11⟩
  clear K10
  go_wp2_with fail
  refine (Kn.rem' K11 9 9 [2, 5] (by decide) (by decide) (by decide)).mono ?_
  rintro e w12 ⟨rfl, K12⟩
  clear K11
  go_wp2_with fail
  refine (Kn.len' K12 2 rfl).mono ?_
  rintro e w13 ⟨rfl, K13⟩
  clear K12
  go_wp2_with fail
  refine (Kn.has' K13 9 false (by decide) (by decide)).mono ?_
  rintro e w14 ⟨rfl, K14⟩
  clear K13
  go_wp2_with fail
  refine (Kn.has' K14 5 true (by decide) (by decide)).mono ?_
  rintro e w15 ⟨rfl, K15⟩
  clear K14
  go_wp2_with fail
  refine (Kn.ren_ok K15 [0, 0, 4, 0, 0, 3] [4, 3] 6 _ rfl (by decide) (by decide) (by decide)).mono ?_
  rintro e w16 ⟨rfl, K16⟩
  clear K15
  go_wp2_with fail
  refine (Kn.coll' K16 2 rfl (by decide)).mono ?_
  rintro e w17 ⟨pa16, ca16, rfl, R17, K17⟩
  clear K16
  go_wp2_with fail
  refine (Kn.same' K17 R17 [4, 3] 2 2 _ rfl rfl (by decide) (by decide) rfl).mono ?_
  rintro e w18 ⟨rfl, K18⟩
  clear K17 R17
  go_wp2_with fail
  refine (Kn.ren_bad K18 [0, 0, 0, 1, 1] 5 _ rfl (by decide) (by decide) (by decide)).mono ?_
  rintro e w19 ⟨rfl, K19⟩
  clear K18
  go_wp2_with fail
  refine (Kn.coll' K19 2 rfl (by decide)).mono ?_
  rintro e w20 ⟨pa19, ca19, rfl, R20, K20⟩
  clear K19
  go_wp2_with fail
  refine (Kn.same' K20 R20 [4, 3] 2 2 _ rfl rfl (by decide) (by decide) rfl).mono ?_
  rintro e w21 ⟨rfl, K21⟩
  clear K20 R20
  go_wp2_with fail
  refine (Kn.add' K21 4194304 2 [4, 3] (by decide) (by decide) (by decide)).mono ?_
  rintro e w22 ⟨rfl, K22⟩
  clear K21
  go_wp2_with fail
  refine (Kn.add' K22 4194303 0 [4, 3, 4194303] (by decide) (by decide) (by decide)).mono ?_
  rintro e w23 ⟨rfl, K23⟩
  clear K22
  go_wp2_with fail
  refine (Kn.new w23).mono ?_
  rintro e wb ⟨ob, rfl, kb⟩
  have KB := Lib.hid kb
  clear kb
  go_wp2_with fail
  refine (Kn.ends' KB 0 0 9 rfl rfl).mono ?_
  rintro e wc ⟨rfl, KC⟩
  go_wp2_with fail
  go_ret
  exact ⟨rfl, tr K23.out.2 KC.out.2⟩
end Go.Proofs.Ytjcabdnjimcdgaa.Lru
