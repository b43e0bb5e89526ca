/-
  Walks over the reference of layer 33: halving.
-/
import Derived.Test.YtohldfhelppehaaSkK
set_option linter.unusedVariables false
set_option linter.unusedSimpArgs false
namespace Go.Proofs.Ytohldfhelppehaa.Skt
open Go.RowKit Kit Hash Blo
/-- a sketch of the reference in the first block behind W, with rows of its own; the result's variable is the next one -/
structure Rs (W w : World) (n : Nat) (m t sd : Int) (Q C : Nat → Nat) (F : Nat → Nat → Nat) : Prop where
  o : Bs w W.heap.size n m t sd Q C
  z : w.heap[W.heap.size + 1]? = some zO
  rr : ∀ i, i < 4 → Sr w (Q i) n (F i)
  ll : ∀ i, i < 4 → W.heap.size + 1 < Q i ∧ Q i < w.heap.size
  mm : ∀ i j, i < j → j < 4 → Q i < Q j
  bb : Below W.heap.size W w
theorem Rs.lt {W w : World} {n : Nat} {m t sd : Int} {Q C : Nat → Nat} {F : Nat → Nat → Nat} (h : Rs W w n m t sd Q C F) : W.heap.size + 1 < w.heap.size := (Array.getElem?_eq_some_iff.1 h.z).1
theorem Rs.below {W w v : World} {n : Nat} {m t sd : Int} {Q C : Nat → Nat} {F : Nat → Nat → Nat} (h : Rs W w n m t sd Q C F) (hb : Below w.heap.size w v) : Rs W v n m t sd Q C F :=
  ⟨h.o.below hb, (hb.block _ h.lt).trans h.z, fun i hi => Row.below (h.rr i hi) hb, fun i hi => by have := h.ll i hi; have := hb.size; omega, h.mm, tr h.bb hb⟩
theorem Rs.congr {W w : World} {n : Nat} {m t sd : Int} {Q C : Nat → Nat} {F G : Nat → Nat → Nat} (h : Rs W w n m t sd Q C F) (e : ∀ i, i < 4 → ∀ j, j < n → F i j = G i j) : Rs W w n m t sd Q C G :=
  ⟨h.o, h.z, fun i hi => Row.congr (h.rr i hi) fun j hj => by rw [e i hi j hj], h.ll, h.mm, h.bb⟩
theorem Rs.setr {W w : World} {n : Nat} {m t sd : Int} {Q C : Nat → Nat} {F : Nat → Nat → Nat} (h : Rs W w n m t sd Q C F) {i : Nat} (hi4 : i < 4) (j v : Nat) :
    Rs W (w.setCell ⟨Q i, j, none⟩ (.int .i64 (v : Nat))) n m t sd Q C (fun i' j' => if i' = i ∧ j' = j then v else F i' j') := by
  have h2 := h.ll i hi4
  refine ⟨h.o.of (Below.heap_setCell w ⟨Q i, j, none⟩ _ _ (by show W.heap.size ≠ Q i; omega)), (Below.heap_setCell w ⟨Q i, j, none⟩ _ _ (by show W.heap.size + 1 ≠ Q i; omega)).trans h.z, fun i' hi' => ?_, fun i' hi' => by simpa using h.ll i' hi', h.mm, h.bb.setCell (p := ⟨Q i, j, none⟩) (by show W.heap.size ≤ Q i; omega) _⟩
  by_cases e : i' = i
  · subst e
    exact Row.congr (Row.set (h.rr i' hi') j (.int .i64 (v : Nat))) fun k hk => by by_cases hh : k = j <;> simp [hh]
  · have hne : Q i' ≠ Q i := by
      rcases Nat.lt_or_ge i i' with h3 | h3
      · have := h.mm i i' h3 hi'; omega
      · have := h.mm i' i (by omega) hi4; omega
    exact Row.congr (Row.other (h.rr i' hi') (a := ⟨Q i, j, none⟩) hne _) fun k hk => by simp [e]
theorem Bs.sett {w : World} {b n : Nat} {m t sd : Int} {Q C : Nat → Nat} (h : Bs w b n m t sd Q C) (t' : Int) : Bs (w.setCell ⟨b, 2, none⟩ (.int .i64 t')) b n m t' sd Q C := set_block h 2 _
theorem Rs.sett {W w : World} {n : Nat} {m t sd : Int} {Q C : Nat → Nat} {F : Nat → Nat → Nat} (h : Rs W w n m t sd Q C F) (t' : Int) : Rs W (w.setCell ⟨W.heap.size, 2, none⟩ (.int .i64 t')) n m t' sd Q C F :=
  ⟨h.o.sett t', (Below.heap_setCell w ⟨W.heap.size, 2, none⟩ _ _ (by show W.heap.size + 1 ≠ W.heap.size; omega)).trans h.z, fun i hi => Row.other (h.rr i hi) (a := ⟨W.heap.size, 2, none⟩) (by have := h.ll i hi; show Q i ≠ W.heap.size; omega) _, fun i hi => by simpa using h.ll i hi, h.mm, h.bb.setCell (p := ⟨W.heap.size, 2, none⟩) (Nat.le_refl _) _⟩
theorem Rs.put {W w : World} {n : Nat} {m t sd t0 m0 sd0 : Int} {n0 : Nat} {Q C q c : Nat → Nat} {F : Nat → Nat → Nat} (h : Bs w W.heap.size n0 m0 t0 sd0 q c) (hz : w.heap[W.heap.size + 1]? = some zO) (hr : Rw w Q n F) (hl : ∀ i, i < 4 → W.heap.size + 1 < Q i ∧ Q i < w.heap.size) (hm : ∀ i j, i < j → j < 4 → Q i < Q j) (hb : Below W.heap.size W w) : Rs W (put8 w W.heap.size n m t sd Q C) n m t sd Q C F := by
  refine ⟨put8_o h, (put8_but.block _ (Array.getElem?_eq_some_iff.1 hz).1 (by omega)).trans hz, fun i hi => Row.but (hr i hi) put8_but (by have := hl i hi; omega), fun i hi => by rw [put8_size]; exact hl i hi, hm, hb.trans (put8_but.below (Nat.le_refl _) hb.size)⟩
/-- the start of a function of the reference -/
theorem rstart {W : World} {n : Nat} {m t sd : Int} {r c : Nat → Nat} : Bs ((W.alloc (hO n m t sd r c)).alloc zO) W.heap.size n m t sd r c ∧ ((W.alloc (hO n m t sd r c)).alloc zO).heap[W.heap.size + 1]? = some zO := by
  have h1 : Bs (W.alloc (hO n m t sd r c)) W.heap.size n m t sd r c := (MapKept.heap_alloc W _).1
  have h2 := (MapKept.heap_alloc (W.alloc (hO n m t sd r c)) zO).1
  rw [World.size_alloc] at h2
  exact ⟨h1.of (Below.heap_alloc _ _ _ (by simp)), h2⟩
set_option maxRecDepth 100000 in
set_option maxHeartbeats 2000000 in
theorem rhalve {W : World} {n : Nat} {m t sd : Int} {r c : Nat → Nat} {F : Nat → Nat → Nat} (h : Rw W r n F) (n1 : 16 ≤ n) (n2 : n ≤ 65536) (hF : ∀ i j, F i j ≤ 15) (ht0 : 0 ≤ t) (ht1 : t ≤ 16777216) :
    Calls Try.prog 40 #[skv n m t sd r c] W fun e w' => ∃ Q C, e = .returned (skv n m (t / 2) sd Q C) ∧ Rw w' Q n (halF F) ∧ (∀ i, i < 4 → W.heap.size ≤ Q i ∧ Q i < w'.heap.size) ∧ (∀ i j, i < j → j < 4 → Q i < Q j) ∧ Below W.heap.size W w' := by
  have HCO := Lib.hid (fun (w : World) (hb : Below W.heap.size W w) => rcopy (m := m) (t := t) (sd := sd) (c := c) (h.below hb) n1 n2)
  have HF := Lib.hid hF
  unfold skv sk at *
  clear h hF
  go_enter Try.func40, Try.ntmps40
  go_wp2_with fail
  refine (HCO.out _ (by go_grown)).mono ?_
  rintro e w1 ⟨Q, C, rfl, hr1, hl1, hm1, b1⟩
  have hsz := b1.size
  simp only [World.size_alloc] at hsz hl1
  have B1 := Lib.hid (show Below W.heap.size W w1 from tr (by go_grown) b1)
  obtain ⟨hs1, hs2⟩ := rstart (W := W) (n := n) (m := m) (t := t) (sd := sd) (r := r) (c := c)
  have BX := hs1.below b1
  have ZX := (b1.block _ (by simp)).trans hs2
  have R0 := Lib.hid (Rs.put (m := m) (t := t) (sd := sd) (C := C) BX ZX hr1 (fun i hi => by have := hl1 i hi; omega) hm1 B1.out)
  obtain ⟨⟨g0, g1, g2, g3⟩, ⟨g4, g5, g6, g7⟩⟩ := BX.all
  have gf := BX.fr
  clear hs1 hs2 b1 BX ZX hr1 hl1 hm1
  go_wp2_with fail
  unfold put8 at R0
  generalize (((((((w1.setCell ⟨W.heap.size, 0, none⟩ (.int .i64 n)).setCell ⟨W.heap.size, 1, none⟩ (.int .i64 m)).setCell ⟨W.heap.size, 2, none⟩ (.int .i64 t)).setCell ⟨W.heap.size, 3, none⟩ (.int .u64 sd)).setCell ⟨W.heap.size, 4, none⟩ (.slice (some ⟨Q 0, 0, none⟩) n (C 0))).setCell ⟨W.heap.size, 5, none⟩ (.slice (some ⟨Q 1, 0, none⟩) n (C 1))).setCell ⟨W.heap.size, 6, none⟩ (.slice (some ⟨Q 2, 0, none⟩) n (C 2))).setCell ⟨W.heap.size, 7, none⟩ (.slice (some ⟨Q 3, 0, none⟩) n (C 3)) = U at *
  clear B1 g0 g1 g2 g3 g4 g5 g6 g7 gf hsz
  have S0 := Lib.hid (R0.out.congr (G := midF F 0 0) fun a _ b _ => by unfold midF; rw [if_neg (by omega)])
  clear R0
  go_loopw [3] (fun i wr => ∃ j : Nat, j ≤ 4 ∧ i = .int .i64 j ∧ Rs W wr n m t sd Q C (midF F j 0)) (fun i _ => 4 - (intOf i).toNat)
  case atStart => exact ⟨0, by omega, rfl, S0.out⟩
  case round =>
    clear S0
    obtain ⟨a, ha, rfl, hS⟩ := hrel
    have S1 := Lib.hid hS
    clear hS
    by_cases ha4 : a < 4
    · have hd : decide ((a : Int) < 4) = true := decide_eq_true (by omega)
      go_wp2_with fail
      go_loopw [4] (fun i wt => ∃ j : Nat, j ≤ n ∧ i = .int .i64 j ∧ Rs W wt n m t sd Q C (midF F a j)) (fun i _ => n - (intOf i).toNat)
      case atStart => exact ⟨0, by omega, rfl, S1.out⟩
      case round =>
        clear S1
        obtain ⟨j, hj, rfl, hS⟩ := hrel
        have S1 := Lib.hid hS
        clear hS
        have g0 := S1.out.o.c0
        by_cases hjn : j < n
        · have k0 := S1.out.o.row ha4
          have k1 := Row.cell (S1.out.rr a ha4) j hjn
          have k2 := Row.fr (S1.out.rr a ha4) j
          have hz := HF.out a j
          have hql := S1.out.ll a ha4
          rw [midF_at] at k1
          have SS := Lib.hid (S1.out.setr ha4 j (F a j / 2))
          rw [midF_step] at SS
          generalize hqa : Q a = qa at *
          generalize hca : C a = ca at *
          generalize hfz : F a j = z at *
          have SS2 := Lib.hid (SS.out.below ((Below.refl _ _).drew))
          clear hfz hqa hca SS S1
          have hwz : IntKind.i64.wrap ((z : Int) / 2) = (z : Int) / 2 := IntWalk.i64_in _ (by omega)
          go_wp2_with fail
          go_region_with fail
          all_goals go_wp2_with fail
          all_goals exact ⟨⟨j + 1, by omega, by go_num, SS2.out⟩, by simp [intOf]; omega⟩
        · obtain rfl : j = n := by omega
          go_wp2_with fail
          go_roundw
          case rel => exact ⟨a + 1, by omega, by go_num, S1.out.congr (midF_row F a j)⟩
          case measure => simp [intOf] <;> omega
    · obtain rfl : a = 4 := by omega
      obtain ⟨⟨g0, g1, g2, g3⟩, ⟨g4, g5, g6, g7⟩⟩ := S1.out.o.all
      obtain ⟨⟨z0, z1, z2, z3⟩, ⟨z4, z5, z6, z7⟩, zf⟩ := zcell S1.out.z
      have gf2 := S1.out.o.fr 2
      have hbl := S1.out.o.lt
      have hzl := S1.out.lt
      have S2 := Lib.hid ((S1.out.sett (t / 2)).congr (midF_end F n))
      clear S1
      go_wp2_with fail
      generalize wr.setCell ⟨W.heap.size, 2, none⟩ (.int .i64 (t / 2)) = V at *
      have BU := Lib.hid (put8_o (n := n) (m := m) (t := t / 2) (sd := sd) (Q := Q) (C := C) S2.out.z)
      have KU := Lib.hid (put8_but (w := V) (b := W.heap.size + 1) (n := n) (m := m) (t := t / 2) (sd := sd) (Q := Q) (C := C))
      have SU := Lib.hid (put8_size (w := V) (b := W.heap.size + 1) (n := n) (m := m) (t := t / 2) (sd := sd) (Q := Q) (C := C))
      unfold put8 at BU KU SU
      generalize (((((((V.setCell ⟨W.heap.size + 1, 0, none⟩ (.int .i64 n)).setCell ⟨W.heap.size + 1, 1, none⟩ (.int .i64 m)).setCell ⟨W.heap.size + 1, 2, none⟩ (.int .i64 (t / 2))).setCell ⟨W.heap.size + 1, 3, none⟩ (.int .u64 sd)).setCell ⟨W.heap.size + 1, 4, none⟩ (.slice (some ⟨Q 0, 0, none⟩) n (C 0))).setCell ⟨W.heap.size + 1, 5, none⟩ (.slice (some ⟨Q 1, 0, none⟩) n (C 1))).setCell ⟨W.heap.size + 1, 6, none⟩ (.slice (some ⟨Q 2, 0, none⟩) n (C 2))).setCell ⟨W.heap.size + 1, 7, none⟩ (.slice (some ⟨Q 3, 0, none⟩) n (C 3)) = U at *
      obtain ⟨⟨k0, k1, k2, k3⟩, ⟨k4, k5, k6, k7⟩⟩ := BU.out.all
      refine bodyPost_ret (v := skv n m (t / 2) sd Q C) (by simp [skv, sk, results, k0, k1, k2, k3, k4, k5, k6, k7, Try.results40, go_sem]) rfl ⟨Q, C, rfl, fun i hi => ?_, fun i hi => ?_, S2.out.mm, ?_⟩
      · exact Row.but (S2.out.rr i hi) KU.out (by have := S2.out.ll i hi; omega)
      · have := S2.out.ll i hi; have := SU.out; omega
      · exact S2.out.bb.trans (KU.out.below (Nat.le_succ _) S2.out.bb.size)
end Go.Proofs.Ytohldfhelppehaa.Skt
