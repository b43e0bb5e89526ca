/-
  Sketches of the program as a whole: where they lie, what they hold.
-/
import Derived.Test.YtohldfhelppehaaSkP
import Derived.Test.YtohldfhelppehaaBloE
set_option linter.unusedVariables false
set_option linter.unusedSimpArgs false
namespace Go.Proofs.Ytohldfhelppehaa.Skt
open Go.RowKit Kit Hash Blo
/-- all blocks but those from lo to hi are kept -/
structure Keep (lo hi : Nat) (w w' : World) : Prop where
  os : w'.os = w.os
  tape : w'.tape = w.tape
  output : w'.output = w.output
  size : w.heap.size ≤ w'.heap.size
  block : ∀ k, k < w.heap.size → k < lo ∨ hi ≤ k → w'.heap[k]? = w.heap[k]?
theorem Keep.refl (lo hi : Nat) (w : World) : Keep lo hi w w := ⟨rfl, rfl, rfl, Nat.le_refl _, fun _ _ _ => rfl⟩
theorem Keep.trans {lo hi : Nat} {x y z : World} (h : Keep lo hi x y) (k : Keep lo hi y z) : Keep lo hi x z :=
  ⟨k.os.trans h.os, k.tape.trans h.tape, k.output.trans h.output, Nat.le_trans h.size k.size, fun i hi hn => (k.block i (Nat.lt_of_lt_of_le hi h.size) hn).trans (h.block i hi hn)⟩
theorem Keep.of {lo hi : Nat} {w w' : World} (h : Below w.heap.size w w') : Keep lo hi w w' := ⟨h.os, h.tape, h.output, h.size, fun k hk _ => h.block k hk⟩
theorem Keep.tr {lo hi : Nat} {x y z : World} (h : Keep lo hi x y) (k : Below y.heap.size y z) : Keep lo hi x z := h.trans (Keep.of k)
theorem Keep.setCell {lo hi b j : Nat} {w w' : World} (h : Keep lo hi w w') (h1 : lo ≤ b) (h2 : b < hi) (v : Value) : Keep lo hi w (w'.setCell ⟨b, j, none⟩ v) := by
  have hb := (Below.refl b w').setCell (p := ⟨b, j, none⟩) (Nat.le_refl _) v
  exact ⟨hb.os.trans h.os, hb.tape.trans h.tape, hb.output.trans h.output, Nat.le_trans h.size hb.size, fun k hk hn => (Below.heap_setCell w' ⟨b, j, none⟩ v k (by show k ≠ b; omega)).trans (h.block k hk hn)⟩
theorem Keep.drew {lo hi : Nat} {w w' : World} (h : Keep lo hi w w') : Keep lo hi w w'.drew := h.tr ((Below.refl _ _).drew)
theorem Keep.drewN {lo hi : Nat} {w w' : World} (h : Keep lo hi w w') (n : Nat) : Keep lo hi w (w'.drewN n) := h.tr (below_drewN (Below.refl _ _) _)
theorem Keep.below {lo hi n : Nat} {w w' : World} (h : Keep lo hi w w') (hb : n ≤ lo) (hn : n ≤ w.heap.size) : Below n w w' :=
  ⟨h.os, h.tape, h.output, h.size, fun k hk => h.block k (by omega) (by omega)⟩
theorem Row.keep {W W' : World} {lo hi q n : Nat} {t : TypeId} {f : Nat → Value} (h : Row W q n t f) (hb : Keep lo hi W W') (hne : q < lo ∨ hi ≤ q) : Row W' q n t f := h.of_block (hb.block q h.lt hne)
theorem Bs.keep {w w' : World} {lo hi b n : Nat} {m t sd : Int} {r c : Nat → Nat} (h : Bs w b n m t sd r c) (hb : Keep lo hi w w') (hne : b < lo ∨ hi ≤ b) : Bs w' b n m t sd r c := h.of (hb.block b h.lt hne)
theorem Rw.keep {w w' : World} {lo hi : Nat} {r : Nat → Nat} {n : Nat} {F : Nat → Nat → Nat} (h : Rw w r n F) (hb : Keep lo hi w w') (hne : ∀ i, i < 4 → r i < lo ∨ hi ≤ r i) : Rw w' r n F := fun i hi => Row.keep (h i hi) hb (hne i hi)
/-- the object of a sketch -/
def gO (n : Nat) (m t sd : Int) (q c : Nat → Nat) : Obj := fO n m t sd n (q 0) (c 0) (q 1) (c 1) (q 2) (c 2) (q 3) (c 3)
/-- block p is a sketch, whose blocks all lie from lo to hi -/
structure Skf (w : World) (p lo hi n : Nat) (m t sd : Int) (q c : Nat → Nat) (F : Nat → Nat → Nat) : Prop where
  o : w.heap[p]? = some (gO n m t sd q c)
  r : ∀ i, i < 4 → Pr w (q i) n (F i)
  l0 : lo ≤ p
  pq : p < q 0
  q1 : q 0 < q 1
  q2 : q 1 < q 2
  q3 : q 2 < q 3
  l4 : q 3 < hi
  sz : hi ≤ w.heap.size
theorem Skf.lt {w : World} {p lo hi n : Nat} {m t sd : Int} {q c : Nat → Nat} {F : Nat → Nat → Nat} (h : Skf w p lo hi n m t sd q c F) : p < w.heap.size := (Array.getElem?_eq_some_iff.1 h.o).1
theorem Skf.pne {w : World} {p lo hi n : Nat} {m t sd : Int} {q c : Nat → Nat} {F : Nat → Nat → Nat} (h : Skf w p lo hi n m t sd q c F) : ∀ i, i < 4 → p < q i ∧ q i < hi := by
  have := h.pq; have := h.q1; have := h.q2; have := h.q3; have := h.l4
  exact four ⟨by omega, by omega⟩ ⟨by omega, by omega⟩ ⟨by omega, by omega⟩ ⟨by omega, by omega⟩
theorem Skf.qne {w : World} {p lo hi n : Nat} {m t sd : Int} {q c : Nat → Nat} {F : Nat → Nat → Nat} (h : Skf w p lo hi n m t sd q c F) : ∀ i, i < 4 → ∀ j, j < 4 → i ≠ j → q i ≠ q j := by
  have := h.q1; have := h.q2; have := h.q3
  refine four ?_ ?_ ?_ ?_ <;> refine four ?_ ?_ ?_ ?_ <;> intro hne <;> omega
theorem Skf.s {w : World} {p lo hi n : Nat} {m t sd : Int} {q c : Nat → Nat} {F : Nat → Nat → Nat} (h : Skf w p lo hi n m t sd q c F) : Sk w p m t sd n (q 0) (c 0) (q 1) (c 1) (q 2) (c 2) (q 3) (c 3) := h.o
theorem Skf.below {w v : World} {p lo hi n : Nat} {m t sd : Int} {q c : Nat → Nat} {F : Nat → Nat → Nat} (h : Skf w p lo hi n m t sd q c F) (hb : Below w.heap.size w v) : Skf v p lo hi n m t sd q c F :=
  ⟨(hb.block p h.lt).trans h.o, fun i hi => Row.below (h.r i hi) hb, h.l0, h.pq, h.q1, h.q2, h.q3, h.l4, Nat.le_trans h.sz hb.size⟩
theorem Skf.keep {w v : World} {p lo hi n : Nat} {m t sd : Int} {q c : Nat → Nat} {F : Nat → Nat → Nat} {lo' hi' : Nat} (h : Skf w p lo hi n m t sd q c F) (hb : Keep lo' hi' w v) (hne : hi ≤ lo' ∨ hi' ≤ lo) : Skf v p lo hi n m t sd q c F := by
  have h1 := h.l0; have h2 := h.pne; have h3 := h.pne 0 (by decide)
  exact ⟨(hb.block p h.lt (by omega)).trans h.o, fun i hi => Row.keep (h.r i hi) hb (by have := h2 i hi; omega), h.l0, h.pq, h.q1, h.q2, h.q3, h.l4, Nat.le_trans h.sz hb.size⟩
theorem Skf.cr {w : World} {p lo hi n : Nat} {m t sd : Int} {q c : Nat → Nat} {F : Nat → Nat → Nat} (h : Skf w p lo hi n m t sd q c F) {i : Nat} (hi4 : i < 4) : w.cell? ⟨p, 5 + i, none⟩ = some (.slice (some ⟨q i, 0, none⟩) n (c i)) := by
  have h1 := h.s.rw1
  rcases i with _ | _ | _ | _ | i
  · exact h1.1
  · exact h1.2.1
  · exact h1.2.2.1
  · exact h1.2.2.2
  · omega
theorem Skf.fr {w : World} {p lo hi n : Nat} {m t sd : Int} {q c : Nat → Nat} {F : Nat → Nat → Nat} (h : Skf w p lo hi n m t sd q c F) (o : Nat) : w.frozen? ⟨p, o, none⟩ = false := by unfold World.frozen?; rw [show w.heap[p]? = _ from h.o]; rfl
theorem Skf.congr {w : World} {p lo hi n : Nat} {m t sd : Int} {q c : Nat → Nat} {F G : Nat → Nat → Nat} (h : Skf w p lo hi n m t sd q c F) (e : ∀ i, i < 4 → ∀ j, j < n → F i j = G i j) : Skf w p lo hi n m t sd q c G :=
  ⟨h.o, fun i hi => Row.congr (h.r i hi) fun j hj => by rw [e i hi j hj], h.l0, h.pq, h.q1, h.q2, h.q3, h.l4, h.sz⟩
/-- a counter is set -/
theorem Skf.setr {w : World} {p lo hi n : Nat} {m t sd : Int} {q c : Nat → Nat} {F : Nat → Nat → Nat} (h : Skf w p lo hi n m t sd q c F) {i : Nat} (hi4 : i < 4) (j v : Nat) :
    Skf (w.setCell ⟨q i, j, none⟩ (.int .u8 (v : Nat))) p lo hi n m t sd q c (fun i' j' => if i' = i ∧ j' = j then v else F i' j') := by
  have h2 := h.pne i hi4
  refine ⟨(Below.heap_setCell w ⟨q i, j, none⟩ _ p (by show p ≠ q i; omega)).trans h.o, fun i' hi' => ?_, h.l0, h.pq, h.q1, h.q2, h.q3, h.l4, by simpa using h.sz⟩
  by_cases e : i' = i
  · subst e
    exact Row.congr (Row.set (h.r i' hi') j (.int .u8 (v : Nat))) fun k hk => by by_cases hh : k = j <;> simp [hh]
  · exact Row.congr (Row.other (h.r i' hi') (a := ⟨q i, j, none⟩) (h.qne i' hi' i hi4 e) _) fun k hk => by simp [e]
/-- the number of additions is set -/
theorem Skf.sett {w : World} {p lo hi n : Nat} {m t sd : Int} {q c : Nat → Nat} {F : Nat → Nat → Nat} (h : Skf w p lo hi n m t sd q c F) (t' : Int) :
    Skf (w.setCell ⟨p, 2, none⟩ (.int .i64 t')) p lo hi n m t' sd q c F := by
  refine ⟨set_block h.o 2 _, fun i hi => ?_, h.l0, h.pq, h.q1, h.q2, h.q3, h.l4, by simpa using h.sz⟩
  exact Row.other (h.r i hi) (a := ⟨p, 2, none⟩) (by have := h.pne i hi; show q i ≠ p; omega) _
theorem Skf.drew {w : World} {p lo hi n : Nat} {m t sd : Int} {q c : Nat → Nat} {F : Nat → Nat → Nat} (h : Skf w p lo hi n m t sd q c F) : Skf w.drew p lo hi n m t sd q c F := h.below ((Below.refl _ _).drew)
/-- what halving leaves -/
def halF (F : Nat → Nat → Nat) : Nat → Nat → Nat := fun i j => F i j / 2
/-- what adding leaves -/
def addF (F : Nat → Nat → Nat) (x n : Nat) : Nat → Nat → Nat := fun i j => if j = pl4 x n i then min 15 (F i j + 1) else F i j
theorem halF_le {F : Nat → Nat → Nat} (h : ∀ i j, F i j ≤ 15) : ∀ i j, halF F i j ≤ 15 := fun i j => by have := h i j; unfold halF; omega
theorem addF_le {F : Nat → Nat → Nat} (h : ∀ i j, F i j ≤ 15) (x n : Nat) : ∀ i j, addF F x n i j ≤ 15 := fun i j => by have := h i j; unfold addF; split <;> omega
/-- what halving has done so far -/
def midF (F : Nat → Nat → Nat) (r j : Nat) : Nat → Nat → Nat := fun a b => if a < r ∨ a = r ∧ b < j then F a b / 2 else F a b
theorem midF_at (F : Nat → Nat → Nat) (r j : Nat) : midF F r j r j = F r j := by unfold midF; rw [if_neg (by omega)]
theorem midF_step (F : Nat → Nat → Nat) (r j : Nat) : (fun a b => if a = r ∧ b = j then F r j / 2 else midF F r j a b) = midF F r (j + 1) := by
  funext a b
  unfold midF
  by_cases h : a = r ∧ b = j
  · rw [if_pos h, if_pos (by omega)]; obtain ⟨rfl, rfl⟩ := h; rfl
  · rw [if_neg h]
    by_cases h2 : a < r ∨ a = r ∧ b < j
    · rw [if_pos h2, if_pos (by omega)]
    · rw [if_neg h2, if_neg (by omega)]
theorem midF_row (F : Nat → Nat → Nat) (r n : Nat) (a : Nat) (ha : a < 4) (b : Nat) (hb : b < n) : midF F r n a b = midF F (r + 1) 0 a b := by
  unfold midF
  by_cases h2 : a < r ∨ a = r ∧ b < n
  · rw [if_pos h2, if_pos (by omega)]
  · rw [if_neg h2, if_neg (by omega)]
theorem midF_end (F : Nat → Nat → Nat) (n : Nat) (a : Nat) (ha : a < 4) (b : Nat) (hb : b < n) : midF F 4 0 a b = halF F a b := by
  unfold midF halF; rw [if_pos (by omega)]
theorem midF_le {F : Nat → Nat → Nat} (h : ∀ i j, F i j ≤ 15) (r j : Nat) : ∀ a b, midF F r j a b ≤ 15 := fun a b => by have := h a b; unfold midF; split <;> omega
theorem ixs (w : World) (q c : Nat → Nat) (n : Nat) : ∀ r : Nat, r < 4 → (Instr.index 103 (.agg #[.slice (some ⟨q 0, 0, none⟩) n (c 0), .slice (some ⟨q 1, 0, none⟩) n (c 1), .slice (some ⟨q 2, 0, none⟩) n (c 2), .slice (some ⟨q 3, 0, none⟩) n (c 3)]) (.int .i64 r)).run Try.prog w = .ok (.slice (some ⟨q r, 0, none⟩) n (c r)) w := by
  refine four ?_ ?_ ?_ ?_ <;> simp [Instr.index, run_underlying Try.underlying103, part, isAgg, go_sem]
theorem new_skf {b m sd : Int} {n : Nat} (h : als b m = true) (hb : b = n) (w : World) :
    Calls Try.prog 32 #[.int .i64 b, .int .u64 sd, .int .i64 m] w fun e w' => ∃ p q c, e = .returned (.tuple #[.pointer (some ⟨p, 0, none⟩), .int .i64 0]) ∧ Skf w' p w.heap.size w'.heap.size n m 0 sd q c (fun _ _ => 0) ∧ Below w.heap.size w w' := by
  refine (pnew_ok (sd := sd) h w).mono ?_
  rintro e w1 ⟨p, q1, q2, q3, q4, rfl, ho, h1, h2, h3, h4, l0, l1, l2, l3, l4, b1⟩
  subst hb
  exact ⟨p, fun i => match i with | 0 => q1 | 1 => q2 | 2 => q3 | _ => q4, fun _ => n, rfl, ⟨ho, four h1 h2 h3 h4, l0, l1, l2, l3, l4, h4.lt, Nat.le_refl _⟩, b1⟩
set_option maxRecDepth 100000 in
set_option maxHeartbeats 2000000 in
theorem phalve {W : World} {p lo hi n : Nat} {m t sd : Int} {q c : Nat → Nat} {F : Nat → Nat → Nat} (h : Skf W p lo hi n m t sd q c F) (n1 : 16 ≤ n) (n2 : n ≤ 65536) (hF : ∀ i j, F i j ≤ 15) (ht0 : 0 ≤ t) (ht1 : t ≤ 16777216) :
    Calls Try.prog 39 #[.pointer (some ⟨p, 0, none⟩)] W fun e w' => e = .returned (.int .i64 0) ∧ Skf w' p lo hi n m (t / 2) sd q c (halF F) ∧ Keep lo hi W w' := by
  have HZ := Lib.hid (isz h.s n1)
  have H := Lib.hid h
  have HF := Lib.hid hF
  obtain ⟨d5, d6, d7, d8⟩ := h.s.rw1
  clear h hF
  go_enter Try.func39, Try.ntmps39
  go_wp2_with fail
  refine HZ.out.mono ?_
  rintro e w1 ⟨rfl, rfl⟩
  go_wp2_with fail
  have H0 := Lib.hid (H.out.congr (G := midF F 0 0) fun a _ b _ => by unfold midF; rw [if_neg (by omega)])
  clear d5 d6 d7 d8 H
  go_loopw [12] (fun i wr => ∃ r : Nat, r ≤ 4 ∧ i = .int .i64 r ∧ Skf wr p lo hi n m t sd q c (midF F r 0) ∧ Keep lo hi W wr) (fun i _ => 4 - (intOf i).toNat)
  case atStart => exact ⟨0, by omega, rfl, H0.out, Keep.refl _ _ _⟩
  case round =>
    clear H0
    obtain ⟨r, hr, rfl, hS, hK⟩ := hrel
    have S1 := Lib.hid hS
    have K1 := Lib.hid hK
    clear hS hK
    by_cases hr4 : r < 4
    · have hix := fun w => ixs w q c n r hr4
      generalize hqr : q r = qr at *
      generalize hcr : c r = cr at *
      have HQ := Lib.hid hqr
      clear hqr hcr
      go_wp2_with fail
      go_loopw [17] (fun i wt => ∃ j : Nat, j ≤ n ∧ i = .int .i64 j ∧ Skf wt p lo hi n m t sd q c (midF F r j) ∧ Keep lo hi W wt) (fun i _ => n - (intOf i).toNat)
      case atStart => exact ⟨0, by omega, rfl, S1.out, K1.out⟩
      case round =>
        clear S1 K1
        obtain ⟨j, hj, rfl, hS, hK⟩ := hrel
        have S1 := Lib.hid hS
        have K1 := Lib.hid hK
        clear hS hK
        by_cases hjn : j < n
        · have k1 := (S1.out.r r hr4).cell j hjn
          have k2 := (S1.out.r r hr4).fr j
          have hz := HF.out r j
          have hpq := S1.out.pne r hr4
          have hlo := S1.out.l0
          rw [midF_at] at k1
          rw [HQ.out] at k1 k2 hpq
          have SS := Lib.hid (S1.out.setr hr4 j (F r j / 2))
          rw [midF_step, HQ.out] at SS
          generalize hfz : F r j = z at *
          clear hfz
          go_wp2_with fail
          go_roundw
          case rel => exact ⟨j + 1, by omega, by go_num, SS.out, K1.out.setCell (by omega) (by omega) _⟩
          case measure => simp [intOf] <;> omega
        · obtain rfl : j = n := by omega
          go_wp2_with fail
          go_roundw
          case rel => exact ⟨r + 1, by omega, by go_num, S1.out.congr (midF_row F r j), K1.out⟩
          case measure => simp [intOf] <;> omega
    · obtain rfl : r = 4 := by omega
      have c2 := S1.out.s.c2
      have c2f := S1.out.fr 2
      go_wp2_with fail
      go_ret
      exact ⟨rfl, (S1.out.sett _).congr (midF_end F n), K1.out.setCell S1.out.l0 (by have := S1.out.pne 0 (by decide); omega) _⟩
end Go.Proofs.Ytohldfhelppehaa.Skt
