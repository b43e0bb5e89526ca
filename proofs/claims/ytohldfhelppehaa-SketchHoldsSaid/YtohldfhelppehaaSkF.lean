/-
  The calls of the laws of layer 33; what holds from call to call.
-/
import Derived.Test.YtohldfhelppehaaSkG
set_option linter.unusedVariables false
set_option linter.unusedSimpArgs false
namespace Go.Proofs.Ytohldfhelppehaa.Skt
open Go.RowKit Kit Hash Blo
set_option maxRecDepth 100000 in
set_option maxHeartbeats 1000000 in
theorem few_any {W : World} {a : Option Addr} {len cap : Nat} {f0 : Nat → Int} {f1 : Nat → ByteArray} (h : Acts W a len f0 f1) :
    Calls Try.prog 36 #[.slice a len cap] W fun e w' => e = .returned (.bool (fewB len 60 f1)) ∧ Below W.heap.size W w' := by
  have HA := Lib.hid h
  clear h
  by_cases hl : 60 < (len : Int)
  · have hf : fewB len 60 f1 = false := by
      have : decide ((len : Int) ≤ 60) = false := by simp; omega
      unfold fewB; rw [this]; rfl
    rw [hf]
    clear hf
    go_enter Try.func36, Try.ntmps36
    go_wp2_with fail
    go_ret
    exact ⟨rfl, Below.refl _ _⟩
  · have hd : decide ((len : Int) ≤ 60) = true := by simp; omega
    have HFEW := Lib.hid (show fewB len 60 f1 = (List.range len).all fun i => decide ((f1 i).size ≤ 300) by unfold fewB; rw [hd]; rfl)
    clear hd
    go_enter Try.func36, Try.ntmps36
    go_wp2_with fail
    go_loopw [3] (fun i wr => ∃ j : Nat, j ≤ len ∧ i = .int .i64 j ∧ (∀ k, k < j → (f1 k).size ≤ 300) ∧ W = wr) (fun i _ => len - (intOf i).toNat)
    case atStart => exact ⟨0, by omega, rfl, fun k hk => by omega, rfl⟩
    case round =>
      obtain ⟨j, hj, rfl, hall, rfl⟩ := hrel
      have HALL := Lib.hid hall
      clear hall
      by_cases hlt : j < len
      · obtain ⟨x, rfl, hxb, y0, y1, y2⟩ := HA.out j hlt
        clear y0
        generalize hz : f1 j = z at *
        have HZ := Lib.hid hz
        clear hz
        unfold maxLen at y2
        by_cases h3 : 300 < z.size
        · go_wp2_with fail
          go_ret
          refine ⟨ret_bool ?_, Below.refl _ _⟩
          rw [HFEW.out]
          symm
          rw [List.all_eq_false]
          exact ⟨j, List.mem_range.2 hlt, by rw [HZ.out]; simp; omega⟩
        · go_wp2_with fail
          go_roundw
          case rel => exact ⟨j + 1, by omega, by go_num, fun k hk => by
            rcases Nat.lt_or_ge k j with h4 | h4
            · exact HALL.out k h4
            · obtain rfl : k = j := by omega
              rw [HZ.out]; omega, trivial⟩
          case measure => simp [intOf] <;> omega
      · obtain rfl : j = len := by omega
        go_wp2_with fail
        go_ret
        refine ⟨ret_bool ?_, Below.refl _ _⟩
        rw [HFEW.out]
        symm
        rw [List.all_eq_true]
        intro i hi
        have := HALL.out i (List.mem_range.1 hi)
        simpa using this
/-- a sketch, and a reference sketch in a variable -/
structure Pk (W w : World) (bx p lo hi n : Nat) (m sd : Int) (q c r rc : Nat → Nat) (t : Int) (F : Nat → Nat → Nat) (tr : Int) (G : Nat → Nat → Nat) : Prop where
  f : Skf w p lo hi n m t sd q c F
  z : Bs w bx n m tr sd r rc
  rr : Rw w r n G
  w : Below W.heap.size W w
  g : W.heap.size ≤ bx ∧ W.heap.size ≤ lo
  d : bx < lo
  dr : ∀ i, i < 4 → (r i < lo ∨ hi ≤ r i) ∧ r i ≠ bx
theorem Pk.below {W w v : World} {bx p lo hi n : Nat} {m sd : Int} {q c r rc : Nat → Nat} {t : Int} {F : Nat → Nat → Nat} {tr : Int} {G : Nat → Nat → Nat} (h : Pk W w bx p lo hi n m sd q c r rc t F tr G) (hb : Below w.heap.size w v) : Pk W v bx p lo hi n m sd q c r rc t F tr G :=
  ⟨h.f.below hb, h.z.below hb, h.rr.below hb, Kit.tr h.w hb, h.g, h.d, h.dr⟩
theorem Pk.upd {W w v : World} {bx p lo hi n : Nat} {m sd : Int} {q c r rc : Nat → Nat} {t t' : Int} {F F' : Nat → Nat → Nat} {tr : Int} {G : Nat → Nat → Nat} (h : Pk W w bx p lo hi n m sd q c r rc t F tr G) (hf : Skf v p lo hi n m t' sd q c F') (hb : Keep lo hi w v) : Pk W v bx p lo hi n m sd q c r rc t' F' tr G :=
  ⟨hf, h.z.keep hb (.inl h.d), h.rr.keep hb fun i hi => (h.dr i hi).1, h.w.trans (hb.below h.g.2 h.w.size), h.g, h.d, h.dr⟩
theorem Pk.put {W w : World} {bx p lo hi n : Nat} {m sd : Int} {q c r rc r' rc' : Nat → Nat} {t : Int} {F : Nat → Nat → Nat} {tr tr' : Int} {G G' : Nat → Nat → Nat} (h : Pk W w bx p lo hi n m sd q c r rc t F tr G) (hr : Rw w r' n G') (hl : ∀ i, i < 4 → hi ≤ r' i) : Pk W (put8 w bx n m tr' sd r' rc') bx p lo hi n m sd q c r' rc' t F tr' G' := by
  have hb : But bx w (put8 w bx n m tr' sd r' rc') := put8_but
  have hs := put8_size (w := w) (b := bx) (n := n) (m := m) (t := tr') (sd := sd) (Q := r') (C := rc')
  have hd := h.d
  have h0 := h.f.l0
  have hpq := h.f.pne
  have hp0 := hpq 0 (by decide)
  refine ⟨⟨(hb.block p h.f.lt (by omega)).trans h.f.o, fun i hi => Row.but (h.f.r i hi) hb (by have := hpq i hi; omega), h.f.l0, h.f.pq, h.f.q1, h.f.q2, h.f.q3, h.f.l4, by rw [hs]; exact h.f.sz⟩, put8_o h.z, fun i hi => Row.but (hr i hi) hb (by have := hl i hi; omega), h.w.trans (hb.below h.g.1 h.w.size), h.g, h.d, fun i hi => ⟨.inr (hl i hi), by have := hl i hi; omega⟩⟩
/-- another sketch, made later -/
theorem Pk.newf {W w : World} {bx p lo hi n : Nat} {m sd : Int} {q c r rc : Nat → Nat} {t : Int} {F : Nat → Nat → Nat} {tr : Int} {G : Nat → Nat → Nat} (h : Pk W w bx p lo hi n m sd q c r rc t F tr G) {p' lo' hi' : Nat} {q' c' : Nat → Nat} {t' : Int} {F' : Nat → Nat → Nat} (hf : Skf w p' lo' hi' n m t' sd q' c' F') (h1 : bx < lo') (h2 : ∀ i, i < 4 → r i < lo') : Pk W w bx p' lo' hi' n m sd q' c' r rc t' F' tr G :=
  ⟨hf, h.z, h.rr, h.w, ⟨h.g.1, by have := h.g.1; omega⟩, h1, fun i hi => ⟨.inl (h2 i hi), (h.dr i hi).2⟩⟩
/-- some block of nobody's is written -/
theorem Pk.far {W w v : World} {bx p lo hi n x : Nat} {m sd : Int} {q c r rc : Nat → Nat} {t : Int} {F : Nat → Nat → Nat} {tr : Int} {G : Nat → Nat → Nat} (h : Pk W w bx p lo hi n m sd q c r rc t F tr G) (hb : But x w v) (h0 : W.heap.size ≤ x) (h1 : x < lo ∨ hi ≤ x) (h2 : bx ≠ x) (h3 : ∀ i, i < 4 → r i ≠ x) : Pk W v bx p lo hi n m sd q c r rc t F tr G := by
  have hpq := h.f.pne
  have hp0 := hpq 0 (by decide)
  have hl := h.f.l0
  refine ⟨⟨(hb.block p h.f.lt (by omega)).trans h.f.o, fun i hi => Row.but (h.f.r i hi) hb (by have := hpq i hi; omega), h.f.l0, h.f.pq, h.f.q1, h.f.q2, h.f.q3, h.f.l4, Nat.le_trans h.f.sz hb.size⟩, h.z.of (hb.block bx h.z.lt h2), fun i hi => Row.but (h.rr i hi) hb (h3 i hi), h.w.trans (hb.below h0 h.w.size), h.g, h.d, h.dr⟩
/-- block b is a variable that holds a call -/
def Bk3 (w : World) (b : Nat) (what : Int) (k : ByteArray) : Prop := w.heap[b]? = some (.cells #[.int .i64 what, .string k] 76)
theorem Bk3.c0 {w : World} {b : Nat} {what : Int} {k : ByteArray} (h : Bk3 w b what k) : w.cell? ⟨b, 0, none⟩ = some (.int .i64 what) := by unfold World.cell?; rw [show w.heap[b]? = _ from h]; rfl
theorem Bk3.c1 {w : World} {b : Nat} {what : Int} {k : ByteArray} (h : Bk3 w b what k) : w.cell? ⟨b, 1, none⟩ = some (.string k) := by unfold World.cell?; rw [show w.heap[b]? = _ from h]; rfl
theorem Bk3.lt {w : World} {b : Nat} {what : Int} {k : ByteArray} (h : Bk3 w b what k) : b < w.heap.size := (Array.getElem?_eq_some_iff.1 h).1
theorem Bk3.below {w w' : World} {b : Nat} {what : Int} {k : ByteArray} (h : Bk3 w b what k) (hb : Below w.heap.size w w') : Bk3 w' b what k := (hb.block b h.lt).trans h
theorem Bk3.but {w w' : World} {b x : Nat} {what : Int} {k : ByteArray} (h : Bk3 w b what k) (hb : But x w w') (hne : b ≠ x) : Bk3 w' b what k := (hb.block b h.lt hne).trans h
theorem Bk3.keep {w w' : World} {lo hi b : Nat} {what : Int} {k : ByteArray} (h : Bk3 w b what k) (hb : Keep lo hi w w') (hne : b < lo ∨ hi ≤ b) : Bk3 w' b what k := (hb.block b h.lt hne).trans h
end Go.Proofs.Ytohldfhelppehaa.Skt
