/-
  Victims (layer 18): slices.DeleteFunc of the closure of order.
-/
import Derived.Test.YtlokilkhlhhjgaaVicI
set_option linter.unusedVariables false
set_option linter.unusedSimpArgs false
namespace Go.Proofs.Ytlokilkhlhhjgaa.Vic
open Go Go.RowKit Kit
theorem fi_cases (k : Int) (l : List Wg) : (fi k l = -1 ∧ notk k l = l) ∨ ∃ (i : Nat) (p : Wg), fi k l = (i : Int) ∧ l[i]? = some p ∧ (p.1 == k) = true ∧ (∀ m x, m < i → l[m]? = some x → (x.1 == k) = false) := by
  cases h : l.findIdx? (fun x => x.1 == k) with
  | none =>
    refine .inl ⟨by unfold fi; rw [h], ?_⟩
    rw [List.findIdx?_eq_none_iff] at h
    unfold notk
    exact List.filter_eq_self.2 fun x hx => by rw [h x hx]; rfl
  | some i =>
    obtain ⟨hi, h1, h2⟩ := List.findIdx?_eq_some_iff_getElem.1 h
    refine .inr ⟨i, l[i], by unfold fi; rw [h], List.getElem?_eq_getElem hi, h1, fun m x hm hx => ?_⟩
    obtain ⟨hml, hxe⟩ := List.getElem?_eq_some_iff.1 hx
    have := h2 m hm
    rw [hxe] at this
    simpa using this
theorem Wr.below {w w' : World} {g cap : Nat} {lc : List Wg} (h : Wr w g cap lc) (hb : Below w.heap.size w w') : Wr w' g cap lc := by
  obtain ⟨cur, h1, h2⟩ := h
  exact ⟨cur, (hb.block g (Array.getElem?_eq_some_iff.1 h1).1).trans h1, h2⟩
theorem Wr.cells {w : World} {g cap i : Nat} {lc : List Wg} (h : Wr w g cap lc) (hi : i < lc.length) : (∃ u, w.cell? ⟨g, i * 2, none⟩ = some u) ∧ (∃ u, w.cell? ⟨g, i * 2 + 1, none⟩ = some u) ∧ w.frozen? ⟨g, i * 2, none⟩ = false ∧ w.frozen? ⟨g, i * 2 + 1, none⟩ = false := by
  obtain ⟨cur, h1, h2, h3, h4, h5⟩ := h
  have i1 : i * 2 < cur.size := by omega
  have i2 : i * 2 + 1 < cur.size := by omega
  refine ⟨⟨cur[i * 2], ?_⟩, ⟨cur[i * 2 + 1], ?_⟩, ?_, ?_⟩
  · simp [World.cell?, h1, i1]
  · simp [World.cell?, h1, i2]
  · simp [World.frozen?, h1]
  · simp [World.frozen?, h1]
theorem w_zero (w : World) : (zeroValue 34).run Try.prog w = .ok (.agg #[.int .u32 0, .int .i64 0]) w := by
  obtain ⟨i0, hi0, hz0, -, -⟩ := w_parts
  simp [zeroValue, typeInfo, hi0, hz0]
theorem w_one (n : Nat) : ∀ v ∈ (Builtin.zeroCells (Value.agg #[.int .u32 0, .int .i64 0]).cells n).toList, v.oneCell' = true := by
  intro v hv
  have hc : (Value.agg #[.int .u32 0, .int .i64 0]).cells = #[.int .u32 0, .int .i64 0] := rfl
  rw [hc] at hv
  simp only [Builtin.zeroCells] at hv
  simp at hv
  obtain ⟨m, hm, rfl⟩ := hv
  rcases Nat.mod_two_eq_zero_or_one m with h | h <;> simp [h, Value.oneCell']
theorem clear_zero (w : World) (p : Option Addr) (k : Nat) : (Builtin.clear_ #[22] 0 #[.slice p 0 k]).run Try.prog w = .ok (.tuple #[]) w := by
  have hu : Try.prog.underlying 22 = some (.slice 34) := by kernel_rfl
  cases p <;> simp [Builtin.clear_, run_underlying hu]
set_option maxRecDepth 100000 in
theorem del_any {w : World} {g n cap b B : Nat} {k : Int} {l : List Wg} (ho : Ow w B (.slice (some ⟨g, 0, none⟩) n cap) l) (hq : Qb w b k) (hbB : b < B) (hn : n ≤ 100000000) (hB : B ≤ w.heap.size) :
    Calls Try.prog 32 #[.slice (some ⟨g, 0, none⟩) n cap, .func (.func 33) #[] #[.pointer (some ⟨b, 0, none⟩)]] w fun e w' => ∃ v, e = .returned v ∧ Ow w' B v (notk k l) ∧ Below B w w' := by
  obtain ⟨hw, hg, hl⟩ := Wr.of ho
  have hr := rd_ow ho
  have O := Lib.hid ho
  have HW := Lib.hid hw
  have HI := Lib.hid (ifunc_any (cap := cap) hl hr hq hn)
  clear ho hw hr
  go_enter Try.func32, Try.ntmps32
  go_wp2_with fail
  refine (HI.out).mono ?_
  rintro e w1 ⟨rfl, b1⟩
  have B1 := Lib.hid b1
  have O1 := Lib.hid (ow_below O.out b1)
  rcases fi_cases k l with ⟨hf, hnk⟩ | ⟨i, p, hf, hp, hk, hb⟩
  · rw [hf]
    clear b1
    go_wp2_with fail
    go_ret
    exact ⟨_, rfl, by rw [hnk]; exact O1.out, B1.out.mono hB⟩
  · rw [hf]
    have i0 : ¬ (i : Int) = -1 := by omega
    have hil := (List.getElem?_eq_some_iff.1 hp).1
    have D0 := Lib.hid (Df.start hp hk hb)
    have wi := IntWalk.i64_in ((i : Int) + 1) (by omega)
    clear b1 hb hp hk
    go_wp2_with fail
    have QB := Lib.hid (fun (v : World) (hb : Below B w v) => (⟨(hb.cell (p := ⟨b, 2, none⟩) hbB).trans hq.1, Nat.lt_of_lt_of_le hq.2 hb.size⟩ : Qb v b k))
    go_loopw [5, 6] (fun vi vj wr => ∃ (a c : Nat) (lc : List Wg), Df k l lc a c ∧ vi = .int .i64 a ∧ vj = .int .i64 c ∧ Below B w wr ∧ Wr wr g cap lc) (fun _ vj _ => n - (intOf vj).toNat)
    case atStart => exact ⟨i, i + 1, l, D0.out, rfl, by go_num, B1.out.mono hB, (Wr.of O1.out).1⟩
    case round =>
      obtain ⟨a, c, lc, hD, rfl, rfl, bW, hW⟩ := hrel
      have D := Lib.hid hD
      have BW := Lib.hid bW
      have WW := Lib.hid hW
      have hca : a ≤ c := hD.ij
      have hcn : c ≤ n := by have := hD.jn; omega
      have hlen : lc.length = n := hD.len.trans hl
      clear hD hW
      by_cases hend : c = n
      · subst hend
        clear bW
        have hu : Try.prog.underlying 22 = some (.slice 34) := by kernel_rfl
        have hcap : lc.length ≤ cap := by obtain ⟨_, _, _, h3, _, _⟩ := WW.out; exact h3
        have DD := Lib.hid (Df.done (by rw [hl]; exact D.out : Df k l lc a l.length))
        by_cases hca' : c = a
        · subst hca'
          have hz := fun p k => clear_zero wr p k
          have hEnd := Lib.hid (WW.out.cut (w' := wr) (i := c) (by omega) hg fun cur h => ⟨cur, h, rfl, rfl⟩)
          rw [DD.out] at hEnd
          by_cases hcc : cap = c
          · subst hcc
            go_wp2_with fail
            all_goals go_ret
            all_goals exact ⟨_, rfl, hEnd.out, BW.out⟩
          · go_wp2_with fail
            all_goals go_ret
            all_goals exact ⟨_, rfl, hEnd.out, BW.out⟩
        · have hne : ¬ cap = a := by omega
          obtain ⟨cur, h1, h2, h3, h4, h5⟩ := WW.out
          have hfit : a * 2 + (Builtin.zeroCells (Value.agg #[.int .u32 0, .int .i64 0]).cells (c - a)).size ≤ cur.size := by
            rw [size_zeroCells]
            show a * 2 + (c - a) * 2 ≤ _
            omega
          obtain ⟨cur', hr, r1, r2⟩ := run_clear_row wr 22 34 0 _ hu w_zero w_one g (a * 2) (c - a) (cap - a) cur 34 h1 hfit
          have hEnd := Lib.hid (WW.out.cut (w' := wr.setRow g cur') (i := a) (by omega) hg fun cur0 h => by
            rw [h1] at h
            cases h
            exact ⟨cur', setRow_heap wr g cur cur' _ _ h1, r1, r2⟩)
          rw [DD.out] at hEnd
          have BE := Lib.hid (below_setRow BW.out hg cur')
          clear h1 h2 h3 h4 h5 hfit r1 r2
          go_wp2_with fail
          all_goals go_ret
          all_goals exact ⟨_, rfl, hEnd.out, BE.out⟩
      · have hlt : c < n := by omega
        have hlt' : (c : Int) < (n : Int) := by omega
        obtain ⟨x, hx⟩ : ∃ x, l[c]? = some x := ⟨l[c]'(by omega), List.getElem?_eq_getElem _⟩
        have hx2 := (D.out.at_).trans hx
        obtain ⟨y, hy, _, e0, e1⟩ := rd_ow (WW.out.ow hg) c x hx2
        cases hy
        have a0 : (⟨g, 0, none⟩ : Addr).add (c * 2) = ⟨g, c * 2, none⟩ := by unfold Addr.add; split <;> simp_all
        have a1 : (⟨g, 0, none⟩ : Addr).add (c * 2 + 1) = ⟨g, c * 2 + 1, none⟩ := by unfold Addr.add; split <;> simp_all
        rw [a0] at e0
        rw [a1] at e1
        have HX := Lib.hid hx
        clear bW hx hx2 a0 a1
        have bA : Below wr.heap.size wr (wr.alloc (.cells #[.int .u32 x.1, .int .i64 x.2] 34)) := by go_grown
        have BA := Lib.hid (BW.out.trans (bA.mono (Nat.le_trans hB BW.out.size)))
        have WA := Lib.hid (WW.out.below bA)
        have XA : (wr.alloc (.cells #[.int .u32 x.1, .int .i64 x.2] 34)).heap[wr.heap.size]? = some (.cells #[.int .u32 x.1, .int .i64 x.2] 34 (0, 0)) := (MapKept.heap_alloc wr _).1
        have XH := Lib.hid XA
        clear bA XA
        go_wp2_with fail
        refine (keep_any x.1 x.2 k b _ (QB.out _ BA.out)).mono ?_
        rintro e w3 ⟨rfl, b3⟩
        have hs3 := b3.size
        have B3 := Lib.hid (BA.out.trans (b3.mono (Nat.le_trans hB BA.out.size)))
        have W3 := Lib.hid (WA.out.below b3)
        have X3 := (b3.block wr.heap.size (by simp only [World.size_alloc]; omega)).trans XH.out
        have x0 : w3.cell? ⟨wr.heap.size, 0, none⟩ = some (.int .u32 x.1) := by simp [World.cell?, X3]
        have x1 : w3.cell? ⟨wr.heap.size, 1, none⟩ = some (.int .i64 x.2) := by simp [World.cell?, X3]
        clear b3 X3 e0 e1
        cases hxk : (x.1 == k) with
        | true =>
          have D' := Lib.hid (D.out.drop_ HX.out hxk)
          go_wp2_with fail
          go_roundw
          case rel =>
            refine ⟨_, _, _, _, _, _, _, _, _, _, _, _, _, _, _, _, _, _, _, _, _, _, _, ?_, rfl⟩
            exact ⟨a, c + 1, lc, D'.out, rfl, by go_num, B3.out, W3.out⟩
          case measure => simp [intOf]; omega
        | false =>
          have D' := Lib.hid (D.out.keep HX.out hxk)
          obtain ⟨⟨u0, y0⟩, ⟨u1, y1⟩, y2, y3⟩ := W3.out.cells (i := a) (by omega)
          have wa := IntWalk.i64_in ((a : Int) + 1) (by omega)
          have han : (a : Int) < (n : Int) := by omega
          have ha0 : (0 : Int) ≤ (a : Int) := by omega
          have S3 := Lib.hid (W3.out.set (i := a) (by omega) x)
          go_wp2_with fail
          go_roundw
          case rel =>
            refine ⟨_, _, _, _, _, _, _, _, _, _, _, _, _, _, _, _, _, _, _, _, _, _, _, ?_, rfl⟩
            exact ⟨a + 1, c + 1, lc.set a x, D'.out, by go_num, by go_num, (B3.out.setCell (p := ⟨g, a * 2, none⟩) hg _).setCell (p := ⟨g, a * 2 + 1, none⟩) hg _, S3.out⟩
          case measure => simp [intOf]; omega
end Go.Proofs.Ytlokilkhlhhjgaa.Vic
