/-
  Walks over package bloom (layer 34): ones, words, copies, joins.
-/
import Derived.Test.YtohldfhelppehaaBloT
import Derived.Laws.Bits128
import Derived.Laws.CopyOwn
import Derived.WideShapes
set_option linter.unusedVariables false
set_option linter.unusedSimpArgs false
namespace Go.Proofs.Ytohldfhelppehaa.Blo
open Go.RowKit Kit Hash
theorem andI (x m : Nat) (X M : Int) (hx : x < 18446744073709551616) (hm : m < 18446744073709551616) (hX : X = x) (hM : M = m) : bits .and .u64 X M = ((x &&& m : Nat) : Int) := by
  rw [hX, hM]; exact u64_and_nat x m hx hm
theorem wr (z : Int) (n : Nat) (h : z = n) (hn : n < 18446744073709551616) : IntKind.u64.wrap z = (n : Int) := by
  rw [h]; exact IntWalk.u64_in _ (by omega)
theorem f_half (x a : Nat) (m : Nat) (k : Nat) (K M : Int) (hK : K = k) (hM : M = m) (hx : x < 18446744073709551616) (hm : m < 18446744073709551616) (ha : a = (x / k &&& m) + (x &&& m)) (hal : a < 18446744073709551616) :
    IntKind.u64.wrap (bits .and .u64 ((x : Int) / K) M + bits .and .u64 (x : Int) M) = (a : Int) := by
  have h1 : x / k < 18446744073709551616 := Nat.lt_of_le_of_lt (Nat.div_le_self _ _) hx
  rw [andI (x / k) m _ _ h1 hm (by rw [hK]; rfl) hM, andI x m _ _ hx hm rfl hM, ← Int.natCast_add, ← ha]
  exact wr _ a rfl hal
theorem f_sum (c c2 k : Nat) (K : Int) (hK : K = k) (h : c2 = c + c / k) (hl : c2 < 18446744073709551616) : IntKind.u64.wrap ((c : Int) + (c : Int) / K) = (c2 : Int) :=
  wr _ c2 (by rw [h, hK, Int.natCast_add, Int.natCast_ediv]) hl
set_option maxRecDepth 100000 in
theorem pop_any (x : Nat) (hx : x < 18446744073709551616) (w : World) :
    Calls Try.prog 58 #[.int .u64 (x : Int)] w fun e w' => e = .returned (.int .i64 ((Lib.onesCount x : Nat) : Int)) ∧ w = w' := by
  obtain ⟨a, b, c, ha, hal, hb, hbl, hdl, hc, hcl, ho⟩ := pop_all x hx
  have f1 := f_half x a 6148914691236517205 2 2 6148914691236517205 rfl rfl hx (by decide) ha hal
  clear ha
  have f2 := f_half a b 3689348814741910323 4 4 3689348814741910323 rfl rfl hal (by decide) hb hbl
  clear hb
  obtain ⟨d, hd⟩ : ∃ d, d = b / 16 + b := ⟨_, rfl⟩
  rw [← hd] at hc hdl
  have f3 : IntKind.u64.wrap ((b : Int) / 16 + (b : Int)) = (d : Int) := wr _ d (by rw [hd, Int.natCast_add, Int.natCast_ediv]; rfl) hdl
  have f4 : bits .and .u64 (d : Int) 1085102592571150095 = (c : Int) := by
    exact (andI d 1085102592571150095 (d : Int) 1085102592571150095 hdl (by decide) rfl rfl).trans (by rw [← hc])
  clear hc hd hdl
  obtain ⟨c2, h2⟩ : ∃ z, z = c + c / 256 := ⟨_, rfl⟩
  rw [← h2] at ho
  obtain ⟨c3, h3⟩ : ∃ z, z = c2 + c2 / 65536 := ⟨_, rfl⟩
  rw [← h3] at ho
  obtain ⟨c4, h4⟩ : ∃ z, z = c3 + c3 / 4294967296 := ⟨_, rfl⟩
  rw [← h4] at ho
  have l2 : c2 ≤ 600000000000000000 := by clear ho f1 f2 f3 f4; omega
  have l3 : c3 ≤ 700000000000000000 := by clear ho f1 f2 f3 f4; omega
  have l4 : c4 ≤ 800000000000000000 := by clear ho f1 f2 f3 f4; omega
  have f5 := f_sum c c2 256 256 rfl h2 (by clear ho f1 f2 f3 f4; omega)
  have f6 := f_sum c2 c3 65536 65536 rfl h3 (by clear ho f1 f2 f3 f4; omega)
  have f7 := f_sum c3 c4 4294967296 4294967296 rfl h4 (by clear ho f1 f2 f3 f4; omega)
  have f8 : wrap64 (c4 : Int) = (c4 : Int) := IntWalk.wrap64_in _ (by clear ho f1 f2 f3 f4; omega)
  have f9 : bits .and .i64 (c4 : Int) 127 = ((c4 % 128 : Nat) : Int) := by rw [i64_and127]; rfl
  rw [ho] at f9
  clear hal hbl hcl ho h2 h3 h4 l2 l3 l4
  go_enter Try.func58, Try.ntmps58
  go_wp2_with fail
  go_ret
  exact ⟨rfl, rfl⟩
set_option maxRecDepth 100000 in
theorem wordsR {W : World} {p q n : Nat} {hs sd : Int} {s : Nat → Bool} (h : Fl W p q n hs sd s) (ok : Ok n hs sd) :
    Calls Try.prog 28 #[.pointer (some ⟨p, 0, none⟩)] W fun e w' => ∃ g, e = .returned (.slice (some ⟨g, 0, none⟩) n n) ∧ W.heap.size ≤ g ∧ Fr w' g n s ∧ Below W.heap.size W w' := by
  have HF := Lib.hid h
  have HZ := Lib.hid (isZero_no h.b ok)
  have n1 := ok.n1
  have n2 := ok.n2
  obtain ⟨cp, hcp, c3⟩ := h.b.c3
  have hmk := fun w => make_any (P := Try.prog) w 54 22 (.int .u64 0) 1 8 (by kernel_rfl) (by kernel_rfl) (n : Int) (by omega) (by omega) (by omega)
  clear h ok
  go_enter Try.func28, Try.ntmps28
  go_wp2_with fail
  refine HZ.out.mono ?_
  rintro e w1 ⟨rfl, rfl⟩
  have hpW := HF.out.b.lt
  have hqW := HF.out.r.lt
  have hsrc : ∀ j v, ((List.range n).map fun i => Value.int .u64 (wd s i : Nat))[j]? = some v → (W.alloc (.cells (madeCells #[.int .u64 0] n) 22)).cell? ((⟨q, 0, none⟩ : Addr).add j) = some v := by
    intro j v hj
    have hjn : j < n := by have := (List.getElem?_eq_some_iff.1 hj).1; simpa using this
    have := (HF.out.r.alloc (.cells (madeCells #[.int .u64 0] n) 22)).cell j hjn
    simp [hjn] at hj
    rw [Go.WideShapes.add_plain, Nat.zero_add, this, ← hj]
  have hnew : (W.alloc (.cells (madeCells #[.int .u64 0] n) 22)).heap[W.heap.size]? = some (.cells (madeCells #[.int .u64 0] n) 22 (0, 0)) := (MapKept.heap_alloc W _).1
  have hcy := run_copy_row (P := Try.prog) (W.alloc (.cells (madeCells #[.int .u64 0] n) 22)) 54 54 3 22 W.heap.size 0 n n ⟨q, 0, none⟩ n cp (madeCells #[.int .u64 0] n) 22 ((List.range n).map fun i => Value.int .u64 (wd s i : Nat)) Try.underlying54 (by kernel_rfl) hnew (by simp [Nat.min_self]) hsrc (by simp [madeCells]) (by intro v hv; obtain ⟨x, _, rfl⟩ := List.mem_map.1 hv; rfl)
  obtain ⟨row, hrow⟩ : ∃ row, row = ((madeCells #[.int .u64 0] n).toList.take 0 ++ ((List.range n).map fun i => Value.int .u64 (wd s i : Nat)) ++ (madeCells #[.int .u64 0] n).toList.drop (0 + ((List.range n).map fun i => Value.int .u64 (wd s i : Nat)).length)).toArray := ⟨_, rfl⟩
  rw [← hrow] at hcy
  have hfr : Fr ((W.alloc (.cells (madeCells #[.int .u64 0] n) 22)).setRow W.heap.size row) W.heap.size n s := by
    refine ⟨row, setRow_heap _ _ _ _ _ _ hnew, by rw [hrow]; simp [madeCells], fun i hi => ?_⟩
    rw [hrow]; simp [madeCells, hi]
  have HFR := Lib.hid hfr
  have HBW := Lib.hid (below_setRow (w0 := W) (B := W.heap.size) (g := W.heap.size) (w := W.alloc (.cells (madeCells #[.int .u64 0] n) 22)) (by go_grown) (Nat.le_refl _) row)
  clear hsrc hnew hrow hfr
  go_wp2_with fail
  go_ret
  exact ⟨_, rfl, Nat.le_refl _, HFR.out, HBW.out⟩
set_option maxRecDepth 100000 in
theorem onesR {W : World} {p q n : Nat} {hs sd : Int} {s : Nat → Bool} (h : Fl W p q n hs sd s) (ok : Ok n hs sd) :
    Calls Try.prog 20 #[.pointer (some ⟨p, 0, none⟩)] W fun e w' => e = .returned (.int .i64 ((cnt s (64 * n) : Nat) : Int)) ∧ W = w' := by
  have HF := Lib.hid h
  have HZ := Lib.hid (isZero_no h.b ok)
  have n1 := ok.n1
  have n2 := ok.n2
  obtain ⟨cp, hcp, c3⟩ := h.b.c3
  clear h ok
  go_enter Try.func20, Try.ntmps20
  go_wp2_with fail
  refine HZ.out.mono ?_
  rintro e w1 ⟨rfl, rfl⟩
  go_wp2_with fail
  go_loopw [3, 5, 13] (fun u _ i wr => ∃ j : Nat, j ≤ n ∧ i = .int .i64 j ∧ u = .int .i64 ((cnt s (64 * j) : Nat) : Int) ∧ W = wr) (fun _ _ i _ => n - (intOf i).toNat)
  case atStart => exact ⟨0, by omega, rfl, rfl, rfl⟩
  case round =>
    obtain ⟨j, hj, rfl, rfl, rfl⟩ := hrel
    have hc1 := cnt_le s (64 * j)
    by_cases hlt : j < n
    · have kj := HF.out.r.cell j hlt
      have hc2 := cnt_words s j
      have hc3 := cnt_le s (64 * (j + 1))
      have HC := Lib.hid hc2
      have HP := Lib.hid (pop_any (wd s j) (wd_lt s j) W)
      have hw : IntKind.i64.wrap (((cnt s (64 * j) : Nat) : Int) + ((Lib.onesCount (wd s j) : Nat) : Int)) = ((cnt s (64 * j) : Nat) : Int) + ((Lib.onesCount (wd s j) : Nat) : Int) := IntWalk.i64_in _ (by omega)
      clear hc2
      generalize cnt s (64 * j) = a at *
      generalize wd s j = x at *
      go_wp2_with fail
      refine HP.out.mono ?_
      rintro e w2 ⟨rfl, rfl⟩
      go_wp2_with fail
      go_roundw
      case rel => exact ⟨j + 1, by omega, by go_num, by rw [HC.out]; simp, trivial⟩
      case measure => simp [intOf] <;> omega
    · obtain rfl : j = n := by omega
      go_wp2_with fail
      go_ret
      exact ⟨rfl, rfl⟩
end Go.Proofs.Ytohldfhelppehaa.Blo
