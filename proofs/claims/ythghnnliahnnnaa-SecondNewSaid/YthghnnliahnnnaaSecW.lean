/-
  Walks over package second (layer 31): new caches.
-/
import Derived.Test.YthghnnliahnnnaaProg
import Derived.Test.YthghnnliahnnnaaKit
import Derived.Deep.RegionWith
import Derived.BigRegion
import Derived.BigQuiet
import Derived.Carry
import Derived.Deep.QuietTactic
set_option linter.unusedVariables false
set_option linter.unusedSimpArgs false
namespace Go.Proofs.Ythghnnliahnnnaa.Sec
open Go.RowKit Kit
/-- 'make([]T, n)', n open, T of any size -/
theorem make_any {P : Program} (w : World) (t e : TypeId) (z : Value) (s bytes : Nat) (ht : P.underlying t = some (.slice e)) (hinfo : (P.info? e).map (fun i => (i.zero, i.size, i.bytes)) = some (some z, s, bytes))
    (n : Int) (h0 : 0 ≤ n) (h1 : n ≤ 1000000) (hb : bytes ≤ 1000000) :
    (Instr.makeSlice t (.int .i64 n) (.int .i64 n)).run P w = .ok (.slice (some ⟨w.heap.size, 0, none⟩) n.toNat n.toNat) (w.alloc (.cells (madeCells z.cells (n.toNat * s)) e)) := by
  obtain ⟨i, hi, hzz⟩ := Option.map_eq_some_iff.1 hinfo
  simp only [Prod.mk.injEq] at hzz
  obtain ⟨hz, hs, hb'⟩ := hzz
  have hbb : (i.bytes : Int) * n ≤ 281474976710656 := by
    rw [hb']
    have h2 : (bytes : Int) ≤ 1000000 := by omega
    have := Int.mul_le_mul h2 h1 h0 (by omega)
    omega
  have hr := run_make (P := P) w t e i z ht hi hz .i64 .i64 n n h0 (Int.le_refl _) hbb (by omega)
  rw [hs] at hr
  exact hr
theorem place_info : (Try.prog.info? 178).map (fun i => (i.zero, i.size, i.bytes)) = some (some (.agg #[.int .u32 0, .bool false, .bool false]), 3, 8) := by kernel_rfl
/-- a row of n empty places at block q -/
def Row (W : World) (q n : Nat) : Prop := q < W.heap.size ∧ ∀ i, i < n → W.cell? ⟨q, i * 3, none⟩ = some (.int .u32 0) ∧ W.cell? ⟨q, i * 3 + 1, none⟩ = some (.bool false) ∧ W.cell? ⟨q, i * 3 + 2, none⟩ = some (.bool false)
theorem Row.below {W W' : World} {q n : Nat} (h : Row W q n) (hb : Below W.heap.size W W') : Row W' q n :=
  ⟨Nat.lt_of_lt_of_le h.1 hb.size, fun i hi => by
    obtain ⟨h1, h2, h3⟩ := h.2 i hi
    exact ⟨(hb.cell (p := ⟨q, _, none⟩) h.1).trans h1, (hb.cell (p := ⟨q, _, none⟩) h.1).trans h2, (hb.cell (p := ⟨q, _, none⟩) h.1).trans h3⟩⟩
theorem Row.new (W : World) (n : Nat) (t : TypeId) : Row (W.alloc (.cells (madeCells #[.int .u32 0, .bool false, .bool false] (n * 3)) t)) W.heap.size n := by
  have hb : (W.alloc (.cells (madeCells #[.int .u32 0, .bool false, .bool false] (n * 3)) t)).heap[W.heap.size]? = some (.cells (madeCells #[.int .u32 0, .bool false, .bool false] (n * 3)) t (0, 0)) := (MapKept.heap_alloc W _).1
  refine ⟨by simp, fun i hi => ?_⟩
  have key : ∀ j, j < n * 3 → (W.alloc (.cells (madeCells #[.int .u32 0, .bool false, .bool false] (n * 3)) t)).cell? ⟨W.heap.size, j, none⟩ = some ((#[.int .u32 0, .bool false, .bool false] : Array Value)[j % 3]!) := by
    intro j hj
    simp only [World.cell?, hb]
    simp [madeCells, hj]
  refine ⟨(key _ (by omega)).trans ?_, (key _ (by omega)).trans ?_, (key _ (by omega)).trans ?_⟩
  · rw [show i * 3 % 3 = 0 by omega]; rfl
  · rw [show (i * 3 + 1) % 3 = 1 by omega]; rfl
  · rw [show (i * 3 + 2) % 3 = 2 by omega]; rfl
/-- block p is a cache of n empty places -/
def New (W : World) (p n : Nat) : Prop := ∃ q m, W.heap[p]? = some (.cells #[.slice (some ⟨q, 0, none⟩) n n, .int .i64 0, .map (some m)] 142 (0, 0)) ∧ W.heap[m]? = some (.map #[] 0) ∧ Row W q n
theorem New.below {W W' : World} {p n : Nat} (h : New W p n) (hb : Below W.heap.size W W') : New W' p n := by
  obtain ⟨q, m, h1, h2, h3⟩ := h
  exact ⟨q, m, (hb.block p (Array.getElem?_eq_some_iff.1 h1).1).trans h1, (hb.block m (Array.getElem?_eq_some_iff.1 h2).1).trans h2, h3.below hb⟩
set_option maxRecDepth 100000 in
theorem new_any (n : Int) (w : World) (h0 : 1 ≤ n) (h1 : n ≤ 1024) :
    Calls Try.prog 27 #[.int .i64 n] w fun e w' => ∃ p, e = .returned (.tuple #[.pointer (some ⟨p, 0, none⟩), .int .i64 0]) ∧ New w' p n.toNat ∧ Below w.heap.size w w' := by
  have hmk := fun w => make_any (P := Try.prog) w 139 178 _ 3 8 (by kernel_rfl) place_info n (by omega) (by omega) (by omega)
  have hmm := fun w => run_makeMap (P := Try.prog) 140 w
  go_enter Try.func27, Try.ntmps27
  go_wp2_with fail
  go_ret2
  refine ⟨_, rfl, ⟨w.heap.size, w.heap.size + 1, ?_, ?_, ?_⟩, by go_grown⟩
  · have := (MapKept.heap_alloc ((w.alloc (Obj.cells (madeCells #[Value.int IntKind.u32 0, Value.bool false, Value.bool false] (n.toNat * 3)) 178)).alloc (Obj.map #[] 0)) (Obj.cells #[Value.slice (some ⟨w.heap.size, 0, none⟩) n.toNat n.toNat, Value.int IntKind.i64 0, Value.map (some (w.heap.size + 1))] 142)).1
    simpa [World.size_alloc] using this
  · have := (MapKept.heap_alloc (w.alloc (Obj.cells (madeCells #[Value.int IntKind.u32 0, Value.bool false, Value.bool false] (n.toNat * 3)) 178)) (Obj.map #[] 0)).1
    refine (Below.heap_alloc _ _ _ (by simp)).trans ?_
    simpa [World.size_alloc] using this
  · exact (Row.new w n.toNat 178).below (by go_grown)
theorem New.zero {W : World} {p n : Nat} (h : New W p n) (hn : 1 ≤ n) (hm : n ≤ 1024) :
    Calls Try.prog 133 #[.pointer (some ⟨p, 0, none⟩)] W fun e w' => e = .returned (.bool false) ∧ W = w' := by
  obtain ⟨q, m, h1, -, -⟩ := h
  have k0 : W.cell? ⟨p, 0, none⟩ = some (.slice (some ⟨q, 0, none⟩) n n) := by simp [World.cell?, h1]
  clear h1
  go_enter Try.func133, Try.ntmps133
  go_wp2
  go_ret
  exact ⟨ret_bool (by simp; omega), rfl⟩
theorem New.hand {W : World} {p n : Nat} (h : New W p n) (hn : 1 ≤ n) (hm : n ≤ 1024) :
    Calls Try.prog 87 #[.pointer (some ⟨p, 0, none⟩)] W fun e w' => e = .returned (.int .i64 0) ∧ W = w' := by
  have HZ := Lib.hid (h.zero hn hm)
  obtain ⟨q, m, h1, -, -⟩ := h
  have k0 : W.cell? ⟨p, 1, none⟩ = some (.int .i64 0) := by simp [World.cell?, h1]
  clear h1
  go_enter Try.func87, Try.ntmps87
  go_wp2_with fail
  refine HZ.out.mono ?_
  rintro e w1 ⟨rfl, rfl⟩
  go_wp2_with fail
  go_ret
  exact ⟨rfl, rfl⟩
theorem New.sizeR {W : World} {p n : Nat} (h : New W p n) (hn : 1 ≤ n) (hm : n ≤ 1024) :
    Calls Try.prog 89 #[.pointer (some ⟨p, 0, none⟩)] W fun e w' => e = .returned (.int .i64 n) ∧ W = w' := by
  have HZ := Lib.hid (h.zero hn hm)
  obtain ⟨q, m, h1, -, -⟩ := h
  have k0 : W.cell? ⟨p, 0, none⟩ = some (.slice (some ⟨q, 0, none⟩) n n) := by simp [World.cell?, h1]
  clear h1
  go_enter Try.func89, Try.ntmps89
  go_wp2_with fail
  refine HZ.out.mono ?_
  rintro e w1 ⟨rfl, rfl⟩
  go_wp2_with fail
  go_ret
  exact ⟨rfl, rfl⟩
set_option maxRecDepth 100000 in
theorem New.lenR {W : World} {p n : Nat} (h : New W p n) (hn : 1 ≤ n) (hm : n ≤ 1024) :
    Calls Try.prog 88 #[.pointer (some ⟨p, 0, none⟩)] W fun e w' => e = .returned (.int .i64 0) ∧ W = w' := by
  have HZ := Lib.hid (h.zero hn hm)
  obtain ⟨q, m, h1, h2, -⟩ := h
  have k0 : W.cell? ⟨p, 2, none⟩ = some (.map (some m)) := by simp [World.cell?, h1]
  have hlm : (Builtin.len_ #[140] 3 #[.map (some m)]).run Try.prog W = .ok (.int .i64 0) W := run_len_map (P := Try.prog) _ 140 3 m #[] 0 (by kernel_rfl) h2
  clear h1
  go_enter Try.func88, Try.ntmps88
  go_wp2_with fail
  refine HZ.out.mono ?_
  rintro e w1 ⟨rfl, rfl⟩
  go_wp2_with fail
  go_ret
  exact ⟨rfl, rfl⟩
set_option maxRecDepth 100000 in
theorem New.ringR {W : World} {p n : Nat} (h : New W p n) (hn : 1 ≤ n) (hm : n ≤ 1024) :
    Calls Try.prog 83 #[.pointer (some ⟨p, 0, none⟩)] W fun e w' => e = .returned (.tuple #[.slice none 0 0, .slice none 0 0]) ∧ Below W.heap.size W w' := by
  have HZ := Lib.hid (h.zero hn hm)
  obtain ⟨q, m, h1, h2, h3⟩ := h
  have k0 : W.cell? ⟨p, 0, none⟩ = some (.slice (some ⟨q, 0, none⟩) n n) := by simp [World.cell?, h1]
  clear h1 h2
  go_enter Try.func83, Try.ntmps83
  go_wp2_with fail
  refine HZ.out.mono ?_
  rintro e w1 ⟨rfl, rfl⟩
  have H3 := Lib.hid h3
  clear h3
  go_wp2_with fail
  go_loopw [2, 3, 13] (fun k u i wr => ∃ j : Nat, j ≤ n ∧ k = .slice none 0 0 ∧ u = .slice none 0 0 ∧ i = .int .i64 j ∧ Below W.heap.size W wr) (fun _ _ i _ => n - (intOf i).toNat)
  case atStart => exact ⟨0, by omega, rfl, rfl, rfl, by go_grown⟩
  case round =>
    obtain ⟨j, hj, rfl, rfl, rfl, bW⟩ := hrel
    by_cases hlt : j < n
    · have hr := H3.out.below bW
      obtain ⟨r0, r1, r2⟩ := hr.2 j hlt
      have hq : q < wr.heap.size := hr.1
      clear hr
      go_wp2_with fail
      go_roundw
      case rel => exact ⟨j + 1, by omega, rfl, rfl, by go_num, by first | exact bW | exact tr bW (by go_grown)⟩
      case measure => simp [intOf]; omega
    · obtain rfl : j = n := by omega
      go_wp2_with fail
      go_ret2
      exact ⟨rfl, bW⟩
end Go.Proofs.Ythghnnliahnnnaa.Sec
