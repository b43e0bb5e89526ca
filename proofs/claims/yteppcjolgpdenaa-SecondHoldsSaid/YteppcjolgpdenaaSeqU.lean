/-
  Second chance (layer 31): new caches; the law on any calls.
-/
import Derived.Test.YteppcjolgpdenaaSeqT
set_option linter.unusedVariables false
set_option linter.unusedSimpArgs false
namespace Go.Proofs.Yteppcjolgpdenaa.Seq
open Go Go.RowKit Kit Go.Maps
theorem make_any {P : Program} (w : World) (t e : TypeId) (z : Value) (s bytes : Nat) (ht : P.underlying t = some (.slice e)) (hinfo : (P.info? e).map (fun i => (i.size, i.bytes, i.zero)) = some (s, bytes, some z))
    (n : Int) (h0 : 0 ≤ n) (h1 : n ≤ 1000000) (hb : bytes ≤ 1000000) :
    (Instr.makeSlice t (.int .i64 n) (.int .i64 n)).run P w = .ok (.slice (some ⟨w.heap.size, 0, none⟩) n.toNat n.toNat) (w.alloc (.cells (madeCells z.cells (n.toNat * s)) e)) := by
  obtain ⟨i, hi, hzz⟩ := Option.map_eq_some_iff.1 hinfo
  simp only [Prod.mk.injEq] at hzz
  obtain ⟨hs, hb', hz⟩ := hzz
  have hbb : (i.bytes : Int) * n ≤ 281474976710656 := by
    rw [hb']
    have h2 : (bytes : Int) ≤ 1000000 := by omega
    have := Int.mul_le_mul h2 h1 h0 (by omega)
    omega
  have hr := run_make (P := P) w t e i z ht hi hz .i64 .i64 n n h0 (Int.le_refl _) hbb (by omega)
  rw [hs] at hr
  exact hr
theorem splace_info : (Try.prog.info? 65).map (fun i => (i.size, i.bytes, i.zero)) = some (3, 8, some (.agg #[.int .u32 0, .bool false, .bool false])) := by kernel_rfl
def blanks (n : Nat) : List Pl := List.replicate n ⟨0, false, false⟩
theorem blanks_len (n : Nat) : (blanks n).length = n := List.length_replicate
theorem Rw.blank (W : World) (n : Nat) (t : TypeId) : Rw (W.alloc (.cells (madeCells #[.int .u32 0, .bool false, .bool false] (n * 3)) t)) W.heap.size (blanks n) := by
  refine ⟨_, t, (MapKept.heap_alloc W _).1, fun i p hp => ?_⟩
  have hi : i < n := by have := (List.getElem?_eq_some_iff.1 hp).1; rwa [blanks_len] at this
  have hpe : p = ⟨0, false, false⟩ := by
    unfold blanks at hp
    rw [List.getElem?_replicate, if_pos hi] at hp
    exact (Option.some.inj hp).symm
  subst hpe
  have key : ∀ j, j < n * 3 → (madeCells #[.int .u32 0, .bool false, .bool false] (n * 3))[j]? = some ((#[.int .u32 0, .bool false, .bool false] : Array Value)[j % 3]!) := by
    intro j hj
    simp [madeCells, hj]
  refine ⟨(key _ (by omega)).trans ?_, (key _ (by omega)).trans ?_, (key _ (by omega)).trans ?_⟩
  · rw [show i * 3 % 3 = 0 by omega]; rfl
  · rw [show (i * 3 + 1) % 3 = 1 by omega]; rfl
  · rw [show (i * 3 + 2) % 3 = 2 by omega]; rfl
theorem blanks_full (n : Nat) : full (blanks n) = 0 := by
  unfold full blanks
  rw [List.countP_eq_zero]
  intro p hp
  rw [List.eq_of_mem_replicate hp]
  decide
theorem mp_blanks (n : Nat) : Mp (H := Unit) (.map []) (blanks n) :=
  ⟨fun k i hi => absurd hi (by
    rintro ⟨p, h1, h2, -⟩
    have := List.mem_of_getElem? h1
    rw [List.eq_of_mem_replicate this] at h2
    simp at h2), fun k _ => rfl, by rw [blanks_full]; rfl⟩
set_option maxRecDepth 100000 in
theorem snew_any {W : World} {n : Int} (h0 : 1 ≤ n) (h1 : n ≤ 1024) :
    Calls Try.prog 7 #[.int .i64 n] W fun e w' => ∃ c hi, e = .returned (.tuple #[.pointer (some ⟨c, 0, none⟩), .int .i64 0]) ∧ Sc w' c W.heap.size hi (blanks n.toNat) 0 ∧ Below W.heap.size W w' := by
  have hmk := fun w => make_any (P := Try.prog) w 55 65 _ 3 8 (by kernel_rfl) splace_info n (by omega) (by omega) (by omega)
  have hmm := fun w => run_makeMap (P := Try.prog) 56 w
  go_enter Try.func7, Try.ntmps7
  go_wp2_with fail
  go_ret2
  obtain ⟨m, hm⟩ : ∃ m, n.toNat = m := ⟨_, rfl⟩
  rw [hm]
  have hr := (Rw.blank W m 65)
  have hsz : (W.alloc (.cells (madeCells #[.int .u32 0, .bool false, .bool false] (m * 3)) 65)).heap.size = W.heap.size + 1 := World.size_alloc _ _
  have b1 : Below W.heap.size W (W.alloc (.cells (madeCells #[.int .u32 0, .bool false, .bool false] (m * 3)) 65)) := by go_grown
  generalize W.alloc (.cells (madeCells #[.int .u32 0, .bool false, .bool false] (m * 3)) 65) = V at *
  have ho := (World.ownsMap_made V Try.prog 40 (plainElem (H := Unit) Try.prog 3))
  have b2 : Below V.heap.size V (V.alloc (.map #[] 0)) := by go_grown
  have hr2 := hr.of (b2.block _ hr.lt)
  have hsz2 : (V.alloc (.map #[] 0)).heap.size = V.heap.size + 1 := World.size_alloc _ _
  generalize V.alloc (.map #[] 0) = X at *
  have hx := (MapKept.heap_alloc X (.cells #[.slice (some ⟨W.heap.size, 0, none⟩) m m, .int .i64 0, .map (some (W.heap.size + 1))] 58)).1
  have b3 : Below X.heap.size X (X.alloc (.cells #[.slice (some ⟨W.heap.size, 0, none⟩) m m, .int .i64 0, .map (some (W.heap.size + 1))] 58)) := by go_grown
  have hsz3 : (X.alloc (.cells #[.slice (some ⟨W.heap.size, 0, none⟩) m m, .int .i64 0, .map (some (W.heap.size + 1))] 58)).heap.size = X.heap.size + 1 := World.size_alloc _ _
  have hlo : m < 2000 := by omega
  refine ⟨X.heap.size, X.heap.size + 1, by rw [hsz2, hsz]; rfl, ?_, tr (tr b1 (b2.mono (by omega))) (b3.mono (by omega))⟩
  rw [hsz] at ho
  refine So.sc (q := W.heap.size) (m := W.heap.size + 1) (cap := m) (N := 0) (D := .map []) ⟨?_, hr2.of (b3.block _ hr2.lt), own_keep ho (b3.block _ (by omega)), by omega, by rw [blanks_len]; exact Nat.le_refl _, by unfold maxLen; omega, by omega, by omega, by omega, by omega, by omega, by omega, by rw [blanks_len]; omega, by rw [blanks_len]; omega, by rw [blanks_len]; omega, fun p hp => ?_, by omega⟩ (mp_blanks m)
  · rw [blanks_len]; exact hx
  · rw [List.eq_of_mem_replicate hp]; exact ⟨by decide, by decide⟩
set_option maxRecDepth 100000 in
theorem srnew_any {W : World} {n : Int} (h0 : 1 ≤ n) (h1 : n ≤ 1024) :
    Calls Try.prog 8 #[.int .i64 n] W fun e w' => ∃ q, e = .returned (.tuple #[rv q n.toNat n.toNat 0, .int .i64 0]) ∧ Rw w' q (blanks n.toNat) ∧ W.heap.size ≤ q ∧ Below W.heap.size W w' := by
  have hmk := fun w => make_any (P := Try.prog) w 28 75 _ 3 8 (by kernel_rfl) rplace_info n (by omega) (by omega) (by omega)
  go_enter Try.func8, Try.ntmps8
  go_wp2_with fail
  refine bodyPost_ret (v := .tuple #[.agg #[.slice (some ⟨W.heap.size + 1, 0, none⟩) n.toNat n.toNat, .int .i64 0], .int .i64 0]) (by simp [results, Try.results8, go_sem]) rfl ⟨_, rfl, ?_, by omega, by go_grown⟩
  have := Rw.blank (W.alloc (Obj.cells #[Value.slice (some ⟨W.heap.size + 1, 0, none⟩) n.toNat n.toNat, Value.int IntKind.i64 0] 30)) n.toNat 75
  simpa [World.size_alloc] using this
end Go.Proofs.Yteppcjolgpdenaa.Seq
