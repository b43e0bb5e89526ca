/-
  Counts of package load (layer 38): both ways to count.
-/
import Derived.Test.YtjkjcmhlbimeaaaDoorLdcA
set_option linter.unusedVariables false
set_option linter.unusedSimpArgs false
namespace Go.Proofs.YtjkjcmhlbimeaaaDoor.Ldc
open Go Go.RowKit Kit
theorem info_int : (Tryd.prog.info? 3).map (fun i => (i.zero, i.size, i.bytes)) = some (some (.int .i64 0), 1, 8) := by kernel_rfl
theorem mk_ints (K : Nat) (h : K ≤ 1000000) (w : World) : (Instr.makeSlice 34 (.int .i64 (K : Int)) (.int .i64 (K : Int))).run Tryd.prog w = .ok (.slice (some ⟨w.heap.size, 0, none⟩) K K) (w.alloc (.cells (madeCells #[.int .i64 0] K) 3)) := by
  obtain ⟨i, hi, hzz⟩ := Option.map_eq_some_iff.1 info_int
  simp only [Prod.mk.injEq] at hzz
  obtain ⟨hz, hs, hb'⟩ := hzz
  have hr := run_make (P := Tryd.prog) w 34 3 i (.int .i64 0) (by kernel_rfl) hi hz .i64 .i64 (K : Int) (K : Int) (by omega) (Int.le_refl _) (by rw [hb']; omega) (by omega)
  rw [hs] at hr
  simpa [Value.cells] using hr
theorem made_row (w : World) (K : Nat) : Row (w.alloc (.cells (madeCells #[.int .i64 0] K) 3)) w.heap.size K 3 (fun _ => .int .i64 0) := Row.made w (.int .i64 0) rfl K _
/-- what counting gives -/
def CtR (e : Ending) (w w' : World) (K : Nat) (l : List Int) : Prop := ((∀ x ∈ l, x < (K : Int)) ∧ ∃ g, e = .returned (.tuple #[.slice (some ⟨g, 0, none⟩) K K, .int .i64 0]) ∧ Row w' g K 3 (fun k => .int .i64 ((ct l l.length k : Nat) : Int))) ∨ ((∃ x ∈ l, ¬ x < (K : Int)) ∧ e = .returned (.tuple #[.slice none 0 0, .int .i64 3]))
set_option maxRecDepth 100000 in
set_option maxHeartbeats 1000000 in
theorem rcounts_any {w : World} {p : Option Addr} {m c K : Nat} {l : List Int} (hr : Ru w p l) (hm : l.length = m) (hm2 : m ≤ 4096) (k1 : 1 ≤ K) (k2 : K ≤ 4096) :
    Calls Tryd.prog 19 #[.slice p m c, .int .i64 (K : Int)] w fun e w' => CtR e w w' K l ∧ Below w.heap.size w w' := by
  have HR := Lib.hid hr
  have HM := Lib.hid hm
  have c1 : ¬ (4096 : Int) < (m : Int) := by omega
  have c2 : ¬ (K : Int) < 1 := by omega
  have c3 : ¬ (4096 : Int) < (K : Int) := by omega
  have wk := IntWalk.u32_in (K : Int) (by omega)
  have wk2 := IntWalk.i64_in (K : Int) (by omega)
  have hmk := mk_ints K (by omega)
  clear hr hm
  go_enter Tryd.func19, Tryd.ntmps19
  go_wp2_with fail
  have R0 := made_row w K
  have B0 := (by go_grown : Below w.heap.size w (w.alloc (.cells (madeCells #[.int .i64 0] K) 3)))
  go_loopw [7] (fun iv wr => ∃ j : Nat, j ≤ m ∧ iv = .int .i64 (j : Int) ∧ Row wr w.heap.size K 3 (fun k => .int .i64 ((ct l j k : Nat) : Int)) ∧ (∀ x ∈ l.take j, x < (K : Int)) ∧ Below w.heap.size w wr) (fun iv _ => m - (intOf iv).toNat)
  case atStart => exact ⟨0, by omega, rfl, by simpa [ct] using R0, by simp, B0⟩
  case round =>
    clear R0 B0 hmk
    obtain ⟨j, hj, rfl, rw0, hall, b0⟩ := hrel
    have RW := Lib.hid rw0
    have BW := Lib.hid b0
    have HALL := Lib.hid hall
    clear hall
    by_cases hjm : j = m
    · subst hjm
      clear b0 rw0
      go_wp2_with fail
      go_ret2
      refine ⟨.inl ⟨?_, _, rfl, ?_⟩, BW.out⟩
      · have := HALL.out
        rwa [List.take_of_length_le (by rw [HM.out]; omega)] at this
      · rw [HM.out]; exact RW.out
    · have hjl : (j : Int) < (m : Int) := by omega
      have j0 : (0 : Int) ≤ (j : Int) := by omega
      have wi := IntWalk.i64_in ((j : Int) + 1) (by omega)
      obtain ⟨x, hx⟩ : ∃ x, l[j]? = some x := ⟨l[j]'(by rw [HM.out]; omega), List.getElem?_eq_getElem _⟩
      obtain ⟨y, rfl, hyb, e0, x0, x1⟩ := (HR.out.below b0) j x hx
      obtain ⟨X, rfl⟩ : ∃ X : Nat, x = (X : Int) := ⟨x.toNat, by omega⟩
      have wx := IntWalk.i64_in (X : Int) (by omega)
      have HX := Lib.hid hx
      clear hx
      by_cases hb : (X : Int) < (K : Int)
      · have k1' := rw0.cell X (by omega)
        have f1 := rw0.fr X
        have wc := IntWalk.i64_in (((ct l j X : Nat) : Int) + 1) (by have := ct_le l j X; omega)
        have RS := Lib.hid ((rw0.set X (.int .i64 (((ct l j X : Nat) : Int) + 1))).congr (g := fun k => .int .i64 ((ct l (j + 1) k : Nat) : Int)) (fun k _ => by
          rw [ct_succ HX.out]
          by_cases hk : k = X
          · subst hk; simp
          · simp [hk]))
        have BS := Lib.hid (BW.out.setCell (p := ⟨w.heap.size, X, none⟩) (Nat.le_refl _) (.int .i64 (((ct l j X : Nat) : Int) + 1)))
        have HB := Lib.hid hb
        clear rw0 b0 hyb x0 x1
        generalize ct l j X = cx at *
        go_wp2_with fail
        go_roundw
        case rel => exact ⟨j + 1, by omega, by go_num, RS.out, fun z hz => by
          rw [List.take_add_one, HX.out] at hz
          rcases List.mem_append.1 hz with hz | hz
          · exact HALL.out z hz
          · simp at hz; subst hz; exact HB.out, BS.out⟩
        case measure => simp [intOf]; omega
      · have HB := Lib.hid hb
        clear rw0 b0 hyb x0 x1 wi
        go_wp2_with fail
        go_ret2
        exact ⟨.inr ⟨⟨_, List.mem_of_getElem? HX.out, Int.not_lt.2 HB.out⟩, rfl⟩, BW.out⟩
set_option maxRecDepth 100000 in
set_option maxHeartbeats 1000000 in
theorem counts_any {w : World} {p : Option Addr} {m c K : Nat} {l : List Int} (hr : Ru w p l) (hm : l.length = m) (hm2 : m ≤ 4096) (k1 : 1 ≤ K) (k2 : K ≤ 4096) :
    Calls Tryd.prog 18 #[.slice p m c, .int .i64 (K : Int)] w fun e w' => CtR e w w' K l ∧ Below w.heap.size w w' := by
  have HR := Lib.hid hr
  have HM := Lib.hid hm
  have c1 : ¬ (4096 : Int) < (m : Int) := by omega
  have c2 : (1 : Int) ≤ (K : Int) := by omega
  have c3 : (K : Int) ≤ 4096 := by omega
  have wk2 := IntWalk.i64_in (K : Int) (by omega)
  have HW := Lib.hid (fun v => within_any (K : Int) 1 4096 v)
  rw [decide_eq_true (show (1 : Int) ≤ (K : Int) ∧ (K : Int) ≤ 4096 from ⟨c2, c3⟩)] at HW
  have hmk := mk_ints K (by omega)
  clear hr hm
  go_enter Tryd.func18, Tryd.ntmps18
  go_wp2_with fail
  refine (HW.out _).mono ?_
  rintro e w1 ⟨rfl, rfl⟩
  go_wp2_with fail
  have R0 := made_row w K
  have B0 := (by go_grown : Below w.heap.size w (w.alloc (.cells (madeCells #[.int .i64 0] K) 3)))
  go_loopw [19] (fun iv wr => ∃ j : Nat, j ≤ m ∧ iv = .int .i64 (j : Int) ∧ Row wr w.heap.size K 3 (fun k => .int .i64 ((ct l j k : Nat) : Int)) ∧ (∀ x ∈ l.take j, x < (K : Int)) ∧ Below w.heap.size w wr) (fun iv _ => m - (intOf iv).toNat)
  case atStart => exact ⟨0, by omega, rfl, by simpa [ct] using R0, by simp, B0⟩
  case round =>
    clear R0 B0 hmk
    obtain ⟨j, hj, rfl, rw0, hall, b0⟩ := hrel
    have RW := Lib.hid rw0
    have BW := Lib.hid b0
    have HALL := Lib.hid hall
    clear hall
    by_cases hjm : j = m
    · subst hjm
      clear b0 rw0
      go_wp2_with fail
      go_ret2
      refine ⟨.inl ⟨?_, _, rfl, ?_⟩, BW.out⟩
      · have := HALL.out
        rwa [List.take_of_length_le (by rw [HM.out]; omega)] at this
      · rw [HM.out]; exact RW.out
    · have hjl : (j : Int) < (m : Int) := by omega
      have j0 : (0 : Int) ≤ (j : Int) := by omega
      have wi := IntWalk.i64_in ((j : Int) + 1) (by omega)
      obtain ⟨x, hx⟩ : ∃ x, l[j]? = some x := ⟨l[j]'(by rw [HM.out]; omega), List.getElem?_eq_getElem _⟩
      obtain ⟨y, rfl, hyb, e0, x0, x1⟩ := (HR.out.below b0) j x hx
      obtain ⟨X, rfl⟩ : ∃ X : Nat, x = (X : Int) := ⟨x.toNat, by omega⟩
      have wx := IntWalk.i64_in (X : Int) (by omega)
      have HX := Lib.hid hx
      clear hx
      by_cases hb : (X : Int) < (K : Int)
      · have k1' := rw0.cell X (by omega)
        have f1 := rw0.fr X
        have wc := IntWalk.i64_in (((ct l j X : Nat) : Int) + 1) (by have := ct_le l j X; omega)
        have RS := Lib.hid ((rw0.set X (.int .i64 (((ct l j X : Nat) : Int) + 1))).congr (g := fun k => .int .i64 ((ct l (j + 1) k : Nat) : Int)) (fun k _ => by
          rw [ct_succ HX.out]
          by_cases hk : k = X
          · subst hk; simp
          · simp [hk]))
        have BS := Lib.hid (BW.out.setCell (p := ⟨w.heap.size, X, none⟩) (Nat.le_refl _) (.int .i64 (((ct l j X : Nat) : Int) + 1)))
        have HB := Lib.hid hb
        clear rw0 b0 hyb x0 x1
        generalize ct l j X = cx at *
        go_wp2_with fail
        go_roundw
        case rel => exact ⟨j + 1, by omega, by go_num, RS.out, fun z hz => by
          rw [List.take_add_one, HX.out] at hz
          rcases List.mem_append.1 hz with hz | hz
          · exact HALL.out z hz
          · simp at hz; subst hz; exact HB.out, BS.out⟩
        case measure => simp [intOf]; omega
      · have HB := Lib.hid hb
        clear rw0 b0 hyb x0 x1 wi
        go_wp2_with fail
        go_ret2
        exact ⟨.inr ⟨⟨_, List.mem_of_getElem? HX.out, Int.not_lt.2 HB.out⟩, rfl⟩, BW.out⟩
end Go.Proofs.YtjkjcmhlbimeaaaDoor.Ldc
