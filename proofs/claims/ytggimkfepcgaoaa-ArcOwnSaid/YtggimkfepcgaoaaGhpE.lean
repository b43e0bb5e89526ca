/-
  Ghost lists (layer 28), the reference: Without.
-/
import Derived.Test.YtggimkfepcgaoaaGhoP
import Derived.Deep.RegionHeld3
set_option linter.unusedVariables false
set_option linter.unusedSimpArgs false
section
namespace Go.Proofs.Ytggimkfepcgaoaa.Gho
open Go Go.RowKit Kit Go.Maps Lnk
/-- a list without a key -/
def wout (l : List Nat) (x : Nat) : List Nat := l.filter fun k => k != x
theorem wout_len (l : List Nat) (x : Nat) : (wout l x).length ≤ l.length := List.length_filter_le ..
set_option maxRecDepth 100000 in
set_option maxHeartbeats 2000000 in
theorem rwithout_any {w : World} {p : Option Addr} {n c : Nat} {l : List Nat} (hl : l.length = n) (hn : n ≤ 1000000) (r : Ru w p (ints l)) (x : Nat) :
    Calls Try.prog 142 #[.slice p n c, .int .u32 (x : Int)] w fun e w' => ∃ u, e = .returned u ∧ w'.ownsRow w.heap.size 38 1 u (wout l x).length ((ints (wout l x)).map (Value.int .u32)) ∧ Below w.heap.size w w' := by
  have HL := Lib.hid hl
  have HR := Lib.hid r
  obtain ⟨i0, hi, hz0, hz1, hz2⟩ := u_parts
  obtain ⟨z, hz⟩ : ∃ z : Int, (x : Int) = z := ⟨_, rfl⟩
  have HZ := Lib.hid hz
  rw [hz]
  clear hl r hz
  go_enter Try.func142, Try.ntmps142
  go_wp2_with fail
  go_loopw [5, 6] (fun ov iv wr => ∃ k : Nat, k ≤ n ∧ iv = .int .i64 (k : Int) ∧ Hid (wr.ownsRow w.heap.size 38 1 ov (wout (l.take k) x).length ((ints (wout (l.take k) x)).map (Value.int .u32))) ∧ Hid (Below w.heap.size w wr)) (fun _ iv _ => n - (intOf iv).toNat)
  case atStart => exact ⟨0, by omega, rfl, Lib.hid (World.ownsRow_nil _ _ _ _), Lib.hid (Below.refl _ _)⟩
  case round =>
    obtain ⟨k, hk, rfl, HO, HB⟩ := hrel
    by_cases hlt : k < n
    · obtain ⟨s, hs⟩ : ∃ s, l[k]? = some s := ⟨l[k]'(by rw [HL.out]; omega), List.getElem?_eq_getElem _⟩
      obtain ⟨y, rfl, hyb, e0⟩ := (HR.out.below HB.out) k (s : Int) (gints_at hs)
      have hlt' : (k : Int) < (n : Int) := by omega
      have k0 : (0 : Int) ≤ (k : Int) := by omega
      have wk := IntWalk.i64_in ((k : Int) + 1) (by omega)
      obtain ⟨t, ht⟩ : ∃ t : Int, (s : Int) = t := ⟨_, rfl⟩
      have hts : l.take (k + 1) = l.take k ++ [s] := by rw [List.take_add_one, hs]; rfl
      rw [ht] at e0
      by_cases hx : t = z
      · have hq : wout (l.take (k + 1)) x = wout (l.take k) x := by
          have : s = x := by have := HZ.out; omega
          rw [hts, this]
          unfold wout
          simp
        have HQ := Lib.hid hq
        subst hx
        clear hq hs hts ht hyb
        go_wp2_with fail
        go_roundw
        case rel => exact ⟨k + 1, by omega, by go_num, by rw [HQ.out]; exact HO, HB⟩
        case measure => simp [intOf]; omega
      · have hb : (t == z) = false := by rw [beq_eq_false_iff_ne]; exact hx
        have hb2 : (t != z) = true := by rw [bne_iff_ne]; exact hx
        have hq : wout (l.take (k + 1)) x = wout (l.take k) x ++ [s] := by
          have hsx : s ≠ x := by rintro rfl; have := HZ.out; omega
          rw [hts]
          unfold wout
          rw [List.filter_append]
          simp [hsx]
        have HQ := Lib.hid hq
        have HT := Lib.hid ht
        have hml := wout_len (l.take k) x
        rw [List.length_take] at hml
        obtain ⟨m, hm⟩ : ∃ m, (wout (l.take k) x).length = m := ⟨_, rfl⟩
        rw [hm] at HO hml
        have HM := Lib.hid (show (wout (l.take k) x).length = m ∧ m ≤ 1000000 from ⟨hm, by omega⟩)
        obtain ⟨va, vc, rfl, -, -⟩ := App.own_form HO.out
        have HRW := Lib.hid (HO.out.alloc (.cells #[.int .u32 t] 38))
        have HBA := Lib.hid (HB.out.trans ((box_below wr #[.int .u32 t] 38).mono HB.out.size))
        have HSZ := Lib.hid HB.out.size
        clear hq hs hts ht hyb hm hml hx
        go_wp2_with (at_builtin; refine wpList_append_own_at _ rfl (.tmp 19) (.tmp 24) 39 rfl w.heap.size 38 i0 (.int .u32 0) 1 4 Try.underlying39 hi hz0 hz1 hz2 rfl (by decide) (.slice va m vc) m ((ints (wout (l.take k) x)).map (Value.int .u32)) rfl HRW.out ⟨wr.heap.size, 0, none⟩ 1 1 [.int .u32 t] rfl rfl (cell_one_new _ _ _) (by simp [Value.oneCell']) (by have := HM.out; unfold maxLen; omega) (by have := HM.out; omega) (by have := HSZ.out; simp; omega) ?_; intro v' w3 ho3 hg3 hn3 hb3; have HG := Lib.hid (show w3.ownsRow w.heap.size 38 1 v' (m + 1) _ ∧ Below w.heap.size w w3 from ⟨ho3, HBA.out.grown hg3 HBA.out.size fun k hk => (HRW.out.lt k hk).1⟩); clear ho3 hg3 hn3 hb3)
        go_roundw
        case rel =>
          refine ⟨k + 1, by omega, by go_num, ?_, Lib.hid HG.out.2⟩
          have h1 := HG.out.1
          rw [HQ.out, List.length_append, HM.out.1]
          have e : (ints (wout (l.take k) x ++ [s])).map (Value.int .u32) = (ints (wout (l.take k) x)).map (Value.int .u32) ++ [.int .u32 t] := by rw [← HT.out]; unfold ints; simp
          rw [e]
          exact Lib.hid h1
        case measure => simp [intOf]; omega
    · have hlt' : ¬ (k : Int) < (n : Int) := by omega
      obtain rfl : k = n := by omega
      rw [List.take_of_length_le (Nat.le_of_eq HL.out)] at HO
      go_wp2_with fail
      exact bodyPost_ret (by simp [results, Try.results142, go_sem]) rfl ⟨_, rfl, HO.out, HB.out⟩
end Go.Proofs.Ytggimkfepcgaoaa.Gho
end
section
namespace Go.Proofs.Ytggimkfepcgaoaa.Gho
open Go Go.RowKit Kit Go.Maps Lnk
set_option maxRecDepth 100000 in
theorem rsame_any {w : World} {p1 p2 : Option Addr} {n1 n2 c1 c2 : Nat} {l1 l2 : List Int} (h1 : l1.length = n1) (h2 : l2.length = n2) (r1 : Ru w p1 l1) (r2 : Ru w p2 l2) (hn1 : n1 ≤ 1000000) (hn2 : n2 ≤ 1000000) :
    Calls Try.prog 107 #[.slice p1 n1 c1, .slice p2 n2 c2] w fun e w' => Says e (l1 = l2) ∧ Below w.heap.size w w' := by
  by_cases hn : n1 = n2
  · subst hn
    have H1 := Lib.hid h1
    have H2 := Lib.hid h2
    have R1 := Lib.hid (fun w' (hb : Below w.heap.size w w') => r1.below hb)
    have R2 := Lib.hid (fun w' (hb : Below w.heap.size w w') => r2.below hb)
    clear r1 r2 h1 h2 hn2
    go_enter Try.func107, Try.ntmps107
    go_wp2_with fail
    go_loopw [5] (fun i wr => ∃ j : Nat, j ≤ n1 ∧ i = .int .i64 j ∧ l1.take j = l2.take j ∧ Below w.heap.size w wr) (fun i _ => n1 - (intOf i).toNat)
    case atStart => exact ⟨0, by omega, rfl, by simp, Below.refl _ _⟩
    case round =>
      obtain ⟨j, hj, rfl, hT, bW⟩ := hrel
      have BW := Lib.hid bW
      have HT := Lib.hid hT
      clear bW hT
      by_cases hlt : j < n1
      · obtain ⟨z1, hz1⟩ : ∃ p, l1[j]? = some p := ⟨l1[j]'(by rw [H1.out]; omega), List.getElem?_eq_getElem _⟩
        obtain ⟨z2, hz2⟩ : ∃ p, l2[j]? = some p := ⟨l2[j]'(by rw [H2.out]; omega), List.getElem?_eq_getElem _⟩
        obtain ⟨y1, rfl, _, x1⟩ := R1.out _ BW.out j z1 hz1
        obtain ⟨y2, rfl, _, x2⟩ := R2.out _ BW.out j z2 hz2
        have hlt' : (j : Int) < (n1 : Int) := by omega
        have j0 : (0 : Int) ≤ (j : Int) := by omega
        have HS := Lib.hid (fun w' (hb : Below w.heap.size w w') => (show w'.cell? (y1.add j) = some (.int .u32 z1) ∧ w'.cell? (y2.add j) = some (.int .u32 z2) ∧ Below w.heap.size w w' from by
          obtain ⟨y, hy, _, e1⟩ := R1.out _ hb j z1 hz1
          obtain ⟨y', hy', _, e2⟩ := R2.out _ hb j z2 hz2
          cases hy; cases hy'
          exact ⟨e1, e2, hb⟩))
        have Z1 := Lib.hid hz1
        have Z2 := Lib.hid hz2
        clear hz1 hz2
        by_cases hz : z1 = z2
        · subst hz
          go_wp2_with fail
          go_region_held3 (fun w' => w'.cell? (y1.add j) = some (.int .u32 z1) ∧ w'.cell? (y2.add j) = some (.int .u32 z1) ∧ Below w.heap.size w w')
            (first
              | (exact HS.out _ (Below.drew BW.out))
              | assumption
              | fail)
            (first | fail)
          have B2 := Lib.hid (Below.drew BW.out)
          go_wp2_with fail
          go_roundw
          case rel => exact ⟨j + 1, by omega, by go_num, same_to HT.out Z1.out Z2.out, B2.out⟩
          case measure => simp [intOf]; omega
        · have hb : (z1 == z2) = false := by rw [beq_eq_false_iff_ne]; exact hz
          have hb2 : (z1 != z2) = true := by rw [bne_iff_ne]; exact hz
          have HZ := Lib.hid hz
          clear hz
          go_wp2_with fail
          go_region_held3 (fun w' => w'.cell? (y1.add j) = some (.int .u32 z1) ∧ w'.cell? (y2.add j) = some (.int .u32 z2) ∧ Below w.heap.size w w')
            (first
              | (exact HS.out _ (Below.drew BW.out))
              | assumption
              | fail)
            (first | fail)
          have B2 := Lib.hid (Below.drew BW.out)
          go_wp2_with fail
          exact bodyPost_ret (v := .bool false) (by simp [results, Try.results107, go_sem]) rfl ⟨Says.no rfl (other_at Z1.out Z2.out HZ.out), B2.out⟩
      · obtain rfl : j = n1 := by omega
        go_wp2_with fail
        exact bodyPost_ret (v := .bool true) (by simp [results, Try.results107, go_sem]) rfl ⟨Says.yes rfl (same_all HT.out H1.out H2.out), BW.out⟩
  · have hb : ((n1 : Int) == (n2 : Int)) = false := by rw [beq_eq_false_iff_ne]; omega
    have hb2 : ((n1 : Int) != (n2 : Int)) = true := by rw [bne_iff_ne]; omega
    have HX := Lib.hid (show ¬ l1 = l2 from fun he => by rw [he] at h1; omega)
    clear r1 r2 h1 h2
    go_enter Try.func107, Try.ntmps107
    go_wp2_with fail
    exact bodyPost_ret (v := .bool false) (by simp [results, Try.results107, go_sem]) rfl ⟨Says.no rfl HX.out, Below.refl _ _⟩
end Go.Proofs.Ytggimkfepcgaoaa.Gho
end
section
namespace Go.Proofs.Ytggimkfepcgaoaa.Gho
open Go Go.RowKit Kit Go.Maps Lnk
set_option maxRecDepth 100000 in
set_option maxHeartbeats 2000000 in
theorem rremove_any {w : World} {p : Option Addr} {n c : Nat} {l : List Nat} (most : Int) (hl : l.length = n) (hn : n ≤ 1000000) (r : Ru w p (ints l)) (x : Nat) :
    Calls Try.prog 110 #[rg most p n c, .int .u32 (x : Int)] w fun e w' => ∃ q k, e = .returned (.tuple #[rg most q (wout l x).length k, .bool (decide (x ∈ l))]) ∧ w'.ownsRow w.heap.size 38 1 (.slice q (wout l x).length k) (wout l x).length ((ints (wout l x)).map (Value.int .u32)) ∧ Below w.heap.size w w' := by
  have HL := Lib.hid (And.intro hl hn)
  have HR := Lib.hid r
  obtain ⟨t, ht⟩ : ∃ t, decide (x ∈ l) = t := ⟨_, rfl⟩
  have HH := Lib.hid (fun (v : World) (hb : Below w.heap.size w v) => (ht ▸ rhas_any (c := c) most hl hn (r.below hb) x : Calls Try.prog 143 #[rg most p n c, .int .u32 (x : Int)] v fun e w' => e = .returned (.bool t) ∧ Below v.heap.size v w'))
  have HW := Lib.hid (fun (v : World) (hb : Below w.heap.size w v) => rwithout_any (c := c) hl hn (r.below hb) x)
  rw [ht]
  clear hl hn r ht
  go_enter Try.func110, Try.ntmps110
  go_wp2_with fail
  have b0 : Below w.heap.size w ((w.alloc (.cells #[.int .i64 most, .slice p n c] 69)).alloc (.cells #[.int .i64 0, .slice none 0 0] 69)) := by go_grown
  have x0 : ((w.alloc (.cells #[.int .i64 most, .slice p n c] 69)).alloc (.cells #[.int .i64 0, .slice none 0 0] 69)).heap[w.heap.size]? = some (.cells #[.int .i64 most, .slice p n c] 69 (0, 0)) := ((show Below ((w.alloc (.cells #[.int .i64 most, .slice p n c] 69))).heap.size (w.alloc (.cells #[.int .i64 most, .slice p n c] 69)) ((w.alloc (.cells #[.int .i64 most, .slice p n c] 69)).alloc (.cells #[.int .i64 0, .slice none 0 0] 69)) by go_grown).block w.heap.size (by simp)).trans (MapKept.heap_alloc w _).1
  have x1 : ((w.alloc (.cells #[.int .i64 most, .slice p n c] 69)).alloc (.cells #[.int .i64 0, .slice none 0 0] 69)).heap[w.heap.size + 1]? = some (.cells #[.int .i64 0, .slice none 0 0] 69 (0, 0)) := by have h := (MapKept.heap_alloc (w.alloc (.cells #[.int .i64 most, .slice p n c] 69)) (.cells #[.int .i64 0, .slice none 0 0] 69)).1; rwa [World.size_alloc] at h
  have hs0 : ((w.alloc (.cells #[.int .i64 most, .slice p n c] 69)).alloc (.cells #[.int .i64 0, .slice none 0 0] 69)).heap.size = w.heap.size + 2 := by simp
  generalize ((w.alloc (.cells #[.int .i64 most, .slice p n c] 69)).alloc (.cells #[.int .i64 0, .slice none 0 0] 69)) = w2 at *
  have B2 := Lib.hid b0
  refine (HH.out _ B2.out).mono ?_
  rintro e w3 ⟨rfl, b3⟩
  have hs3 := b3.size
  have X3 := Lib.hid (show w3.heap[w.heap.size]? = some (.cells #[.int .i64 most, .slice p n c] 69 (0, 0)) ∧ w3.heap[w.heap.size + 1]? = some (.cells #[.int .i64 0, .slice none 0 0] 69 (0, 0)) ∧ Below w.heap.size w w3 ∧ w.heap.size + 2 ≤ w3.heap.size from ⟨(b3.block _ (by omega)).trans x0, (b3.block _ (by omega)).trans x1, b0.trans (b3.mono (by omega)), by omega⟩)
  clear b0 x0 x1 hs0 b3 hs3
  have d0 : w3.cell? ⟨w.heap.size, 0, none⟩ = some (.int .i64 most) ∧ w3.cell? ⟨w.heap.size, 1, none⟩ = some (.slice p n c) := by have := X3.out.1; constructor <;> simp [World.cell?, this]
  obtain ⟨d0, d1⟩ := d0
  go_wp2_with fail
  refine (HW.out _ X3.out.2.2.1).mono ?_
  rintro e w4 ⟨u, rfl, hrow, b4⟩
  obtain ⟨q, kc, rfl, -, -⟩ := App.own_form hrow
  have hs4 := b4.size
  have X4 := Lib.hid (show w4.heap[w.heap.size]? = some (.cells #[.int .i64 most, .slice p n c] 69 (0, 0)) ∧ w4.heap[w.heap.size + 1]? = some (.cells #[.int .i64 0, .slice none 0 0] 69 (0, 0)) ∧ Below w.heap.size w w4 ∧ w.heap.size + 2 ≤ w4.heap.size from ⟨(b4.block _ (by have := X3.out.2.2.2; omega)).trans X3.out.1, (b4.block _ (by have := X3.out.2.2.2; omega)).trans X3.out.2.1, X3.out.2.2.1.trans (b4.mono (by have := X3.out.2.2.2; omega)), by have := X3.out.2.2.2; omega⟩)
  have HROW := Lib.hid hrow
  obtain ⟨f0, f1, f2, f3⟩ : w4.cell? ⟨w.heap.size, 0, none⟩ = some (.int .i64 most) ∧ w4.cell? ⟨w.heap.size, 1, none⟩ = some (.slice p n c) ∧ w4.cell? ⟨w.heap.size + 1, 0, none⟩ = some (.int .i64 0) ∧ w4.cell? ⟨w.heap.size + 1, 1, none⟩ = some (.slice none 0 0) := by have h1 := X4.out.1; have h2 := X4.out.2.1; refine ⟨?_, ?_, ?_, ?_⟩ <;> simp [World.cell?, h1, h2]
  obtain ⟨g0, g1⟩ : (∀ j, w4.frozen? ⟨w.heap.size, j, none⟩ = false) ∧ (∀ j, w4.frozen? ⟨w.heap.size + 1, j, none⟩ = false) := by have h1 := X4.out.1; have h2 := X4.out.2.1; refine ⟨fun j => ?_, fun j => ?_⟩ <;> simp [World.frozen?, h1, h2]
  clear hrow b4 hs4 d0 d1
  go_wp2_with fail
  have hsz := X4.out.2.2.2
  have hx3 := X3.out.2.2.2
  have hbl := ((X4.out.2.2.1.setCell (p := ⟨w.heap.size, 1, none⟩) (Nat.le_refl _) (.slice q (wout l x).length kc)).setCell (p := ⟨w.heap.size + 1, 0, none⟩) (by show w.heap.size ≤ w.heap.size + 1; omega) (.int .i64 most)).setCell (p := ⟨w.heap.size + 1, 1, none⟩) (by show w.heap.size ≤ w.heap.size + 1; omega) (.slice q (wout l x).length kc)
  have hfin := heap_set (j := 1) (heap_set (j := 0) ((Below.heap_setCell w4 ⟨w.heap.size, 1, none⟩ (.slice q (wout l x).length kc) (w.heap.size + 1) (by show w.heap.size + 1 ≠ w.heap.size; omega)).trans X4.out.2.1) (.int .i64 most)) (.slice q (wout l x).length kc)
  have hrw : (((w4.setCell ⟨w.heap.size, 1, none⟩ (.slice q (wout l x).length kc)).setCell ⟨w.heap.size + 1, 0, none⟩ (.int .i64 most)).setCell ⟨w.heap.size + 1, 1, none⟩ (.slice q (wout l x).length kc)).ownsRow w.heap.size 38 1 (.slice q (wout l x).length kc) (wout l x).length ((ints (wout l x)).map (Value.int .u32)) := by
    refine App.own_lift (row_kp HROW.out fun g hg => ?_) (by omega)
    have h1 := (HROW.out.lt g hg).1
    have n1 : g ≠ w.heap.size + 1 := by omega
    have n2 : g ≠ w.heap.size := by omega
    rw [Below.heap_setCell _ ⟨w.heap.size + 1, 1, none⟩ _ g n1, Below.heap_setCell _ ⟨w.heap.size + 1, 0, none⟩ _ g n1, Below.heap_setCell _ ⟨w.heap.size, 1, none⟩ _ g n2]
  generalize ((w4.setCell ⟨w.heap.size, 1, none⟩ (.slice q (wout l x).length kc)).setCell ⟨w.heap.size + 1, 0, none⟩ (.int .i64 most)).setCell ⟨w.heap.size + 1, 1, none⟩ (.slice q (wout l x).length kc) = w5 at *
  obtain ⟨z0, z1⟩ : w5.cell? ⟨w.heap.size + 1, 0, none⟩ = some (.int .i64 most) ∧ w5.cell? ⟨w.heap.size + 1, 1, none⟩ = some (.slice q (wout l x).length kc) := by constructor <;> simp [World.cell?, hfin]
  exact bodyPost_ret (v := .tuple #[rg most q (wout l x).length kc, .bool t]) (by simp [results, Try.results110, go_sem, z0, z1]) rfl ⟨q, kc, rfl, hrw, hbl⟩
end Go.Proofs.Ytggimkfepcgaoaa.Gho
end
section
namespace Go.Proofs.Ytggimkfepcgaoaa.Gho
open Go Go.RowKit Kit Go.Maps Lnk
theorem ru_app {w : World} {p : Option Addr} {l : List Int} (h : Ru w p l) : App.Rg w p (l.map (Value.int .u32)) := fun i v hv => by
  rw [List.getElem?_map] at hv
  cases hx : l[i]? with
  | none => rw [hx] at hv; cases hv
  | some x =>
    rw [hx] at hv
    cases hv
    exact h i x hx
theorem u32_cell1 (l : List Int) : ∀ u ∈ l.map (Value.int .u32), u.oneCell' = true := by
  intro u hu
  obtain ⟨x, -, rfl⟩ := List.mem_map.1 hu
  rfl
/-- the two boxes of a method of the reference -/
theorem two_boxes {w : World} {most : Int} {v : Value} : ((w.alloc (.cells #[.int .i64 most, v] 69)).alloc (.cells #[.int .i64 0, .slice none 0 0] 69)).heap[w.heap.size]? = some (.cells #[.int .i64 most, v] 69 (0, 0)) ∧ ((w.alloc (.cells #[.int .i64 most, v] 69)).alloc (.cells #[.int .i64 0, .slice none 0 0] 69)).heap[w.heap.size + 1]? = some (.cells #[.int .i64 0, .slice none 0 0] 69 (0, 0)) := by
  constructor
  · exact ((show Below (w.alloc (.cells #[.int .i64 most, v] 69)).heap.size (w.alloc (.cells #[.int .i64 most, v] 69)) ((w.alloc (.cells #[.int .i64 most, v] 69)).alloc (.cells #[.int .i64 0, .slice none 0 0] 69)) by go_grown).block w.heap.size (by simp)).trans (MapKept.heap_alloc w _).1
  · have h := (MapKept.heap_alloc (w.alloc (.cells #[.int .i64 most, v] 69)) (.cells #[.int .i64 0, .slice none 0 0] 69)).1
    rwa [World.size_alloc] at h
set_option maxRecDepth 100000 in
set_option maxHeartbeats 2000000 in
theorem rpop_some {w : World} {p : Option Addr} {m c : Nat} {T : List Nat} {x : Nat} (most : Int) (hl : T.length = m) (hn : m + 1 ≤ 1000000) (hc : m + 1 ≤ c) (r : Ru w p (ints (T ++ [x]))) :
    Calls Try.prog 111 #[rg most p (m + 1) c] w fun e w' => ∃ q k, e = .returned (.tuple #[rg most q m k, .int .u32 (x : Int), .int .i64 0]) ∧ w'.ownsRow w.heap.size 38 1 (.slice q m k) m ((ints T).map (Value.int .u32)) ∧ Below w.heap.size w w' := by
  obtain ⟨i0, hi0, hz0, hz1, hz2⟩ := u_parts
  obtain ⟨n, hnm⟩ : ∃ n, m + 1 = n := ⟨_, rfl⟩
  obtain ⟨y, rfl, -, -⟩ := r 0 _ (by rw [List.getElem?_eq_getElem (by unfold ints; simp)])
  have HN := Lib.hid (show m + 1 = n ∧ n ≤ 1000000 ∧ T.length = m from ⟨hnm, by omega, hl⟩)
  have HR := Lib.hid (fun (v : World) (hb : Below w.heap.size w v) => r.below hb)
  rw [hnm]
  have wsub : IntKind.i64.wrap ((n : Int) - 1) = (m : Int) := by rw [IntWalk.i64_in _ (by omega)]; omega
  have i1 : (m : Int) < (n : Int) := by omega
  have i2 : (m : Int) ≤ (n : Int) := by omega
  have i3 : (n : Int) ≤ (c : Int) := by omega
  have i4 : (m : Int) ≤ (c : Int) := by omega
  have i5 : (0 : Int) ≤ (m : Int) := by omega
  have n0 : ((n : Int) == 0) = false := by rw [beq_eq_false_iff_ne]; omega
  have n1 : ¬ n = 0 := by omega
  have b0 : Below w.heap.size w ((w.alloc (.cells #[.int .i64 most, .slice (some y) n c] 69)).alloc (.cells #[.int .i64 0, .slice none 0 0] 69)) := by go_grown
  have e0 := (HR.out _ b0 m (x : Int) (by unfold ints; rw [List.getElem?_map, List.getElem?_append_right (by omega), hl, Nat.sub_self]; rfl))
  obtain ⟨y', hy', -, e0⟩ := e0
  cases hy'
  have RT := Lib.hid (ru_app (show Ru ((w.alloc (.cells #[.int .i64 most, .slice (some y) n c] 69)).alloc (.cells #[.int .i64 0, .slice none 0 0] 69)) (some y) (ints T) by
    have h := (HR.out _ b0).take m
    have e : (ints (T ++ [x])).take m = ints T := by unfold ints; rw [List.map_append, List.take_left' (by rw [List.length_map, hl])]
    rwa [e] at h))
  have HLT := Lib.hid (show ((ints T).map (Value.int .u32)).length = m by rw [List.length_map, ints_len, hl])
  have HTB := Lib.hid (And.intro b0 (two_boxes (w := w) (most := most) (v := .slice (some y) n c)))
  clear hl hn hc r hnm b0
  go_enter Try.func111, Try.ntmps111
  go_wp2_with (first
    | (at_builtin; refine App.wpList_appG rfl (.const (.slice none 0 0)) (.tmp 25) 39 rfl (w.heap.size + 2) 38 i0 (.int .u32 0) 4 Try.underlying39 hi0 hz0 hz1 hz2 rfl _ 0 [] rfl (World.ownsRow_nil _ _ _ _) (some y) m c _ rfl HLT.out RT.out (u32_cell1 _) (by have := HN.out; omega) (by omega) (by simp) ?_; intro v1 w4 o1 b1 s1; rw [Nat.zero_add, List.nil_append] at o1; obtain ⟨q, kc, rfl, -, -⟩ := App.own_form o1; have X4 := Lib.hid (show w4.heap[w.heap.size]? = some (.cells #[.int .i64 most, .slice (some y) n c] 69 (0, 0)) ∧ w4.heap[w.heap.size + 1]? = some (.cells #[.int .i64 0, .slice none 0 0] 69 (0, 0)) ∧ Below w.heap.size w w4 from ⟨(b1.block _ (by omega)).trans HTB.out.2.1, (b1.block _ (by omega)).trans HTB.out.2.2, HTB.out.1.trans (b1.mono (by omega))⟩); have HROW := Lib.hid o1; (obtain ⟨f0, f1, f2, f3⟩ : w4.cell? ⟨w.heap.size, 0, none⟩ = some (.int .i64 most) ∧ w4.cell? ⟨w.heap.size, 1, none⟩ = some (.slice (some y) n c) ∧ w4.cell? ⟨w.heap.size + 1, 0, none⟩ = some (.int .i64 0) ∧ w4.cell? ⟨w.heap.size + 1, 1, none⟩ = some (.slice none 0 0) := by have h1 := X4.out.1; have h2 := X4.out.2.1; refine ⟨?_, ?_, ?_, ?_⟩ <;> simp [World.cell?, h1, h2]); (obtain ⟨g0, g1⟩ : (∀ j, w4.frozen? ⟨w.heap.size, j, none⟩ = false) ∧ (∀ j, w4.frozen? ⟨w.heap.size + 1, j, none⟩ = false) := by have h1 := X4.out.1; have h2 := X4.out.2.1; refine ⟨fun j => ?_, fun j => ?_⟩ <;> simp [World.frozen?, h1, h2]); clear o1 b1 s1)
    | fail)
  have hbl := ((X4.out.2.2.setCell (p := ⟨w.heap.size, 1, none⟩) (Nat.le_refl _) (.slice q m kc)).setCell (p := ⟨w.heap.size + 1, 0, none⟩) (by show w.heap.size ≤ w.heap.size + 1; omega) (.int .i64 most)).setCell (p := ⟨w.heap.size + 1, 1, none⟩) (by show w.heap.size ≤ w.heap.size + 1; omega) (.slice q m kc)
  have hfin := heap_set (j := 1) (heap_set (j := 0) ((Below.heap_setCell w4 ⟨w.heap.size, 1, none⟩ (.slice q m kc) (w.heap.size + 1) (by show w.heap.size + 1 ≠ w.heap.size; omega)).trans X4.out.2.1) (.int .i64 most)) (.slice q m kc)
  have hrw : (((w4.setCell ⟨w.heap.size, 1, none⟩ (.slice q m kc)).setCell ⟨w.heap.size + 1, 0, none⟩ (.int .i64 most)).setCell ⟨w.heap.size + 1, 1, none⟩ (.slice q m kc)).ownsRow w.heap.size 38 1 (.slice q m kc) m ((ints T).map (Value.int .u32)) := by
    refine App.own_lift (row_kp HROW.out fun g hg => ?_) (by omega)
    have h1 := (HROW.out.lt g hg).1
    have n1 : g ≠ w.heap.size + 1 := by omega
    have n2 : g ≠ w.heap.size := by omega
    rw [Below.heap_setCell _ ⟨w.heap.size + 1, 1, none⟩ _ g n1, Below.heap_setCell _ ⟨w.heap.size + 1, 0, none⟩ _ g n1, Below.heap_setCell _ ⟨w.heap.size, 1, none⟩ _ g n2]
  generalize ((w4.setCell ⟨w.heap.size, 1, none⟩ (.slice q m kc)).setCell ⟨w.heap.size + 1, 0, none⟩ (.int .i64 most)).setCell ⟨w.heap.size + 1, 1, none⟩ (.slice q m kc) = w5 at *
  obtain ⟨z0, z1⟩ : w5.cell? ⟨w.heap.size + 1, 0, none⟩ = some (.int .i64 most) ∧ w5.cell? ⟨w.heap.size + 1, 1, none⟩ = some (.slice q m kc) := by constructor <;> simp [World.cell?, hfin]
  exact bodyPost_ret (v := .tuple #[rg most q m kc, .int .u32 (x : Int), .int .i64 0]) (by simp [results, Try.results111, go_sem, z0, z1]) rfl ⟨q, kc, rfl, hrw, hbl⟩
end Go.Proofs.Ytggimkfepcgaoaa.Gho
end
