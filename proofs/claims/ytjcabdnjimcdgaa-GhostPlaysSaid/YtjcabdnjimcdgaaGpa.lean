/-
  Texts in one: GhpA, GhpB, GhpC, GhpD, GhpE, GhpF, GhpG, GhpH, GhpI, GhpJ.
-/
import Derived.Test.YtjcabdnjimcdgaaGhoL
import Derived.Test.YtjcabdnjimcdgaaGhoP
import Derived.Deep.RegionHeld3
import Derived.Test.YtjcabdnjimcdgaaGhoM
import Derived.Deep.Cut
import Derived.Deep.CutBlock
import Derived.Deep.DeepCutAuto
import Derived.Deep.LoopGhost
set_option linter.unusedVariables false
set_option linter.unusedSimpArgs false
namespace Go.Proofs.Ytjcabdnjimcdgaa.Gho
open Go Go.RowKit Kit Go.Maps Lnk
theorem gints_at {l : List Nat} {k s : Nat} (h : l[k]? = some s) : (ints l)[k]? = some (s : Int) := by unfold ints; rw [List.getElem?_map, h]; rfl
/-- the reference's list as a value -/
abbrev rg (most : Int) (p : Option Addr) (n c : Nat) : Value := .agg #[.int .i64 most, .slice p n c]
set_option maxRecDepth 100000 in
theorem rhas_any {w : World} {p : Option Addr} {n c : Nat} {l : List Nat} (most : Int) (hl : l.length = n) (hn : n ≤ 1000000) (r : Ru w p (ints l)) (x : Nat) :
    Calls Try.prog 167 #[rg most p n c, .int .u32 (x : Int)] w fun e w' => e = .returned (.bool (decide (x ∈ l))) ∧ Below w.heap.size w w' := by
  have HL := Lib.hid hl
  have BW := Lib.hid (show Below w.heap.size w (w.alloc (.cells #[.int .i64 most, .slice p n c] 106)) by go_grown)
  have HR := Lib.hid (r.below BW.out)
  have HX := Lib.hid (show (w.alloc (.cells #[.int .i64 most, .slice p n c] 106)).heap[w.heap.size]? = some (.cells #[.int .i64 most, .slice p n c] 106 (0, 0)) from (MapKept.heap_alloc w _).1)
  obtain ⟨z, hz⟩ : ∃ z : Int, (x : Int) = z := ⟨_, rfl⟩
  have HZ := Lib.hid hz
  rw [hz]
  clear hl r hz
  go_enter Try.func167, Try.ntmps167
  go_wp2_with fail
  generalize w.alloc (.cells #[.int .i64 most, .slice p n c] 106) = w1 at *
  have hx1 : w1.cell? ⟨w.heap.size, 1, none⟩ = some (.slice p n c) := by have := HX.out; simp [World.cell?, this]
  clear HX
  go_loopw [5] (fun i wr => ∃ k : Nat, k ≤ n ∧ i = .int .i64 (k : Int) ∧ x ∉ l.take k ∧ w1 = wr) (fun i _ => n - (intOf i).toNat)
  case atStart => exact ⟨0, by omega, rfl, by simp, rfl⟩
  case round =>
    obtain ⟨k, hk, rfl, hT, rfl⟩ := hrel
    have HT := Lib.hid hT
    clear hT
    by_cases hlt : k < n
    · obtain ⟨s, hs⟩ : ∃ s, l[k]? = some s := ⟨l[k]'(by rw [HL.out]; omega), List.getElem?_eq_getElem _⟩
      obtain ⟨y, rfl, hyb, e0⟩ := HR.out k (s : Int) (gints_at hs)
      have hlt' : (k : Int) < (n : Int) := by omega
      have k0 : (0 : Int) ≤ (k : Int) := by omega
      have wk := IntWalk.i64_in ((k : Int) + 1) (by omega)
      have HS := Lib.hid hs
      clear hs hyb
      obtain ⟨t, ht⟩ : ∃ t : Int, (s : Int) = t := ⟨_, rfl⟩
      have HTT := Lib.hid ht
      rw [ht] at e0
      clear ht
      by_cases hx : t = z
      · have hq : s = x := by have := HTT.out; have := HZ.out; omega
        have HQ := Lib.hid (show decide (x ∈ l) = true from decide_eq_true (hq ▸ List.mem_of_getElem? HS.out))
        subst hx
        clear hq
        go_wp2_with fail
        exact bodyPost_ret (v := .bool true) (by simp [results, Try.results167, go_sem]) rfl ⟨by rw [HQ.out], BW.out⟩
      · have hb : (t == z) = false := by rw [beq_eq_false_iff_ne]; exact hx
        have hq : x ∉ l.take (k + 1) := by
          rw [List.take_add_one, HS.out]
          intro h
          rcases List.mem_append.1 h with h | h
          · exact HT.out h
          · simp at h; have := HTT.out; have := HZ.out; omega
        have HQ := Lib.hid hq
        clear hq hx
        go_wp2_with fail
        go_roundw
        case rel => exact ⟨k + 1, by omega, by go_num, HQ.out, trivial⟩
        case measure => simp [intOf]; omega
    · have hlt' : ¬ (k : Int) < (n : Int) := by omega
      obtain rfl : k = n := by omega
      have HQ := Lib.hid (show decide (x ∈ l) = false from decide_eq_false (by have := HT.out; rwa [List.take_of_length_le (Nat.le_of_eq HL.out)] at this))
      go_wp2_with fail
      exact bodyPost_ret (v := .bool false) (by simp [results, Try.results167, go_sem]) rfl ⟨by rw [HQ.out], BW.out⟩
end Go.Proofs.Ytjcabdnjimcdgaa.Gho
namespace Go.Proofs.Ytjcabdnjimcdgaa.Gho
open Go Go.RowKit Kit Go.Maps Lnk
/-- a list without a key -/
def wout (l : List Nat) (x : Nat) : List Nat := l.filter fun k => k != x
theorem wout_len (l : List Nat) (x : Nat) : (wout l x).length ≤ l.length := List.length_filter_le ..
set_option maxRecDepth 100000 in
set_option maxHeartbeats 2000000 in
theorem rwithout_any {w : World} {p : Option Addr} {n c : Nat} {l : List Nat} (hl : l.length = n) (hn : n ≤ 1000000) (r : Ru w p (ints l)) (x : Nat) :
    Calls Try.prog 166 #[.slice p n c, .int .u32 (x : Int)] w fun e w' => ∃ u, e = .returned u ∧ w'.ownsRow w.heap.size 38 1 u (wout l x).length ((ints (wout l x)).map (Value.int .u32)) ∧ Below w.heap.size w w' := by
  have HL := Lib.hid hl
  have HR := Lib.hid r
  obtain ⟨i0, hi, hz0, hz1, hz2⟩ := u_parts
  obtain ⟨z, hz⟩ : ∃ z : Int, (x : Int) = z := ⟨_, rfl⟩
  have HZ := Lib.hid hz
  rw [hz]
  clear hl r hz
  go_enter Try.func166, Try.ntmps166
  go_wp2_with fail
  go_loopw [5, 6] (fun ov iv wr => ∃ k : Nat, k ≤ n ∧ iv = .int .i64 (k : Int) ∧ Hid (wr.ownsRow w.heap.size 38 1 ov (wout (l.take k) x).length ((ints (wout (l.take k) x)).map (Value.int .u32))) ∧ Hid (Below w.heap.size w wr)) (fun _ iv _ => n - (intOf iv).toNat)
  case atStart => exact ⟨0, by omega, rfl, Lib.hid (World.ownsRow_nil _ _ _ _), Lib.hid (Below.refl _ _)⟩
  case round =>
    obtain ⟨k, hk, rfl, HO, HB⟩ := hrel
    by_cases hlt : k < n
    · obtain ⟨s, hs⟩ : ∃ s, l[k]? = some s := ⟨l[k]'(by rw [HL.out]; omega), List.getElem?_eq_getElem _⟩
      obtain ⟨y, rfl, hyb, e0⟩ := (HR.out.below HB.out) k (s : Int) (gints_at hs)
      have hlt' : (k : Int) < (n : Int) := by omega
      have k0 : (0 : Int) ≤ (k : Int) := by omega
      have wk := IntWalk.i64_in ((k : Int) + 1) (by omega)
      obtain ⟨t, ht⟩ : ∃ t : Int, (s : Int) = t := ⟨_, rfl⟩
      have hts : l.take (k + 1) = l.take k ++ [s] := by rw [List.take_add_one, hs]; rfl
      rw [ht] at e0
      by_cases hx : t = z
      · have hq : wout (l.take (k + 1)) x = wout (l.take k) x := by
          have : s = x := by have := HZ.out; omega
          rw [hts, this]
          unfold wout
          simp
        have HQ := Lib.hid hq
        subst hx
        clear hq hs hts ht hyb
        go_wp2_with fail
        go_roundw
        case rel => exact ⟨k + 1, by omega, by go_num, by rw [HQ.out]; exact HO, HB⟩
        case measure => simp [intOf]; omega
      · have hb : (t == z) = false := by rw [beq_eq_false_iff_ne]; exact hx
        have hb2 : (t != z) = true := by rw [bne_iff_ne]; exact hx
        have hq : wout (l.take (k + 1)) x = wout (l.take k) x ++ [s] := by
          have hsx : s ≠ x := by rintro rfl; have := HZ.out; omega
          rw [hts]
          unfold wout
          rw [List.filter_append]
          simp [hsx]
        have HQ := Lib.hid hq
        have HT := Lib.hid ht
        have hml := wout_len (l.take k) x
        rw [List.length_take] at hml
        obtain ⟨m, hm⟩ : ∃ m, (wout (l.take k) x).length = m := ⟨_, rfl⟩
        rw [hm] at HO hml
        have HM := Lib.hid (show (wout (l.take k) x).length = m ∧ m ≤ 1000000 from ⟨hm, by omega⟩)
        obtain ⟨va, vc, rfl, -, -⟩ := App.own_form HO.out
        have HRW := Lib.hid (HO.out.alloc (.cells #[.int .u32 t] 38))
        have HBA := Lib.hid (HB.out.trans ((box_below wr #[.int .u32 t] 38).mono HB.out.size))
        have HSZ := Lib.hid HB.out.size
        clear hq hs hts ht hyb hm hml hx
        go_wp2_with (at_builtin; refine wpList_append_own_at _ rfl (.tmp 19) (.tmp 24) 39 rfl w.heap.size 38 i0 (.int .u32 0) 1 4 Try.underlying39 hi hz0 hz1 hz2 rfl (by decide) (.slice va m vc) m ((ints (wout (l.take k) x)).map (Value.int .u32)) rfl HRW.out ⟨wr.heap.size, 0, none⟩ 1 1 [.int .u32 t] rfl rfl (cell_one_new _ _ _) (by simp [Value.oneCell']) (by have := HM.out; unfold maxLen; omega) (by have := HM.out; omega) (by have := HSZ.out; simp; omega) ?_; intro v' w3 ho3 hg3 hn3 hb3; have HG := Lib.hid (show w3.ownsRow w.heap.size 38 1 v' (m + 1) _ ∧ Below w.heap.size w w3 from ⟨ho3, HBA.out.grown hg3 HBA.out.size fun k hk => (HRW.out.lt k hk).1⟩); clear ho3 hg3 hn3 hb3)
        go_roundw
        case rel =>
          refine ⟨k + 1, by omega, by go_num, ?_, Lib.hid HG.out.2⟩
          have h1 := HG.out.1
          rw [HQ.out, List.length_append, HM.out.1]
          have e : (ints (wout (l.take k) x ++ [s])).map (Value.int .u32) = (ints (wout (l.take k) x)).map (Value.int .u32) ++ [.int .u32 t] := by rw [← HT.out]; unfold ints; simp
          rw [e]
          exact Lib.hid h1
        case measure => simp [intOf]; omega
    · have hlt' : ¬ (k : Int) < (n : Int) := by omega
      obtain rfl : k = n := by omega
      rw [List.take_of_length_le (Nat.le_of_eq HL.out)] at HO
      go_wp2_with fail
      exact bodyPost_ret (by simp [results, Try.results166, go_sem]) rfl ⟨_, rfl, HO.out, HB.out⟩
end Go.Proofs.Ytjcabdnjimcdgaa.Gho
namespace Go.Proofs.Ytjcabdnjimcdgaa.Gho
open Go Go.RowKit Kit Go.Maps Lnk
set_option maxRecDepth 100000 in
theorem rsame_any {w : World} {p1 p2 : Option Addr} {n1 n2 c1 c2 : Nat} {l1 l2 : List Int} (h1 : l1.length = n1) (h2 : l2.length = n2) (r1 : Ru w p1 l1) (r2 : Ru w p2 l2) (hn1 : n1 ≤ 1000000) (hn2 : n2 ≤ 1000000) :
    Calls Try.prog 137 #[.slice p1 n1 c1, .slice p2 n2 c2] w fun e w' => Says e (l1 = l2) ∧ Below w.heap.size w w' := by
  by_cases hn : n1 = n2
  · subst hn
    have H1 := Lib.hid h1
    have H2 := Lib.hid h2
    have R1 := Lib.hid (fun w' (hb : Below w.heap.size w w') => r1.below hb)
    have R2 := Lib.hid (fun w' (hb : Below w.heap.size w w') => r2.below hb)
    clear r1 r2 h1 h2 hn2
    go_enter Try.func137, Try.ntmps137
    go_wp2_with fail
    go_loopw [5] (fun i wr => ∃ j : Nat, j ≤ n1 ∧ i = .int .i64 j ∧ l1.take j = l2.take j ∧ Below w.heap.size w wr) (fun i _ => n1 - (intOf i).toNat)
    case atStart => exact ⟨0, by omega, rfl, by simp, Below.refl _ _⟩
    case round =>
      obtain ⟨j, hj, rfl, hT, bW⟩ := hrel
      have BW := Lib.hid bW
      have HT := Lib.hid hT
      clear bW hT
      by_cases hlt : j < n1
      · obtain ⟨z1, hz1⟩ : ∃ p, l1[j]? = some p := ⟨l1[j]'(by rw [H1.out]; omega), List.getElem?_eq_getElem _⟩
        obtain ⟨z2, hz2⟩ : ∃ p, l2[j]? = some p := ⟨l2[j]'(by rw [H2.out]; omega), List.getElem?_eq_getElem _⟩
        obtain ⟨y1, rfl, _, x1⟩ := R1.out _ BW.out j z1 hz1
        obtain ⟨y2, rfl, _, x2⟩ := R2.out _ BW.out j z2 hz2
        have hlt' : (j : Int) < (n1 : Int) := by omega
        have j0 : (0 : Int) ≤ (j : Int) := by omega
        have HS := Lib.hid (fun w' (hb : Below w.heap.size w w') => (show w'.cell? (y1.add j) = some (.int .u32 z1) ∧ w'.cell? (y2.add j) = some (.int .u32 z2) ∧ Below w.heap.size w w' from by
          obtain ⟨y, hy, _, e1⟩ := R1.out _ hb j z1 hz1
          obtain ⟨y', hy', _, e2⟩ := R2.out _ hb j z2 hz2
          cases hy; cases hy'
          exact ⟨e1, e2, hb⟩))
        have Z1 := Lib.hid hz1
        have Z2 := Lib.hid hz2
        clear hz1 hz2
        by_cases hz : z1 = z2
        · subst hz
          go_wp2_with fail
          go_region_held3 (fun w' => w'.cell? (y1.add j) = some (.int .u32 z1) ∧ w'.cell? (y2.add j) = some (.int .u32 z1) ∧ Below w.heap.size w w')
            (first
              | (exact HS.out _ (Below.drew BW.out))
              | assumption
              | fail)
            (first | fail)
          have B2 := Lib.hid (Below.drew BW.out)
          go_wp2_with fail
          go_roundw
          case rel => exact ⟨j + 1, by omega, by go_num, same_to HT.out Z1.out Z2.out, B2.out⟩
          case measure => simp [intOf]; omega
        · have hb : (z1 == z2) = false := by rw [beq_eq_false_iff_ne]; exact hz
          have hb2 : (z1 != z2) = true := by rw [bne_iff_ne]; exact hz
          have HZ := Lib.hid hz
          clear hz
          go_wp2_with fail
          go_region_held3 (fun w' => w'.cell? (y1.add j) = some (.int .u32 z1) ∧ w'.cell? (y2.add j) = some (.int .u32 z2) ∧ Below w.heap.size w w')
            (first
              | (exact HS.out _ (Below.drew BW.out))
              | assumption
              | fail)
            (first | fail)
          have B2 := Lib.hid (Below.drew BW.out)
          go_wp2_with fail
          exact bodyPost_ret (v := .bool false) (by simp [results, Try.results137, go_sem]) rfl ⟨Says.no rfl (other_at Z1.out Z2.out HZ.out), B2.out⟩
      · obtain rfl : j = n1 := by omega
        go_wp2_with fail
        exact bodyPost_ret (v := .bool true) (by simp [results, Try.results137, go_sem]) rfl ⟨Says.yes rfl (same_all HT.out H1.out H2.out), BW.out⟩
  · have hb : ((n1 : Int) == (n2 : Int)) = false := by rw [beq_eq_false_iff_ne]; omega
    have hb2 : ((n1 : Int) != (n2 : Int)) = true := by rw [bne_iff_ne]; omega
    have HX := Lib.hid (show ¬ l1 = l2 from fun he => by rw [he] at h1; omega)
    clear r1 r2 h1 h2
    go_enter Try.func137, Try.ntmps137
    go_wp2_with fail
    exact bodyPost_ret (v := .bool false) (by simp [results, Try.results137, go_sem]) rfl ⟨Says.no rfl HX.out, Below.refl _ _⟩
end Go.Proofs.Ytjcabdnjimcdgaa.Gho
namespace Go.Proofs.Ytjcabdnjimcdgaa.Gho
open Go Go.RowKit Kit Go.Maps Lnk
set_option maxRecDepth 100000 in
set_option maxHeartbeats 2000000 in
theorem rremove_any {w : World} {p : Option Addr} {n c : Nat} {l : List Nat} (most : Int) (hl : l.length = n) (hn : n ≤ 1000000) (r : Ru w p (ints l)) (x : Nat) :
    Calls Try.prog 140 #[rg most p n c, .int .u32 (x : Int)] w fun e w' => ∃ q k, e = .returned (.tuple #[rg most q (wout l x).length k, .bool (decide (x ∈ l))]) ∧ w'.ownsRow w.heap.size 38 1 (.slice q (wout l x).length k) (wout l x).length ((ints (wout l x)).map (Value.int .u32)) ∧ Below w.heap.size w w' := by
  have HL := Lib.hid (And.intro hl hn)
  have HR := Lib.hid r
  obtain ⟨t, ht⟩ : ∃ t, decide (x ∈ l) = t := ⟨_, rfl⟩
  have HH := Lib.hid (fun (v : World) (hb : Below w.heap.size w v) => (ht ▸ rhas_any (c := c) most hl hn (r.below hb) x : Calls Try.prog 167 #[rg most p n c, .int .u32 (x : Int)] v fun e w' => e = .returned (.bool t) ∧ Below v.heap.size v w'))
  have HW := Lib.hid (fun (v : World) (hb : Below w.heap.size w v) => rwithout_any (c := c) hl hn (r.below hb) x)
  rw [ht]
  clear hl hn r ht
  go_enter Try.func140, Try.ntmps140
  go_wp2_with fail
  have b0 : Below w.heap.size w ((w.alloc (.cells #[.int .i64 most, .slice p n c] 106)).alloc (.cells #[.int .i64 0, .slice none 0 0] 106)) := by go_grown
  have x0 : ((w.alloc (.cells #[.int .i64 most, .slice p n c] 106)).alloc (.cells #[.int .i64 0, .slice none 0 0] 106)).heap[w.heap.size]? = some (.cells #[.int .i64 most, .slice p n c] 106 (0, 0)) := ((show Below ((w.alloc (.cells #[.int .i64 most, .slice p n c] 106))).heap.size (w.alloc (.cells #[.int .i64 most, .slice p n c] 106)) ((w.alloc (.cells #[.int .i64 most, .slice p n c] 106)).alloc (.cells #[.int .i64 0, .slice none 0 0] 106)) by go_grown).block w.heap.size (by simp)).trans (MapKept.heap_alloc w _).1
  have x1 : ((w.alloc (.cells #[.int .i64 most, .slice p n c] 106)).alloc (.cells #[.int .i64 0, .slice none 0 0] 106)).heap[w.heap.size + 1]? = some (.cells #[.int .i64 0, .slice none 0 0] 106 (0, 0)) := by have h := (MapKept.heap_alloc (w.alloc (.cells #[.int .i64 most, .slice p n c] 106)) (.cells #[.int .i64 0, .slice none 0 0] 106)).1; rwa [World.size_alloc] at h
  have hs0 : ((w.alloc (.cells #[.int .i64 most, .slice p n c] 106)).alloc (.cells #[.int .i64 0, .slice none 0 0] 106)).heap.size = w.heap.size + 2 := by simp
  generalize ((w.alloc (.cells #[.int .i64 most, .slice p n c] 106)).alloc (.cells #[.int .i64 0, .slice none 0 0] 106)) = w2 at *
  have B2 := Lib.hid b0
  refine (HH.out _ B2.out).mono ?_
  rintro e w3 ⟨rfl, b3⟩
  have hs3 := b3.size
  have X3 := Lib.hid (show w3.heap[w.heap.size]? = some (.cells #[.int .i64 most, .slice p n c] 106 (0, 0)) ∧ w3.heap[w.heap.size + 1]? = some (.cells #[.int .i64 0, .slice none 0 0] 106 (0, 0)) ∧ Below w.heap.size w w3 ∧ w.heap.size + 2 ≤ w3.heap.size from ⟨(b3.block _ (by omega)).trans x0, (b3.block _ (by omega)).trans x1, b0.trans (b3.mono (by omega)), by omega⟩)
  clear b0 x0 x1 hs0 b3 hs3
  have d0 : w3.cell? ⟨w.heap.size, 0, none⟩ = some (.int .i64 most) ∧ w3.cell? ⟨w.heap.size, 1, none⟩ = some (.slice p n c) := by have := X3.out.1; constructor <;> simp [World.cell?, this]
  obtain ⟨d0, d1⟩ := d0
  go_wp2_with fail
  refine (HW.out _ X3.out.2.2.1).mono ?_
  rintro e w4 ⟨u, rfl, hrow, b4⟩
  obtain ⟨q, kc, rfl, -, -⟩ := App.own_form hrow
  have hs4 := b4.size
  have X4 := Lib.hid (show w4.heap[w.heap.size]? = some (.cells #[.int .i64 most, .slice p n c] 106 (0, 0)) ∧ w4.heap[w.heap.size + 1]? = some (.cells #[.int .i64 0, .slice none 0 0] 106 (0, 0)) ∧ Below w.heap.size w w4 ∧ w.heap.size + 2 ≤ w4.heap.size from ⟨(b4.block _ (by have := X3.out.2.2.2; omega)).trans X3.out.1, (b4.block _ (by have := X3.out.2.2.2; omega)).trans X3.out.2.1, X3.out.2.2.1.trans (b4.mono (by have := X3.out.2.2.2; omega)), by have := X3.out.2.2.2; omega⟩)
  have HROW := Lib.hid hrow
  obtain ⟨f0, f1, f2, f3⟩ : w4.cell? ⟨w.heap.size, 0, none⟩ = some (.int .i64 most) ∧ w4.cell? ⟨w.heap.size, 1, none⟩ = some (.slice p n c) ∧ w4.cell? ⟨w.heap.size + 1, 0, none⟩ = some (.int .i64 0) ∧ w4.cell? ⟨w.heap.size + 1, 1, none⟩ = some (.slice none 0 0) := by have h1 := X4.out.1; have h2 := X4.out.2.1; refine ⟨?_, ?_, ?_, ?_⟩ <;> simp [World.cell?, h1, h2]
  obtain ⟨g0, g1⟩ : (∀ j, w4.frozen? ⟨w.heap.size, j, none⟩ = false) ∧ (∀ j, w4.frozen? ⟨w.heap.size + 1, j, none⟩ = false) := by have h1 := X4.out.1; have h2 := X4.out.2.1; refine ⟨fun j => ?_, fun j => ?_⟩ <;> simp [World.frozen?, h1, h2]
  clear hrow b4 hs4 d0 d1
  go_wp2_with fail
  have hsz := X4.out.2.2.2
  have hx3 := X3.out.2.2.2
  have hbl := ((X4.out.2.2.1.setCell (p := ⟨w.heap.size, 1, none⟩) (Nat.le_refl _) (.slice q (wout l x).length kc)).setCell (p := ⟨w.heap.size + 1, 0, none⟩) (by show w.heap.size ≤ w.heap.size + 1; omega) (.int .i64 most)).setCell (p := ⟨w.heap.size + 1, 1, none⟩) (by show w.heap.size ≤ w.heap.size + 1; omega) (.slice q (wout l x).length kc)
  have hfin := heap_set (j := 1) (heap_set (j := 0) ((Below.heap_setCell w4 ⟨w.heap.size, 1, none⟩ (.slice q (wout l x).length kc) (w.heap.size + 1) (by show w.heap.size + 1 ≠ w.heap.size; omega)).trans X4.out.2.1) (.int .i64 most)) (.slice q (wout l x).length kc)
  have hrw : (((w4.setCell ⟨w.heap.size, 1, none⟩ (.slice q (wout l x).length kc)).setCell ⟨w.heap.size + 1, 0, none⟩ (.int .i64 most)).setCell ⟨w.heap.size + 1, 1, none⟩ (.slice q (wout l x).length kc)).ownsRow w.heap.size 38 1 (.slice q (wout l x).length kc) (wout l x).length ((ints (wout l x)).map (Value.int .u32)) := by
    refine App.own_lift (row_kp HROW.out fun g hg => ?_) (by omega)
    have h1 := (HROW.out.lt g hg).1
    have n1 : g ≠ w.heap.size + 1 := by omega
    have n2 : g ≠ w.heap.size := by omega
    rw [Below.heap_setCell _ ⟨w.heap.size + 1, 1, none⟩ _ g n1, Below.heap_setCell _ ⟨w.heap.size + 1, 0, none⟩ _ g n1, Below.heap_setCell _ ⟨w.heap.size, 1, none⟩ _ g n2]
  generalize ((w4.setCell ⟨w.heap.size, 1, none⟩ (.slice q (wout l x).length kc)).setCell ⟨w.heap.size + 1, 0, none⟩ (.int .i64 most)).setCell ⟨w.heap.size + 1, 1, none⟩ (.slice q (wout l x).length kc) = w5 at *
  obtain ⟨z0, z1⟩ : w5.cell? ⟨w.heap.size + 1, 0, none⟩ = some (.int .i64 most) ∧ w5.cell? ⟨w.heap.size + 1, 1, none⟩ = some (.slice q (wout l x).length kc) := by constructor <;> simp [World.cell?, hfin]
  exact bodyPost_ret (v := .tuple #[rg most q (wout l x).length kc, .bool t]) (by simp [results, Try.results140, go_sem, z0, z1]) rfl ⟨q, kc, rfl, hrw, hbl⟩
end Go.Proofs.Ytjcabdnjimcdgaa.Gho
namespace Go.Proofs.Ytjcabdnjimcdgaa.Gho
open Go Go.RowKit Kit Go.Maps Lnk
theorem ru_app {w : World} {p : Option Addr} {l : List Int} (h : Ru w p l) : App.Rg w p (l.map (Value.int .u32)) := fun i v hv => by
  rw [List.getElem?_map] at hv
  cases hx : l[i]? with
  | none => rw [hx] at hv; cases hv
  | some x =>
    rw [hx] at hv
    cases hv
    exact h i x hx
theorem u32_cell1 (l : List Int) : ∀ u ∈ l.map (Value.int .u32), u.oneCell' = true := by
  intro u hu
  obtain ⟨x, -, rfl⟩ := List.mem_map.1 hu
  rfl
/-- the two boxes of a method of the reference -/
theorem two_boxes {w : World} {most : Int} {v : Value} : ((w.alloc (.cells #[.int .i64 most, v] 106)).alloc (.cells #[.int .i64 0, .slice none 0 0] 106)).heap[w.heap.size]? = some (.cells #[.int .i64 most, v] 106 (0, 0)) ∧ ((w.alloc (.cells #[.int .i64 most, v] 106)).alloc (.cells #[.int .i64 0, .slice none 0 0] 106)).heap[w.heap.size + 1]? = some (.cells #[.int .i64 0, .slice none 0 0] 106 (0, 0)) := by
  constructor
  · exact ((show Below (w.alloc (.cells #[.int .i64 most, v] 106)).heap.size (w.alloc (.cells #[.int .i64 most, v] 106)) ((w.alloc (.cells #[.int .i64 most, v] 106)).alloc (.cells #[.int .i64 0, .slice none 0 0] 106)) by go_grown).block w.heap.size (by simp)).trans (MapKept.heap_alloc w _).1
  · have h := (MapKept.heap_alloc (w.alloc (.cells #[.int .i64 most, v] 106)) (.cells #[.int .i64 0, .slice none 0 0] 106)).1
    rwa [World.size_alloc] at h
set_option maxRecDepth 100000 in
set_option maxHeartbeats 2000000 in
theorem rpop_some {w : World} {p : Option Addr} {m c : Nat} {T : List Nat} {x : Nat} (most : Int) (hl : T.length = m) (hn : m + 1 ≤ 1000000) (hc : m + 1 ≤ c) (r : Ru w p (ints (T ++ [x]))) :
    Calls Try.prog 141 #[rg most p (m + 1) c] w fun e w' => ∃ q k, e = .returned (.tuple #[rg most q m k, .int .u32 (x : Int), .int .i64 0]) ∧ w'.ownsRow w.heap.size 38 1 (.slice q m k) m ((ints T).map (Value.int .u32)) ∧ Below w.heap.size w w' := by
  obtain ⟨i0, hi0, hz0, hz1, hz2⟩ := u_parts
  obtain ⟨n, hnm⟩ : ∃ n, m + 1 = n := ⟨_, rfl⟩
  obtain ⟨y, rfl, -, -⟩ := r 0 _ (by rw [List.getElem?_eq_getElem (by unfold ints; simp)])
  have HN := Lib.hid (show m + 1 = n ∧ n ≤ 1000000 ∧ T.length = m from ⟨hnm, by omega, hl⟩)
  have HR := Lib.hid (fun (v : World) (hb : Below w.heap.size w v) => r.below hb)
  rw [hnm]
  have wsub : IntKind.i64.wrap ((n : Int) - 1) = (m : Int) := by rw [IntWalk.i64_in _ (by omega)]; omega
  have i1 : (m : Int) < (n : Int) := by omega
  have i2 : (m : Int) ≤ (n : Int) := by omega
  have i3 : (n : Int) ≤ (c : Int) := by omega
  have i4 : (m : Int) ≤ (c : Int) := by omega
  have i5 : (0 : Int) ≤ (m : Int) := by omega
  have n0 : ((n : Int) == 0) = false := by rw [beq_eq_false_iff_ne]; omega
  have n1 : ¬ n = 0 := by omega
  have b0 : Below w.heap.size w ((w.alloc (.cells #[.int .i64 most, .slice (some y) n c] 106)).alloc (.cells #[.int .i64 0, .slice none 0 0] 106)) := by go_grown
  have e0 := (HR.out _ b0 m (x : Int) (by unfold ints; rw [List.getElem?_map, List.getElem?_append_right (by omega), hl, Nat.sub_self]; rfl))
  obtain ⟨y', hy', -, e0⟩ := e0
  cases hy'
  have RT := Lib.hid (ru_app (show Ru ((w.alloc (.cells #[.int .i64 most, .slice (some y) n c] 106)).alloc (.cells #[.int .i64 0, .slice none 0 0] 106)) (some y) (ints T) by
    have h := (HR.out _ b0).take m
    have e : (ints (T ++ [x])).take m = ints T := by unfold ints; rw [List.map_append, List.take_left' (by rw [List.length_map, hl])]
    rwa [e] at h))
  have HLT := Lib.hid (show ((ints T).map (Value.int .u32)).length = m by rw [List.length_map, ints_len, hl])
  have HTB := Lib.hid (And.intro b0 (two_boxes (w := w) (most := most) (v := .slice (some y) n c)))
  clear hl hn hc r hnm b0
  go_enter Try.func141, Try.ntmps141
  go_wp2_with (first
    | (at_builtin; refine App.wpList_appG rfl (.const (.slice none 0 0)) (.tmp 25) 39 rfl (w.heap.size + 2) 38 i0 (.int .u32 0) 4 Try.underlying39 hi0 hz0 hz1 hz2 rfl _ 0 [] rfl (World.ownsRow_nil _ _ _ _) (some y) m c _ rfl HLT.out RT.out (u32_cell1 _) (by have := HN.out; omega) (by omega) (by simp) ?_; intro v1 w4 o1 b1 s1; rw [Nat.zero_add, List.nil_append] at o1; obtain ⟨q, kc, rfl, -, -⟩ := App.own_form o1; have X4 := Lib.hid (show w4.heap[w.heap.size]? = some (.cells #[.int .i64 most, .slice (some y) n c] 106 (0, 0)) ∧ w4.heap[w.heap.size + 1]? = some (.cells #[.int .i64 0, .slice none 0 0] 106 (0, 0)) ∧ Below w.heap.size w w4 from ⟨(b1.block _ (by omega)).trans HTB.out.2.1, (b1.block _ (by omega)).trans HTB.out.2.2, HTB.out.1.trans (b1.mono (by omega))⟩); have HROW := Lib.hid o1; (obtain ⟨f0, f1, f2, f3⟩ : w4.cell? ⟨w.heap.size, 0, none⟩ = some (.int .i64 most) ∧ w4.cell? ⟨w.heap.size, 1, none⟩ = some (.slice (some y) n c) ∧ w4.cell? ⟨w.heap.size + 1, 0, none⟩ = some (.int .i64 0) ∧ w4.cell? ⟨w.heap.size + 1, 1, none⟩ = some (.slice none 0 0) := by have h1 := X4.out.1; have h2 := X4.out.2.1; refine ⟨?_, ?_, ?_, ?_⟩ <;> simp [World.cell?, h1, h2]); (obtain ⟨g0, g1⟩ : (∀ j, w4.frozen? ⟨w.heap.size, j, none⟩ = false) ∧ (∀ j, w4.frozen? ⟨w.heap.size + 1, j, none⟩ = false) := by have h1 := X4.out.1; have h2 := X4.out.2.1; refine ⟨fun j => ?_, fun j => ?_⟩ <;> simp [World.frozen?, h1, h2]); clear o1 b1 s1)
    | fail)
  have hbl := ((X4.out.2.2.setCell (p := ⟨w.heap.size, 1, none⟩) (Nat.le_refl _) (.slice q m kc)).setCell (p := ⟨w.heap.size + 1, 0, none⟩) (by show w.heap.size ≤ w.heap.size + 1; omega) (.int .i64 most)).setCell (p := ⟨w.heap.size + 1, 1, none⟩) (by show w.heap.size ≤ w.heap.size + 1; omega) (.slice q m kc)
  have hfin := heap_set (j := 1) (heap_set (j := 0) ((Below.heap_setCell w4 ⟨w.heap.size, 1, none⟩ (.slice q m kc) (w.heap.size + 1) (by show w.heap.size + 1 ≠ w.heap.size; omega)).trans X4.out.2.1) (.int .i64 most)) (.slice q m kc)
  have hrw : (((w4.setCell ⟨w.heap.size, 1, none⟩ (.slice q m kc)).setCell ⟨w.heap.size + 1, 0, none⟩ (.int .i64 most)).setCell ⟨w.heap.size + 1, 1, none⟩ (.slice q m kc)).ownsRow w.heap.size 38 1 (.slice q m kc) m ((ints T).map (Value.int .u32)) := by
    refine App.own_lift (row_kp HROW.out fun g hg => ?_) (by omega)
    have h1 := (HROW.out.lt g hg).1
    have n1 : g ≠ w.heap.size + 1 := by omega
    have n2 : g ≠ w.heap.size := by omega
    rw [Below.heap_setCell _ ⟨w.heap.size + 1, 1, none⟩ _ g n1, Below.heap_setCell _ ⟨w.heap.size + 1, 0, none⟩ _ g n1, Below.heap_setCell _ ⟨w.heap.size, 1, none⟩ _ g n2]
  generalize ((w4.setCell ⟨w.heap.size, 1, none⟩ (.slice q m kc)).setCell ⟨w.heap.size + 1, 0, none⟩ (.int .i64 most)).setCell ⟨w.heap.size + 1, 1, none⟩ (.slice q m kc) = w5 at *
  obtain ⟨z0, z1⟩ : w5.cell? ⟨w.heap.size + 1, 0, none⟩ = some (.int .i64 most) ∧ w5.cell? ⟨w.heap.size + 1, 1, none⟩ = some (.slice q m kc) := by constructor <;> simp [World.cell?, hfin]
  exact bodyPost_ret (v := .tuple #[rg most q m kc, .int .u32 (x : Int), .int .i64 0]) (by simp [results, Try.results141, go_sem, z0, z1]) rfl ⟨q, kc, rfl, hrw, hbl⟩
end Go.Proofs.Ytjcabdnjimcdgaa.Gho
namespace Go.Proofs.Ytjcabdnjimcdgaa.Gho
open Go Go.RowKit Kit Go.Maps Lnk
set_option maxRecDepth 100000 in
theorem rpop_none {w : World} {p : Option Addr} {c : Nat} (most : Int) :
    Calls Try.prog 141 #[rg most p 0 c] w fun e w' => e = .returned (.tuple #[rg most p 0 c, .int .u32 0, .int .i64 9]) ∧ Below w.heap.size w w' := by
  go_enter Try.func141, Try.ntmps141
  go_wp2_with fail
  exact bodyPost_ret (v := .tuple #[rg most p 0 c, .int .u32 0, .int .i64 9]) (by simp [results, Try.results141, go_sem]) rfl ⟨rfl, by go_grown⟩
set_option maxRecDepth 100000 in
theorem rnew_any {w : World} {n : Int} (h0 : 0 ≤ n) (h1 : n ≤ 4096) :
    Calls Try.prog 58 #[.int .i64 n] w fun e w' => e = .returned (.tuple #[rg n none 0 0, .int .i64 0]) ∧ Below w.heap.size w w' := by
  have g0 : ¬ n < 0 := by omega
  have g1 : ¬ 4096 < n := by omega
  clear h0 h1
  go_enter Try.func58, Try.ntmps58
  go_wp2_with fail
  exact bodyPost_ret (v := .tuple #[rg n none 0 0, .int .i64 0]) (by simp [results, Try.results58, go_sem]) rfl ⟨rfl, by go_grown⟩
end Go.Proofs.Ytjcabdnjimcdgaa.Gho
namespace Go.Proofs.Ytjcabdnjimcdgaa.Gho
open Go Go.RowKit Kit Go.Maps Lnk
set_option maxRecDepth 100000 in
set_option maxHeartbeats 2000000 in
theorem radd_low {w : World} {p : Option Addr} {n c most : Nat} {l : List Nat} (hl : l.length = n) (hn : n ≤ 100000) (r : Ru w p (ints l)) (x : Nat) (hm : (wout l x).length + 1 ≤ most) :
    Calls Try.prog 139 #[rg (most : Int) p n c, .int .u32 (x : Int)] w fun e w' => ∃ q k, e = .returned (.tuple #[rg (most : Int) q ((wout l x).length + 1) k, .int .u32 0, .bool false]) ∧ w'.ownsRow w.heap.size 38 1 (.slice q ((wout l x).length + 1) k) ((wout l x).length + 1) ((ints (x :: wout l x)).map (Value.int .u32)) ∧ Below w.heap.size w w' := by
  obtain ⟨i0, hi0, hz0, hz1, hz2⟩ := u_parts
  have HW := Lib.hid (fun (v : World) (hb : Below w.heap.size w v) => rwithout_any (c := c) hl (by omega) (r.below hb) x)
  have hwl := wout_len l x
  obtain ⟨m, hwm⟩ : ∃ m, (wout l x).length = m := ⟨_, rfl⟩
  have HM := Lib.hid (show (wout l x).length = m ∧ m ≤ 100000 ∧ m + 1 ≤ most from ⟨hwm, by omega, by omega⟩)
  rw [hwm] at HW ⊢
  have hmm : ((m : Int) + 1) ≤ (most : Int) := by omega
  clear hl hn r hm hwl hwm
  go_enter Try.func139, Try.ntmps139
  go_wp2_with fail
  have hb23 : Below ((w.alloc (.cells #[.int .i64 (most : Int), .slice p n c] 106)).alloc (.cells #[.int .i64 0, .slice none 0 0] 106)).heap.size ((w.alloc (.cells #[.int .i64 (most : Int), .slice p n c] 106)).alloc (.cells #[.int .i64 0, .slice none 0 0] 106)) (((w.alloc (.cells #[.int .i64 (most : Int), .slice p n c] 106)).alloc (.cells #[.int .i64 0, .slice none 0 0] 106)).alloc (.cells #[.int .u32 (x : Int)] 38)) := by go_grown
  have b3 : Below w.heap.size w (((w.alloc (.cells #[.int .i64 (most : Int), .slice p n c] 106)).alloc (.cells #[.int .i64 0, .slice none 0 0] 106)).alloc (.cells #[.int .u32 (x : Int)] 38)) := by go_grown
  have htb := two_boxes (w := w) (most := (most : Int)) (v := .slice p n c)
  have hs2 : ((w.alloc (.cells #[.int .i64 (most : Int), .slice p n c] 106)).alloc (.cells #[.int .i64 0, .slice none 0 0] 106)).heap.size = w.heap.size + 1 + 1 := by simp
  have X3 := Lib.hid (show (((w.alloc (.cells #[.int .i64 (most : Int), .slice p n c] 106)).alloc (.cells #[.int .i64 0, .slice none 0 0] 106)).alloc (.cells #[.int .u32 (x : Int)] 38)).heap[w.heap.size]? = some (.cells #[.int .i64 (most : Int), .slice p n c] 106 (0, 0)) ∧ (((w.alloc (.cells #[.int .i64 (most : Int), .slice p n c] 106)).alloc (.cells #[.int .i64 0, .slice none 0 0] 106)).alloc (.cells #[.int .u32 (x : Int)] 38)).heap[w.heap.size + 1]? = some (.cells #[.int .i64 0, .slice none 0 0] 106 (0, 0)) ∧ Below w.heap.size w (((w.alloc (.cells #[.int .i64 (most : Int), .slice p n c] 106)).alloc (.cells #[.int .i64 0, .slice none 0 0] 106)).alloc (.cells #[.int .u32 (x : Int)] 38)) from ⟨(hb23.block _ (by omega)).trans htb.1, (hb23.block _ (by omega)).trans htb.2, b3⟩)
  have one := App.one_own ((w.alloc (.cells #[.int .i64 (most : Int), .slice p n c] 106)).alloc (.cells #[.int .i64 0, .slice none 0 0] 106)) (.int .u32 (x : Int)) 38
  rw [hs2] at one
  have hs3 : (((w.alloc (.cells #[.int .i64 (most : Int), .slice p n c] 106)).alloc (.cells #[.int .i64 0, .slice none 0 0] 106)).alloc (.cells #[.int .u32 (x : Int)] 38)).heap.size = w.heap.size + 1 + 1 + 1 := by simp
  clear hb23 b3 htb hs2
  generalize (((w.alloc (.cells #[.int .i64 (most : Int), .slice p n c] 106)).alloc (.cells #[.int .i64 0, .slice none 0 0] 106)).alloc (.cells #[.int .u32 (x : Int)] 38)) = w3 at *
  refine (HW.out _ X3.out.2.2).mono ?_
  rintro e w4 ⟨u, rfl, hrow, b4⟩
  have hs4 := b4.size
  have ONE := Lib.hid (row_kp one fun g hg => b4.block g (by have := (one.lt g hg).2; omega))
  obtain ⟨q1, k1, rfl, rg1, len1⟩ := App.own_rg hrow
  have RG1 := Lib.hid rg1
  have LEN1 := Lib.hid len1
  have X4 := Lib.hid (show w4.heap[w.heap.size]? = some (.cells #[.int .i64 (most : Int), .slice p n c] 106 (0, 0)) ∧ w4.heap[w.heap.size + 1]? = some (.cells #[.int .i64 0, .slice none 0 0] 106 (0, 0)) ∧ Below w.heap.size w w4 ∧ w.heap.size + 1 + 1 ≤ w4.heap.size from ⟨(b4.block _ (by omega)).trans X3.out.1, (b4.block _ (by omega)).trans X3.out.2.1, X3.out.2.2.trans (b4.mono (by omega)), by omega⟩)
  clear one rg1 len1 hrow b4 hs4 hs3 X3
  obtain ⟨L, hL⟩ : ∃ L, 1 + m = L := ⟨_, rfl⟩
  have hLm : (L : Int) ≤ (most : Int) := by have := HM.out; omega
  have HLL := Lib.hid hL
  clear hL
  go_wp2_with (first
    | (at_builtin; refine App.wpList_appG rfl (.tmp 9) (.tmp 13) 39 rfl (w.heap.size + 1 + 1) 38 i0 (.int .u32 0) 4 Try.underlying39 hi0 hz0 hz1 hz2 rfl _ 1 [.int .u32 (x : Int)] rfl ONE.out q1 m k1 _ rfl LEN1.out RG1.out (u32_cell1 _) (by have := HM.out; omega) (by omega) X4.out.2.2.2 ?_; intro v5 w5 o5 b5 s5; rw [HLL.out] at o5; obtain ⟨q, kc, rfl, -, -⟩ := App.own_form o5; have X5 := Lib.hid (show w5.heap[w.heap.size]? = some (.cells #[.int .i64 (most : Int), .slice p n c] 106 (0, 0)) ∧ w5.heap[w.heap.size + 1]? = some (.cells #[.int .i64 0, .slice none 0 0] 106 (0, 0)) ∧ Below w.heap.size w w5 from ⟨(b5.block _ (by omega)).trans X4.out.1, (b5.block _ (by omega)).trans X4.out.2.1, X4.out.2.2.1.trans (b5.mono (by omega))⟩); have HROW := Lib.hid o5; (obtain ⟨f0, f1, f2, f3⟩ : w5.cell? ⟨w.heap.size, 0, none⟩ = some (.int .i64 (most : Int)) ∧ w5.cell? ⟨w.heap.size, 1, none⟩ = some (.slice p n c) ∧ w5.cell? ⟨w.heap.size + 1, 0, none⟩ = some (.int .i64 0) ∧ w5.cell? ⟨w.heap.size + 1, 1, none⟩ = some (.slice none 0 0) := by have h1 := X5.out.1; have h2 := X5.out.2.1; refine ⟨?_, ?_, ?_, ?_⟩ <;> simp [World.cell?, h1, h2]); (obtain ⟨g0, g1⟩ : (∀ j, w5.frozen? ⟨w.heap.size, j, none⟩ = false) ∧ (∀ j, w5.frozen? ⟨w.heap.size + 1, j, none⟩ = false) := by have h1 := X5.out.1; have h2 := X5.out.2.1; refine ⟨fun j => ?_, fun j => ?_⟩ <;> simp [World.frozen?, h1, h2]); clear o5 b5 s5)
    | fail)
  have hbl := ((X5.out.2.2.setCell (p := ⟨w.heap.size, 1, none⟩) (Nat.le_refl _) (.slice q L kc)).setCell (p := ⟨w.heap.size + 1, 0, none⟩) (by show w.heap.size ≤ w.heap.size + 1; omega) (.int .i64 (most : Int))).setCell (p := ⟨w.heap.size + 1, 1, none⟩) (by show w.heap.size ≤ w.heap.size + 1; omega) (.slice q L kc)
  have hfin := heap_set (j := 1) (heap_set (j := 0) ((Below.heap_setCell w5 ⟨w.heap.size, 1, none⟩ (.slice q L kc) (w.heap.size + 1) (by show w.heap.size + 1 ≠ w.heap.size; omega)).trans X5.out.2.1) (.int .i64 (most : Int))) (.slice q L kc)
  have hrw : (((w5.setCell ⟨w.heap.size, 1, none⟩ (.slice q L kc)).setCell ⟨w.heap.size + 1, 0, none⟩ (.int .i64 (most : Int))).setCell ⟨w.heap.size + 1, 1, none⟩ (.slice q L kc)).ownsRow w.heap.size 38 1 (.slice q L kc) L ((ints (x :: wout l x)).map (Value.int .u32)) := by
    refine App.own_lift (row_kp HROW.out fun g hg => ?_) (by omega)
    have h1 := (HROW.out.lt g hg).1
    have n1 : g ≠ w.heap.size + 1 := by omega
    have n2 : g ≠ w.heap.size := by omega
    rw [Below.heap_setCell _ ⟨w.heap.size + 1, 1, none⟩ _ g n1, Below.heap_setCell _ ⟨w.heap.size + 1, 0, none⟩ _ g n1, Below.heap_setCell _ ⟨w.heap.size, 1, none⟩ _ g n2]
  generalize ((w5.setCell ⟨w.heap.size, 1, none⟩ (.slice q L kc)).setCell ⟨w.heap.size + 1, 0, none⟩ (.int .i64 (most : Int))).setCell ⟨w.heap.size + 1, 1, none⟩ (.slice q L kc) = w6 at *
  obtain ⟨z0, z1⟩ : w6.cell? ⟨w.heap.size + 1, 0, none⟩ = some (.int .i64 (most : Int)) ∧ w6.cell? ⟨w.heap.size + 1, 1, none⟩ = some (.slice q L kc) := by constructor <;> simp [World.cell?, hfin]
  have hLe : m + 1 = L := by have := HLL.out; omega
  rw [hLe]
  exact bodyPost_ret (v := .tuple #[rg (most : Int) q L kc, .int .u32 0, .bool false]) (by simp [results, Try.results139, go_sem, z0, z1]) rfl ⟨q, kc, rfl, hrw, hbl⟩
end Go.Proofs.Ytjcabdnjimcdgaa.Gho
namespace Go.Proofs.Ytjcabdnjimcdgaa.Gho
open Go Go.RowKit Kit Go.Maps Lnk
theorem wout_erase {l : List Nat} (h : l.Nodup) (x : Nat) : wout l x = l.erase x := by
  unfold wout
  rw [h.erase_eq_filter]
theorem row_ruH {w : World} {B n : Nat} {v : Value} {l : List Int} (h : w.ownsRow B 38 1 v n (l.map (Value.int .u32))) (hl : l.length = n) : ∃ p c, v = .slice p n c ∧ Ru w p l ∧ ∀ y, p = some y → B ≤ y.block := by
  subst hl
  rcases own_cases h with ⟨rfl, rfl⟩ | ⟨g, cap, rfl, h1, h2, h3, h4, h5⟩
  · exact ⟨none, 0, rfl, fun i x hx => by simp at hx, fun y hy => by cases hy⟩
  · refine ⟨_, cap, rfl, fun i x hx => ?_, fun y hy => by cases hy; exact h1⟩
    obtain ⟨hi, he⟩ := List.getElem?_eq_some_iff.1 hx
    exact ⟨_, rfl, h2, by rw [add2]; have := h5 i hi; rw [he] at this; exact this⟩
/-- what the reference's Add makes -/
def addR (most : Int) (l : List Nat) (x : Nat) : List Nat × Nat × Bool :=
  if ((wout l x).length : Int) + 1 ≤ most then (x :: wout l x, 0, false) else ((x :: wout l x).dropLast, (x :: wout l x).getLastD 0, true)
theorem addR_eq {most : Int} {l : List Nat} (h : l.Nodup) (hm : (l.length : Int) ≤ most) (x : Nat) : addR most l x = addG most l x := by
  unfold addR addG
  rw [wout_erase h]
  by_cases hx : x ∈ l
  · have hp := List.length_pos_of_mem hx
    have hl := List.length_erase_of_mem hx
    rw [if_pos hx, if_pos (by omega)]
  · rw [if_neg hx, List.erase_of_not_mem hx]
theorem addG_len {most : Int} {l : List Nat} (hm : (l.length : Int) ≤ most) (x : Nat) : ((addG most l x).1.length : Int) ≤ most ∧ (addG most l x).1.length ≤ l.length + 1 := by
  unfold addG
  by_cases hx : x ∈ l
  · have hp := List.length_pos_of_mem hx
    have hl := List.length_erase_of_mem hx
    rw [if_pos hx, List.length_cons]
    omega
  · rw [if_neg hx]
    split
    · rw [List.length_cons]; omega
    · rw [List.length_dropLast, List.length_cons]; omega
set_option maxRecDepth 100000 in
set_option maxHeartbeats 2000000 in
theorem radd_high {w : World} {p : Option Addr} {n c most : Nat} {l : List Nat} (hl : l.length = n) (hn : n ≤ 100000) (r : Ru w p (ints l)) (x : Nat) (hm : ¬ (wout l x).length + 1 ≤ most) :
    Calls Try.prog 139 #[rg (most : Int) p n c, .int .u32 (x : Int)] w fun e w' => ∃ q k, e = .returned (.tuple #[rg (most : Int) q (wout l x).length k, .int .u32 ((x :: wout l x).getLastD 0 : Int), .bool true]) ∧ w'.ownsRow w.heap.size 38 1 (.slice q (wout l x).length k) (wout l x).length ((ints (x :: wout l x).dropLast).map (Value.int .u32)) ∧ Below w.heap.size w w' := by
  obtain ⟨i0, hi0, hz0, hz1, hz2⟩ := u_parts
  have HW := Lib.hid (fun (v : World) (hb : Below w.heap.size w v) => rwithout_any (c := c) hl (by omega) (r.below hb) x)
  have hwl := wout_len l x
  obtain ⟨m, hwm⟩ : ∃ m, (wout l x).length = m := ⟨_, rfl⟩
  have HM := Lib.hid (show (wout l x).length = m ∧ m ≤ 100000 ∧ ¬ m + 1 ≤ most from ⟨hwm, by omega, by omega⟩)
  rw [hwm] at HW ⊢
  have hmm : ¬ ((m : Int) + 1) ≤ (most : Int) := by omega
  clear hl hn r hm hwl hwm
  go_enter Try.func139, Try.ntmps139
  go_wp2_with fail
  have hb23 : Below ((w.alloc (.cells #[.int .i64 (most : Int), .slice p n c] 106)).alloc (.cells #[.int .i64 0, .slice none 0 0] 106)).heap.size ((w.alloc (.cells #[.int .i64 (most : Int), .slice p n c] 106)).alloc (.cells #[.int .i64 0, .slice none 0 0] 106)) (((w.alloc (.cells #[.int .i64 (most : Int), .slice p n c] 106)).alloc (.cells #[.int .i64 0, .slice none 0 0] 106)).alloc (.cells #[.int .u32 (x : Int)] 38)) := by go_grown
  have b3 : Below w.heap.size w (((w.alloc (.cells #[.int .i64 (most : Int), .slice p n c] 106)).alloc (.cells #[.int .i64 0, .slice none 0 0] 106)).alloc (.cells #[.int .u32 (x : Int)] 38)) := by go_grown
  have htb := two_boxes (w := w) (most := (most : Int)) (v := .slice p n c)
  have hs2 : ((w.alloc (.cells #[.int .i64 (most : Int), .slice p n c] 106)).alloc (.cells #[.int .i64 0, .slice none 0 0] 106)).heap.size = w.heap.size + 1 + 1 := by simp
  have X3 := Lib.hid (show (((w.alloc (.cells #[.int .i64 (most : Int), .slice p n c] 106)).alloc (.cells #[.int .i64 0, .slice none 0 0] 106)).alloc (.cells #[.int .u32 (x : Int)] 38)).heap[w.heap.size]? = some (.cells #[.int .i64 (most : Int), .slice p n c] 106 (0, 0)) ∧ (((w.alloc (.cells #[.int .i64 (most : Int), .slice p n c] 106)).alloc (.cells #[.int .i64 0, .slice none 0 0] 106)).alloc (.cells #[.int .u32 (x : Int)] 38)).heap[w.heap.size + 1]? = some (.cells #[.int .i64 0, .slice none 0 0] 106 (0, 0)) ∧ Below w.heap.size w (((w.alloc (.cells #[.int .i64 (most : Int), .slice p n c] 106)).alloc (.cells #[.int .i64 0, .slice none 0 0] 106)).alloc (.cells #[.int .u32 (x : Int)] 38)) from ⟨(hb23.block _ (by omega)).trans htb.1, (hb23.block _ (by omega)).trans htb.2, b3⟩)
  have one := App.one_own ((w.alloc (.cells #[.int .i64 (most : Int), .slice p n c] 106)).alloc (.cells #[.int .i64 0, .slice none 0 0] 106)) (.int .u32 (x : Int)) 38
  rw [hs2] at one
  have hs3 : (((w.alloc (.cells #[.int .i64 (most : Int), .slice p n c] 106)).alloc (.cells #[.int .i64 0, .slice none 0 0] 106)).alloc (.cells #[.int .u32 (x : Int)] 38)).heap.size = w.heap.size + 1 + 1 + 1 := by simp
  clear hb23 b3 htb hs2
  generalize (((w.alloc (.cells #[.int .i64 (most : Int), .slice p n c] 106)).alloc (.cells #[.int .i64 0, .slice none 0 0] 106)).alloc (.cells #[.int .u32 (x : Int)] 38)) = w3 at *
  refine (HW.out _ X3.out.2.2).mono ?_
  rintro e w4 ⟨u, rfl, hrow, b4⟩
  have hs4 := b4.size
  have ONE := Lib.hid (row_kp one fun g hg => b4.block g (by have := (one.lt g hg).2; omega))
  obtain ⟨q1, k1, rfl, rg1, len1⟩ := App.own_rg hrow
  have RG1 := Lib.hid rg1
  have LEN1 := Lib.hid len1
  have X4 := Lib.hid (show w4.heap[w.heap.size]? = some (.cells #[.int .i64 (most : Int), .slice p n c] 106 (0, 0)) ∧ w4.heap[w.heap.size + 1]? = some (.cells #[.int .i64 0, .slice none 0 0] 106 (0, 0)) ∧ Below w.heap.size w w4 ∧ w.heap.size + 1 + 1 ≤ w4.heap.size from ⟨(b4.block _ (by omega)).trans X3.out.1, (b4.block _ (by omega)).trans X3.out.2.1, X3.out.2.2.trans (b4.mono (by omega)), by omega⟩)
  clear one rg1 len1 hrow b4 hs4 hs3 X3
  obtain ⟨L, hL⟩ : ∃ L, 1 + m = L := ⟨_, rfl⟩
  have hLm : ¬ (L : Int) ≤ (most : Int) := by have := HM.out; omega
  have HLL := Lib.hid hL
  clear hL
  go_upto_region 2 with (first
    | (at_builtin; refine App.wpList_appG rfl (.tmp 9) (.tmp 13) 39 rfl (w.heap.size + 1 + 1) 38 i0 (.int .u32 0) 4 Try.underlying39 hi0 hz0 hz1 hz2 rfl _ 1 [.int .u32 (x : Int)] rfl ONE.out q1 m k1 _ rfl LEN1.out RG1.out (u32_cell1 _) (by have := HM.out; omega) (by omega) X4.out.2.2.2 ?_; intro v5 w5 o5 b5 s5; rw [HLL.out] at o5; obtain ⟨q, kc, rfl, -, -⟩ := App.own_form o5; have X5 := Lib.hid (show w5.heap[w.heap.size]? = some (.cells #[.int .i64 (most : Int), .slice p n c] 106 (0, 0)) ∧ w5.heap[w.heap.size + 1]? = some (.cells #[.int .i64 0, .slice none 0 0] 106 (0, 0)) ∧ Below w.heap.size w w5 from ⟨(b5.block _ (by omega)).trans X4.out.1, (b5.block _ (by omega)).trans X4.out.2.1, X4.out.2.2.1.trans (b5.mono (by omega))⟩); have HROW := Lib.hid o5; (obtain ⟨f0, f1, f2, f3⟩ : w5.cell? ⟨w.heap.size, 0, none⟩ = some (.int .i64 (most : Int)) ∧ w5.cell? ⟨w.heap.size, 1, none⟩ = some (.slice p n c) ∧ w5.cell? ⟨w.heap.size + 1, 0, none⟩ = some (.int .i64 0) ∧ w5.cell? ⟨w.heap.size + 1, 1, none⟩ = some (.slice none 0 0) := by have h1 := X5.out.1; have h2 := X5.out.2.1; refine ⟨?_, ?_, ?_, ?_⟩ <;> simp [World.cell?, h1, h2]); (obtain ⟨g0, g1⟩ : (∀ j, w5.frozen? ⟨w.heap.size, j, none⟩ = false) ∧ (∀ j, w5.frozen? ⟨w.heap.size + 1, j, none⟩ = false) := by have h1 := X5.out.1; have h2 := X5.out.2.1; refine ⟨fun j => ?_, fun j => ?_⟩ <;> simp [World.frozen?, h1, h2]); clear o5 b5 s5)
    | fail)
  have hb6 := X5.out.2.2.setCell (p := ⟨w.heap.size, 1, none⟩) (Nat.le_refl _) (.slice q L kc)
  have hx6 := heap_set (j := 1) X5.out.1 (.slice q L kc)
  have hx7 := (Below.heap_setCell w5 ⟨w.heap.size, 1, none⟩ (.slice q L kc) (w.heap.size + 1) (by show w.heap.size + 1 ≠ w.heap.size; omega)).trans X5.out.2.1
  have row6 : (w5.setCell ⟨w.heap.size, 1, none⟩ (.slice q L kc)).ownsRow (w.heap.size + 1 + 1) 38 1 (.slice q L kc) L ((ints (x :: wout l x)).map (Value.int .u32)) :=
    row_kp HROW.out fun g hg => Below.heap_setCell _ ⟨w.heap.size, 1, none⟩ _ g (by have h1 := (HROW.out.lt g hg).1; show g ≠ w.heap.size; omega)
  have hs6 : w.heap.size + 1 + 1 ≤ (w5.setCell ⟨w.heap.size, 1, none⟩ (.slice q L kc)).heap.size := by
    have := (Array.getElem?_eq_some_iff.1 hx7).1
    omega
  generalize w5.setCell ⟨w.heap.size, 1, none⟩ (.slice q L kc) = w6 at *
  clear f0 f1 f2 f3 g0 g1
  have hll : (x :: wout l x).length = L := by rw [List.length_cons, HM.out.1]; have := HLL.out; omega
  obtain ⟨p6, c6, hv6, ru6, -⟩ := row_ruH row6 (by rw [ints_len]; exact hll)
  cases hv6
  obtain ⟨y, rfl, -, -⟩ := ru6 0 (x : Int) rfl
  obtain ⟨z, hz⟩ : ∃ z : Int, (((x :: wout l x).getLastD 0 : Nat) : Int) = z := ⟨_, rfl⟩
  have hlast : (ints (x :: wout l x))[m]? = some z := by
    rw [← hz, gints_at (s := (x :: wout l x).getLastD 0)]
    have hm1 : m = (x :: wout l x).length - 1 := by rw [List.length_cons, HM.out.1]; omega
    rw [hm1, ← List.getLast?_eq_getElem?, List.getLastD_eq_getLast?]
    cases h : (x :: wout l x).getLast? with
    | none => simp at h
    | some u => rfl
  obtain ⟨y', hy', -, e0⟩ := ru6 m z hlast
  cases hy'
  have RT := Lib.hid (ru_app (show Ru w6 (some y) (ints (x :: wout l x).dropLast) by
    have h := ru6.take m
    have e : (ints (x :: wout l x)).take m = ints (x :: wout l x).dropLast := by unfold ints; rw [← List.map_take, List.dropLast_eq_take, List.length_cons, HM.out.1]; rfl
    rwa [e] at h))
  have HLT := Lib.hid (show ((ints (x :: wout l x).dropLast).map (Value.int .u32)).length = m by rw [List.length_map, ints_len, List.length_dropLast, List.length_cons, HM.out.1]; rfl)
  have HZ := Lib.hid hz
  have hcap := App.own_form row6
  obtain ⟨_, _, hcv, hc1, hc2⟩ := hcap
  cases hcv
  have hLM : L = m + 1 := by have := HLL.out; omega
  have wsub : IntKind.i64.wrap ((L : Int) - 1) = (m : Int) := by rw [IntWalk.i64_in _ (by have := HM.out.2.1; omega)]; omega
  have i1 : (m : Int) < (L : Int) := by omega
  have i2 : (m : Int) ≤ (L : Int) := by omega
  have i5 : (0 : Int) ≤ (m : Int) := by omega
  have X6 := Lib.hid (show w6.heap[w.heap.size]? = some (.cells #[.int .i64 (most : Int), .slice (some y) L kc] 106 (0, 0)) ∧ w6.heap[w.heap.size + 1]? = some (.cells #[.int .i64 0, .slice none 0 0] 106 (0, 0)) ∧ Below w.heap.size w w6 ∧ w.heap.size + 1 + 1 ≤ w6.heap.size from ⟨hx6, hx7, hb6, hs6⟩)
  obtain ⟨f0, f1, f2, f3⟩ : w6.cell? ⟨w.heap.size, 0, none⟩ = some (.int .i64 (most : Int)) ∧ w6.cell? ⟨w.heap.size, 1, none⟩ = some (.slice (some y) L kc) ∧ w6.cell? ⟨w.heap.size + 1, 0, none⟩ = some (.int .i64 0) ∧ w6.cell? ⟨w.heap.size + 1, 1, none⟩ = some (.slice none 0 0) := by have h1 := X6.out.1; have h2 := X6.out.2.1; refine ⟨?_, ?_, ?_, ?_⟩ <;> simp [World.cell?, h1, h2]
  clear hb6 hx6 hx7 row6 hs6 hll hlast ru6 hz hLM HROW X5
  go_wp2_with (first
    | (at_builtin; refine App.wpList_appG rfl (.const (.slice none 0 0)) (.tmp 37) 39 rfl (w.heap.size + 1 + 1) 38 i0 (.int .u32 0) 4 Try.underlying39 hi0 hz0 hz1 hz2 rfl _ 0 [] rfl (World.ownsRow_nil _ _ _ _) (some y) m kc _ rfl HLT.out RT.out (u32_cell1 _) (by have := HM.out; omega) (by omega) X6.out.2.2.2 ?_; intro v7 w7 o7 b7 s7; rw [Nat.zero_add, List.nil_append] at o7; obtain ⟨q7, k7, rfl, -, -⟩ := App.own_form o7; have X7 := Lib.hid (show w7.heap[w.heap.size]? = some (.cells #[.int .i64 (most : Int), .slice (some y) L kc] 106 (0, 0)) ∧ w7.heap[w.heap.size + 1]? = some (.cells #[.int .i64 0, .slice none 0 0] 106 (0, 0)) ∧ Below w.heap.size w w7 from ⟨(b7.block _ (by omega)).trans X6.out.1, (b7.block _ (by omega)).trans X6.out.2.1, X6.out.2.2.1.trans (b7.mono (by omega))⟩); have HROW := Lib.hid o7; (obtain ⟨f0, f1, f2, f3⟩ : w7.cell? ⟨w.heap.size, 0, none⟩ = some (.int .i64 (most : Int)) ∧ w7.cell? ⟨w.heap.size, 1, none⟩ = some (.slice (some y) L kc) ∧ w7.cell? ⟨w.heap.size + 1, 0, none⟩ = some (.int .i64 0) ∧ w7.cell? ⟨w.heap.size + 1, 1, none⟩ = some (.slice none 0 0) := by have h1 := X7.out.1; have h2 := X7.out.2.1; refine ⟨?_, ?_, ?_, ?_⟩ <;> simp [World.cell?, h1, h2]); (obtain ⟨g0, g1⟩ : (∀ j, w7.frozen? ⟨w.heap.size, j, none⟩ = false) ∧ (∀ j, w7.frozen? ⟨w.heap.size + 1, j, none⟩ = false) := by have h1 := X7.out.1; have h2 := X7.out.2.1; refine ⟨fun j => ?_, fun j => ?_⟩ <;> simp [World.frozen?, h1, h2]); clear o7 b7 s7)
    | fail)
  have hbl := ((X7.out.2.2.setCell (p := ⟨w.heap.size, 1, none⟩) (Nat.le_refl _) (.slice q7 m k7)).setCell (p := ⟨w.heap.size + 1, 0, none⟩) (by show w.heap.size ≤ w.heap.size + 1; omega) (.int .i64 (most : Int))).setCell (p := ⟨w.heap.size + 1, 1, none⟩) (by show w.heap.size ≤ w.heap.size + 1; omega) (.slice q7 m k7)
  have hfin := heap_set (j := 1) (heap_set (j := 0) ((Below.heap_setCell w7 ⟨w.heap.size, 1, none⟩ (.slice q7 m k7) (w.heap.size + 1) (by show w.heap.size + 1 ≠ w.heap.size; omega)).trans X7.out.2.1) (.int .i64 (most : Int))) (.slice q7 m k7)
  have hrw : (((w7.setCell ⟨w.heap.size, 1, none⟩ (.slice q7 m k7)).setCell ⟨w.heap.size + 1, 0, none⟩ (.int .i64 (most : Int))).setCell ⟨w.heap.size + 1, 1, none⟩ (.slice q7 m k7)).ownsRow w.heap.size 38 1 (.slice q7 m k7) m ((ints (x :: wout l x).dropLast).map (Value.int .u32)) := by
    refine App.own_lift (row_kp HROW.out fun g hg => ?_) (by omega)
    have h1 := (HROW.out.lt g hg).1
    have n1 : g ≠ w.heap.size + 1 := by omega
    have n2 : g ≠ w.heap.size := by omega
    rw [Below.heap_setCell _ ⟨w.heap.size + 1, 1, none⟩ _ g n1, Below.heap_setCell _ ⟨w.heap.size + 1, 0, none⟩ _ g n1, Below.heap_setCell _ ⟨w.heap.size, 1, none⟩ _ g n2]
  generalize ((w7.setCell ⟨w.heap.size, 1, none⟩ (.slice q7 m k7)).setCell ⟨w.heap.size + 1, 0, none⟩ (.int .i64 (most : Int))).setCell ⟨w.heap.size + 1, 1, none⟩ (.slice q7 m k7) = w8 at *
  obtain ⟨z0, z1⟩ : w8.cell? ⟨w.heap.size + 1, 0, none⟩ = some (.int .i64 (most : Int)) ∧ w8.cell? ⟨w.heap.size + 1, 1, none⟩ = some (.slice q7 m k7) := by constructor <;> simp [World.cell?, hfin]
  exact bodyPost_ret (v := .tuple #[rg (most : Int) q7 m k7, .int .u32 z, .bool true]) (by simp [results, Try.results139, go_sem, z0, z1]) rfl ⟨q7, k7, by rw [HZ.out], hrw, hbl⟩
set_option maxRecDepth 100000 in
theorem radd_any {w : World} {p : Option Addr} {n c most : Nat} {l : List Nat} (hl : l.length = n) (hn : n ≤ 100000) (r : Ru w p (ints l)) (x : Nat) :
    Calls Try.prog 139 #[rg (most : Int) p n c, .int .u32 (x : Int)] w fun e w' => ∃ q k, e = .returned (.tuple #[rg (most : Int) q (addR (most : Int) l x).1.length k, .int .u32 ((addR (most : Int) l x).2.1 : Int), .bool (addR (most : Int) l x).2.2]) ∧ w'.ownsRow w.heap.size 38 1 (.slice q (addR (most : Int) l x).1.length k) (addR (most : Int) l x).1.length ((ints (addR (most : Int) l x).1).map (Value.int .u32)) ∧ Below w.heap.size w w' := by
  by_cases hm : (wout l x).length + 1 ≤ most
  · have e : addR (most : Int) l x = (x :: wout l x, 0, false) := by unfold addR; rw [if_pos (by omega)]
    rw [e]
    exact radd_low hl hn r x hm
  · have e : addR (most : Int) l x = ((x :: wout l x).dropLast, (x :: wout l x).getLastD 0, true) := by unfold addR; rw [if_neg (by omega)]
    rw [e]
    have h := radd_high (most := most) (c := c) hl hn r x hm
    have e2 : ((x :: wout l x).dropLast).length = (wout l x).length := by rw [List.length_dropLast, List.length_cons]; rfl
    simp only [e2]
    exact h
end Go.Proofs.Ytjcabdnjimcdgaa.Gho
namespace Go.Proofs.Ytjcabdnjimcdgaa.Gho
open Go Go.RowKit Kit Go.Maps Lnk
/-- the loop of Resize: t keys are left -/
structure Rl (w wr : World) (p0 : Option Addr) (M : Int) (l : List Nat) (t : Nat) (p : Option Addr) (c : Nat) (ov : Value) : Prop where
  nb : ∀ y, p = some y → y.block < wr.heap.size ∧ (p = p0 ∨ w.heap.size + 1 + 1 ≤ y.block)
  bx : wr.heap[w.heap.size]? = some (.cells #[.int .i64 M, .slice p t c] 106 (0, 0))
  b1 : wr.heap[w.heap.size + 1]? = some (.cells #[.int .i64 0, .slice none 0 0] 106 (0, 0))
  ru : Ru wr p (ints (l.take t))
  row : wr.ownsRow (w.heap.size + 1 + 1) 38 1 ov (l.length - t) ((ints (l.drop t).reverse).map (Value.int .u32))
  bl : Below w.heap.size w wr
  ne : ∀ y g, p = some y → ov.ownBlock = some g → y.block ≠ g
  tl : t ≤ l.length
  tc : t ≤ c
theorem Ru.kpH {w w' : World} {p : Option Addr} {l : List Int} {bad : Nat → Prop} (h : Ru w p l) (hk : Kp bad w w') (hb : ∀ y, p = some y → ¬ bad y.block) : Ru w' p l := fun i x hx => by
  obtain ⟨y, h0, h1, h2⟩ := h i x hx
  refine ⟨y, h0, Nat.lt_of_lt_of_le h1 hk.size, (World.cell?_of_block (a := y.add i) ?_).trans h2⟩
  rw [show (y.add i).block = y.block by unfold Addr.add; split <;> rfl]
  exact hk.block _ h1 (hb y h0)
theorem Rl.cells {w wr : World} {p0 : Option Addr} {M : Int} {l : List Nat} {t : Nat} {p : Option Addr} {c : Nat} {ov : Value} (h : Rl w wr p0 M l t p c ov) : wr.cell? ⟨w.heap.size, 0, none⟩ = some (.int .i64 M) ∧ wr.cell? ⟨w.heap.size, 1, none⟩ = some (.slice p t c) ∧ wr.cell? ⟨w.heap.size + 1, 0, none⟩ = some (.int .i64 0) ∧ wr.cell? ⟨w.heap.size + 1, 1, none⟩ = some (.slice none 0 0) ∧ (∀ j, wr.frozen? ⟨w.heap.size, j, none⟩ = false) ∧ (∀ j, wr.frozen? ⟨w.heap.size + 1, j, none⟩ = false) := by
  have h1 := h.bx
  have h2 := h.b1
  refine ⟨?_, ?_, ?_, ?_, fun j => ?_, fun j => ?_⟩ <;> simp [World.cell?, World.frozen?, h1, h2]
set_option maxRecDepth 100000 in
set_option maxHeartbeats 2000000 in
theorem rresize_any {w : World} {p : Option Addr} {n c : Nat} {l : List Nat} (most : Int) (M : Nat) (hM : M ≤ 4096) (hl : l.length = n) (hn : n ≤ 100000) (hc : n ≤ c) (hpb : ∀ y, p = some y → y.block < w.heap.size) (r : Ru w p (ints l)) :
    Calls Try.prog 142 #[rg most p n c, .int .i64 (M : Int)] w fun e w' => ∃ q k ov, e = .returned (.tuple #[rg (M : Int) q (min M l.length) k, ov, .int .i64 0]) ∧ min M l.length ≤ k ∧ Ru w' q (ints (l.take M)) ∧ (∀ y, q = some y → y.block < w'.heap.size ∧ (q = p ∨ w.heap.size ≤ y.block)) ∧ w'.ownsRow w.heap.size 38 1 ov (l.length - M) ((ints (l.drop M).reverse).map (Value.int .u32)) ∧ Below w.heap.size w w' := by
  have HI := Lib.hid (show M ≤ 4096 ∧ l.length = n ∧ n ≤ 100000 ∧ n ≤ c from ⟨hM, hl, hn, hc⟩)
  have g0 : ¬ (M : Int) < 0 := by omega
  have g1 : ¬ 4096 < (M : Int) := by omega
  have HR := Lib.hid (And.intro r hpb)
  obtain ⟨i0, hi0, hz0, hz1, hz2⟩ := u_parts
  clear hM hl hn hc r hpb
  go_enter Try.func142, Try.ntmps142
  go_wp2_with fail
  have hb2 : Below w.heap.size w ((w.alloc (.cells #[.int .i64 (M : Int), .slice p n c] 106)).alloc (.cells #[.int .i64 0, .slice none 0 0] 106)) := by go_grown
  have htb := two_boxes (w := w) (most := (M : Int)) (v := .slice p n c)
  generalize (w.alloc (.cells #[.int .i64 (M : Int), .slice p n c] 106)).alloc (.cells #[.int .i64 0, .slice none 0 0] 106) = w2 at *
  have R0 := Lib.hid (show Rl w w2 p (M : Int) l n p c (.slice none 0 0) by
    obtain ⟨h1, h2, h3, h4⟩ := HI.out
    refine ⟨fun y hy => ⟨Nat.lt_of_lt_of_le (HR.out.2 y hy) hb2.size, .inl rfl⟩, htb.1, htb.2, ?_, ?_, hb2, fun y g _ hg => (by cases hg), by omega, h4⟩
    · rw [List.take_of_length_le (by omega)]; exact HR.out.1.below hb2
    · rw [List.drop_of_length_le (by omega), show l.length - n = 0 by omega]
      exact World.ownsRow_nil _ _ _ _)
  have HPB := Lib.hid HR.out.2
  clear hb2 htb HR
  go_loopg [7, 8, 9, 10] n (fun t ov _ _ _ wr => ∃ (c' : Nat) (p' : Option Addr), Hid (Rl w wr p (M : Int) l t p' c' ov) ∧ Hid (M ≤ t ∨ t = n))
  case atStart => exact ⟨c, p, R0, Lib.hid (.inr rfl)⟩
  case round =>
    obtain ⟨c', p', HL, HM⟩ := hrel
    clear R0
    obtain ⟨f0, f1, f2, f3, f4, f5⟩ := HL.out.cells
    by_cases hlt : M < gk
    · obtain ⟨m, rfl⟩ : ∃ m, gk = m + 1 := ⟨gk - 1, by omega⟩
      have htl := HL.out.tl
      obtain ⟨x, hx⟩ : ∃ x, l[m]? = some x := ⟨l[m]'(by omega), List.getElem?_eq_getElem _⟩
      have hts : l.take (m + 1) = l.take m ++ [x] := by rw [List.take_add_one, hx]; rfl
      have hru := HL.out.ru
      rw [hts] at hru
      have HP := Lib.hid (rpop_some (M : Int) (show (l.take m).length = m by rw [List.length_take]; omega) (by have := HI.out; omega) HL.out.tc hru)
      have HX := Lib.hid hx
      have hlt' : (M : Int) < ((m + 1 : Nat) : Int) := by omega
      obtain ⟨T, hT⟩ : ∃ T, m + 1 = T := ⟨_, rfl⟩
      rw [hT] at HP f1 hlt'
      clear htl hx hts hru
      go_wp2_with fail
      refine HP.out.mono ?_
      rintro e w4 ⟨q, k, rfl, hrow, b4⟩
      obtain ⟨_, _, hcv, -, hqk⟩ := App.own_form hrow
      cases hcv
      have R4 := Lib.hid (show w4.heap[w.heap.size]? = some (.cells #[.int .i64 (M : Int), .slice p' T c'] 106 (0, 0)) ∧ w4.heap[w.heap.size + 1]? = some (.cells #[.int .i64 0, .slice none 0 0] 106 (0, 0)) ∧ Below w.heap.size w w4 ∧ w.heap.size + 1 + 1 ≤ wr.heap.size ∧ wr.heap.size ≤ w4.heap.size from by
        have h1 := (Array.getElem?_eq_some_iff.1 HL.out.b1).1
        have h2 := HL.out.bx
        rw [hT] at h2
        exact ⟨(b4.block _ (by omega)).trans h2, (b4.block _ (by omega)).trans HL.out.b1, HL.out.bl.trans (b4.mono (by omega)), by omega, b4.size⟩)
      have ROW := Lib.hid hrow
      have OV := Lib.hid (row_kp HL.out.row fun g hg => b4.block g (HL.out.row.lt g hg).2)
      have OVL := Lib.hid (fun g hg => (HL.out.row.lt g hg).2)
      obtain ⟨d0, d1, d2, d3, d4, d5⟩ : w4.cell? ⟨w.heap.size, 0, none⟩ = some (.int .i64 (M : Int)) ∧ w4.cell? ⟨w.heap.size, 1, none⟩ = some (.slice p' T c') ∧ w4.cell? ⟨w.heap.size + 1, 0, none⟩ = some (.int .i64 0) ∧ w4.cell? ⟨w.heap.size + 1, 1, none⟩ = some (.slice none 0 0) ∧ (∀ j, w4.frozen? ⟨w.heap.size, j, none⟩ = false) ∧ (∀ j, w4.frozen? ⟨w.heap.size + 1, j, none⟩ = false) := by have h1 := R4.out.1; have h2 := R4.out.2.1; refine ⟨?_, ?_, ?_, ?_, fun j => ?_, fun j => ?_⟩ <;> simp [World.cell?, World.frozen?, h1, h2]
      have b5 : Below w4.heap.size w4 (w4.alloc (.cells #[.int .i64 (M : Int), .slice q m k] 106)) := by go_grown
      have h50 := (b5.block w.heap.size (by have := R4.out; omega)).trans R4.out.1
      obtain ⟨e0, e1, e2⟩ : (w4.alloc (.cells #[.int .i64 (M : Int), .slice q m k] 106)).cell? ⟨w.heap.size, 0, none⟩ = some (.int .i64 (M : Int)) ∧ (w4.alloc (.cells #[.int .i64 (M : Int), .slice q m k] 106)).cell? ⟨w.heap.size, 1, none⟩ = some (.slice p' T c') ∧ (∀ j, (w4.alloc (.cells #[.int .i64 (M : Int), .slice q m k] 106)).frozen? ⟨w.heap.size, j, none⟩ = false) := by refine ⟨?_, ?_, fun j => ?_⟩ <;> simp only [World.cell?, World.frozen?, h50] <;> simp
      have H50 := Lib.hid h50
      have B5 := Lib.hid b5
      clear f0 f1 f2 f3 f4 f5 HP hrow b4 d2 d3 d4 d5 h50 b5
      go_upto_region 8 with fail
      have h8a := heap_set (j := 1) (heap_set (j := 0) H50.out (.int .i64 (M : Int))) (.slice q m k)
      have hk8 : Kp (fun j => j = w.heap.size) w4 (((w4.alloc (.cells #[.int .i64 (M : Int), .slice q m k] 106)).setCell ⟨w.heap.size, 0, none⟩ (.int .i64 (M : Int))).setCell ⟨w.heap.size, 1, none⟩ (.slice q m k)) := by
        have hb := B5.out
        refine ⟨hb.os, hb.tape, hb.output, by simp only [World.size_setCell]; exact hb.size, fun j hj hn => ?_⟩
        rw [Below.heap_setCell _ ⟨w.heap.size, 1, none⟩ _ j hn, Below.heap_setCell _ ⟨w.heap.size, 0, none⟩ _ j hn]
        exact hb.block j hj
      have hsz8 : (((w4.alloc (.cells #[.int .i64 (M : Int), .slice q m k] 106)).setCell ⟨w.heap.size, 0, none⟩ (.int .i64 (M : Int))).setCell ⟨w.heap.size, 1, none⟩ (.slice q m k)).heap.size = w4.heap.size + 1 := by simp
      generalize ((w4.alloc (.cells #[.int .i64 (M : Int), .slice q m k] 106)).setCell ⟨w.heap.size, 0, none⟩ (.int .i64 (M : Int))).setCell ⟨w.heap.size, 1, none⟩ (.slice q m k) = w8 at *
      obtain ⟨ova, ovc, rfl, -, -⟩ := App.own_form OV.out
      have hov : ∀ g, (Value.slice ova (l.length - (m + 1)) ovc).ownBlock = some g → w.heap.size + 1 + 1 ≤ g ∧ g < wr.heap.size := fun g hg => ⟨(OV.out.lt g hg).1, OVL.out g hg⟩
      have X8 := Lib.hid (show w8.heap[w.heap.size]? = some (.cells #[.int .i64 (M : Int), .slice q m k] 106 (0, 0)) ∧ w8.heap[w.heap.size + 1]? = some (.cells #[.int .i64 0, .slice none 0 0] 106 (0, 0)) ∧ Below w.heap.size w w8 ∧ w8.ownsRow wr.heap.size 38 1 (.slice q m k) m ((ints (l.take m)).map (Value.int .u32)) ∧ w.heap.size + 1 + 1 ≤ wr.heap.size ∧ wr.heap.size ≤ w8.heap.size from by
        obtain ⟨h1, h2, h3, h4, h5⟩ := R4.out
        refine ⟨h8a, (hk8.block _ (by omega) (by omega)).trans h2, ?_, row_kp ROW.out fun g hg => hk8.block g (ROW.out.lt g hg).2 (by have := (ROW.out.lt g hg).1; omega), h4, by have := hk8.size; omega⟩
        exact ⟨hk8.os.trans h3.os, hk8.tape.trans h3.tape, hk8.output.trans h3.output, Nat.le_trans h3.size hk8.size, fun j hj => (hk8.block j (by omega) (by omega)).trans (h3.block j hj)⟩)
      have O8 := Lib.hid (row_kp OV.out (w' := w8) fun g hg => hk8.block g (OV.out.lt g hg).2 (by have := (hov g hg).1; omega))
      have HOV := Lib.hid hov
      have HRW := Lib.hid (O8.out.alloc (.cells #[.int .u32 (x : Int)] 38))
      have B9 := Lib.hid (box_below w8 #[.int .u32 (x : Int)] 38)
      clear d0 d1 e0 e1 e2 h8a hk8 hsz8 hov H50 B5 R4 ROW OV OVL
      go_wp2_with (at_builtin; refine wpList_append_own_at _ rfl (.tmp 32) (.tmp 34) 39 rfl (w.heap.size + 1 + 1) 38 i0 (.int .u32 0) 1 4 Try.underlying39 hi0 hz0 hz1 hz2 rfl (by decide) (.slice ova (l.length - (m + 1)) ovc) (l.length - (m + 1)) ((ints (l.drop (m + 1)).reverse).map (Value.int .u32)) rfl HRW.out ⟨w8.heap.size, 0, none⟩ 1 1 [.int .u32 (x : Int)] rfl rfl (cell_one_new _ _ _) (by simp [Value.oneCell']) (by have := HI.out; unfold maxLen; omega) (by have := HI.out; omega) (by have := X8.out.2.2.2.2; simp; omega) ?_; intro v' w9 ho9 hg9 hn9 hv9; have HG := Lib.hid (show w9.ownsRow (w.heap.size + 1 + 1) 38 1 v' (l.length - (m + 1) + 1) ((ints (l.drop (m + 1)).reverse).map (Value.int .u32) ++ [.int .u32 (x : Int)]) ∧ (w8.alloc (.cells #[.int .u32 (x : Int)] 38)).grownBy w9 (Value.slice ova (l.length - (m + 1)) ovc).ownBlock ∧ (v'.ownBlock = (Value.slice ova (l.length - (m + 1)) ovc).ownBlock ∨ v'.ownBlock = some (w8.alloc (.cells #[.int .u32 (x : Int)] 38)).heap.size) from ⟨ho9, hg9, hv9⟩); clear ho9 hg9 hn9 hv9)
      go_roundg m
      case measure => omega
      case rel =>
        obtain ⟨g1, g2, g3⟩ := HG.out
        obtain ⟨h1, h2, h3, h4, h5, h6⟩ := X8.out
        have hlm := (List.getElem?_eq_some_iff.1 HX.out).1
        have b9 := B9.out
        have hs9 := b9.size
        have hs10 := g2.size
        have hkeep : ∀ j, j < w8.heap.size → (∀ g, (Value.slice ova (l.length - (m + 1)) ovc).ownBlock = some g → j ≠ g) → w9.heap[j]? = w8.heap[j]? := fun j hj hne => (g2.block j (by omega) (fun e => hne j e.symm rfl)).trans (b9.block j hj)
        have row9 := row_kp h4 (w' := w9) fun g hg => hkeep g (h4.lt g hg).2 (fun g' hg' => by have := (HOV.out g' hg').2; have := (h4.lt g hg).1; omega)
        obtain ⟨q', c9, hqv, ru9, hqb⟩ := row_ruH row9 (by rw [ints_len, List.length_take]; omega)
        cases hqv
        have hqn : ∀ y, q = some y → y.block < w9.heap.size ∧ (q = p ∨ w.heap.size + 1 + 1 ≤ y.block) := fun y hy => by
          have h7 := hqb y hy
          subst hy
          have h8 := (h4.lt y.block rfl).2
          exact ⟨by omega, .inr (by omega)⟩
        refine ⟨k, q, Lib.hid ⟨hqn, ?_, ?_, ru9, ?_, ?_, ?_, by omega, hqk⟩, Lib.hid (.inl (by omega))⟩
        · exact (hkeep _ (by omega) (fun g hg => by have := (HOV.out g hg).1; omega)).trans h1
        · exact (hkeep _ (by omega) (fun g hg => by have := (HOV.out g hg).1; omega)).trans h2
        · have e1 : l.length - m = l.length - (m + 1) + 1 := by omega
          have e2 : (ints (l.drop m).reverse).map (Value.int .u32) = (ints (l.drop (m + 1)).reverse).map (Value.int .u32) ++ [.int .u32 (x : Int)] := by
            have : l.drop m = x :: l.drop (m + 1) := by rw [List.drop_eq_getElem_cons hlm]; congr 1; exact (List.getElem?_eq_some_iff.1 HX.out).2
            rw [this, List.reverse_cons]
            unfold ints
            simp
          rw [e1, e2]
          exact g1
        · exact ⟨g2.os.trans (b9.os.trans h3.os), g2.tape.trans (b9.tape.trans h3.tape), g2.output.trans (b9.output.trans h3.output), by omega, fun j hj => (hkeep j (by omega) (fun g hg => by have := (HOV.out g hg).1; omega)).trans (h3.block j hj)⟩
        · intro y g hy hg
          have hyb := hqb y hy
          have hylt : y.block < w8.heap.size := by
            subst hy
            exact (h4.lt y.block rfl).2
          rcases g3 with g3 | g3
          · rw [g3] at hg
            have := (HOV.out g hg).2
            omega
          · rw [g3] at hg
            cases hg
            omega
    · have hlt' : ¬ (M : Int) < (gk : Int) := by omega
      have hgn : gk = M ∨ (gk = n ∧ n ≤ M) := by have := HM.out; omega
      have e1 : l.take gk = l.take M ∧ l.drop gk = l.drop M ∧ l.length - gk = l.length - M ∧ gk = min M l.length := by
        obtain ⟨h1, h2, h3, h4⟩ := HI.out
        rcases hgn with rfl | ⟨rfl, h⟩
        · exact ⟨rfl, rfl, rfl, by have := HL.out.tl; omega⟩
        · rw [List.take_of_length_le (by omega), List.take_of_length_le (by omega), List.drop_of_length_le (by omega), List.drop_of_length_le (by omega)]
          exact ⟨rfl, rfl, by omega, by omega⟩
      have E1 := Lib.hid e1
      have L9 := Lib.hid (show w.heap.size + 1 + 1 ≤ wr.heap.size from by have := (Array.getElem?_eq_some_iff.1 HL.out.b1).1; omega)
      clear hlt hgn e1
      go_wp2_with fail
      have hk := HL.out
      have hbl := (hk.bl.setCell (p := ⟨w.heap.size + 1, 0, none⟩) (by show w.heap.size ≤ w.heap.size + 1; omega) (.int .i64 (M : Int))).setCell (p := ⟨w.heap.size + 1, 1, none⟩) (by show w.heap.size ≤ w.heap.size + 1; omega) (.slice p' gk c')
      have hfin := heap_set (j := 1) (heap_set (j := 0) hk.b1 (.int .i64 (M : Int))) (.slice p' gk c')
      have hot : ∀ g, g ≠ w.heap.size + 1 → ((wr.setCell ⟨w.heap.size + 1, 0, none⟩ (.int .i64 (M : Int))).setCell ⟨w.heap.size + 1, 1, none⟩ (.slice p' gk c')).heap[g]? = wr.heap[g]? := fun g hg => by
        rw [Below.heap_setCell _ ⟨w.heap.size + 1, 1, none⟩ _ g hg, Below.heap_setCell _ ⟨w.heap.size + 1, 0, none⟩ _ g hg]
      have hsz : ((wr.setCell ⟨w.heap.size + 1, 0, none⟩ (.int .i64 (M : Int))).setCell ⟨w.heap.size + 1, 1, none⟩ (.slice p' gk c')).heap.size = wr.heap.size := by simp
      generalize (wr.setCell ⟨w.heap.size + 1, 0, none⟩ (.int .i64 (M : Int))).setCell ⟨w.heap.size + 1, 1, none⟩ (.slice p' gk c') = w6 at *
      obtain ⟨z0, z1⟩ : w6.cell? ⟨w.heap.size + 1, 0, none⟩ = some (.int .i64 (M : Int)) ∧ w6.cell? ⟨w.heap.size + 1, 1, none⟩ = some (.slice p' gk c') := by constructor <;> simp [World.cell?, hfin]
      obtain ⟨e1, e2, e3, e4⟩ := E1.out
      refine bodyPost_ret (v := .tuple #[rg (M : Int) p' gk c', u7, .int .i64 0]) (by simp [results, Try.results142, go_sem, z0, z1]) rfl ⟨p', c', u7, by rw [← e4], by rw [← e4]; exact hk.tc, ?_, ?_, ?_, hbl⟩
      · have hk6 : Kp (fun j => j = w.heap.size + 1) wr w6 := ⟨hbl.os.trans hk.bl.os.symm, hbl.tape.trans hk.bl.tape.symm, hbl.output.trans hk.bl.output.symm, by omega, fun j _ hj => hot j hj⟩
        rw [← e1]
        refine Ru.kpH hk.ru hk6 fun y hy => ?_
        have h1 := (hk.nb y hy).2
        rcases h1 with h1 | h1
        · have := HPB.out y (by rw [← h1]; exact hy)
          omega
        · omega
      · intro y hy
        have h1 := hk.nb y hy
        exact ⟨by omega, h1.2.imp id (by omega)⟩
      · have := hk.row
        rw [e2, e3] at this
        refine App.own_lift (row_kp this fun g hg => hot g ?_) (by omega)
        have := (this.lt g hg).1
        omega
end Go.Proofs.Ytjcabdnjimcdgaa.Gho
namespace Go.Proofs.Ytjcabdnjimcdgaa.Gho
open Go Go.RowKit Kit Go.Maps Lnk
set_option maxRecDepth 100000 in
set_option maxHeartbeats 2000000 in
theorem rresize_bad {w : World} {p : Option Addr} {n c : Nat} (most M : Int) (hM : ¬ (0 ≤ M ∧ M ≤ 4096)) :
    Calls Try.prog 142 #[rg most p n c, .int .i64 M] w fun e w' => e = .returned (.tuple #[rg most p n c, .slice none 0 0, .int .i64 2]) ∧ Below w.heap.size w w' := by
  by_cases h0 : M < 0
  · clear hM
    go_enter Try.func142, Try.ntmps142
    go_wp2_with fail
    exact bodyPost_ret (v := .tuple #[rg most p n c, .slice none 0 0, .int .i64 2]) (by simp [results, Try.results142, go_sem]) rfl ⟨rfl, by go_grown⟩
  · have h1 : 4096 < M := by omega
    clear hM
    go_enter Try.func142, Try.ntmps142
    go_wp2_with fail
    exact bodyPost_ret (v := .tuple #[rg most p n c, .slice none 0 0, .int .i64 2]) (by simp [results, Try.results142, go_sem]) rfl ⟨rfl, by go_grown⟩
theorem says_true {e : Ending} {p : Prop} (h : Says e p) (hp : p) : e = .returned (.bool true) := by
  obtain ⟨v, rfl, hv⟩ := h
  cases v with
  | true => rfl
  | false => exact by have := hv.2 hp; cases this
set_option maxRecDepth 100000 in
set_option maxHeartbeats 4000000 in
theorem equal28 {w0 w : World} {b K B : Nat} {most : Int} {keys : List Nat} {X : Nat → Prop} {p : Option Addr} {n c k : Nat} (h : Gx w0 w b K B most keys X) (hl : keys.length = n) (hn : n ≤ 100000) (r : Ru w p (ints keys)) (hk : k < 4294967296) :
    Calls Try.prog 144 #[.pointer (some ⟨b, 0, none⟩), rg most p n c, .int .u32 (k : Int)] w fun e w' => e = .returned (.bool true) ∧ Below w.heap.size w w' := by
  have b0 : Below w.heap.size w (w.alloc (.cells #[.int .i64 most, .slice p n c] 106)) := by go_grown
  have HX := Lib.hid (show (w.alloc (.cells #[.int .i64 most, .slice p n c] 106)).heap[w.heap.size]? = some (.cells #[.int .i64 most, .slice p n c] 106 (0, 0)) from (MapKept.heap_alloc w _).1)
  have HG := Lib.hid (fun u (hb : Below w.heap.size w u) => h.below' hb)
  have HR := Lib.hid (fun u (hb : Below w.heap.size w u) => r.below hb)
  have HI := Lib.hid (show keys.length = n ∧ n ≤ 100000 ∧ k < 4294967296 from ⟨hl, hn, hk⟩)
  have B0 := Lib.hid b0
  obtain ⟨z, hz⟩ : ∃ z : Int, (k : Int) = z := ⟨_, rfl⟩
  have HZ := Lib.hid hz
  rw [hz]
  obtain ⟨t, ht⟩ : ∃ t, decide (k ∈ keys) = t := ⟨_, rfl⟩
  have HT := Lib.hid ht
  have htt : (t == t) = true := by cases t <;> rfl
  clear h r hl hn hk b0 hz ht
  go_enter Try.func144, Try.ntmps144
  go_wp2_with fail
  have hs1 : (w.alloc (.cells #[.int .i64 most, .slice p n c] 106)).heap.size = w.heap.size + 1 := by simp
  generalize w.alloc (.cells #[.int .i64 most, .slice p n c] 106) = w1 at *
  have HS := Lib.hid (fun u (hb : Below w1.heap.size w1 u) => (show u.cell? ⟨w.heap.size, 0, none⟩ = some (.int .i64 most) ∧ u.cell? ⟨w.heap.size, 1, none⟩ = some (.slice p n c) ∧ Hid (Below w1.heap.size w1 u) from by
    have h1 := (hb.block w.heap.size (by omega)).trans HX.out
    refine ⟨?_, ?_, Lib.hid hb⟩ <;> simp [World.cell?, h1]))
  have HB := Lib.hid (fun u (hb : Hid (Below w1.heap.size w1 u)) => B0.out.trans (hb.out.mono (by omega)))
  have T1 := Lib.hid (Below.drew (Below.refl w1.heap.size w1))
  clear HX hs1
  go_region_held3 (fun u => u.cell? ⟨w.heap.size, 0, none⟩ = some (.int .i64 most) ∧ u.cell? ⟨w.heap.size, 1, none⟩ = some (.slice p n c) ∧ Hid (Below w1.heap.size w1 u))
    (first
      | assumption
      | exact ⟨by assumption, by assumption, by assumption⟩
      | exact HS.out _ (Below.drew (Below.refl _ _))
      | fail)
    (first
      | (go_at_call 167; (try rw [← HZ.out]); refine (rhas_any (c := c) most HI.out.1 (by have := HI.out; omega) (HR.out _ (HB.out _ T6)) k).mono ?_; rintro e u7 ⟨rfl, b7⟩; rw [HT.out]; obtain ⟨s1, s2, T7⟩ := HS.out _ (tr T6.out b7); clear b7)
      | (go_at_call 68; rw [← HZ.out]; refine (Gx.has (HG.out _ (HB.out _ T5)) k HI.out.2.2).mono ?_; rintro e u6 ⟨rfl, rfl⟩; rw [HT.out]; have T6 := T5)
      | (go_at_call 62; refine (Gx.bound (HG.out _ (HB.out _ T4))).mono ?_; rintro e u5 ⟨rfl, rfl⟩; have T5 := T4)
      | (go_at_call 63; refine (Gx.len (HG.out _ (HB.out _ T3))).mono ?_; rintro e u4 ⟨rfl, rfl⟩; rw [HI.out.1]; have T4 := T3)
      | (go_at_call 137; refine (rsame_any (l1 := ints keys) (l2 := ints keys) (by rw [ints_len]; exact HI.out.1) (by rw [ints_len]; exact HI.out.1) RK.out (HR.out _ (HB.out _ T2)) (by have := HI.out; omega) (by have := HI.out; omega)).mono ?_; rintro e u3 ⟨hsay, b3⟩; obtain rfl := says_true hsay rfl; obtain ⟨s1, s2, T3⟩ := HS.out _ (tr T2.out b3); clear hsay b3)
      | (go_at_call 64; refine (Gx.keys' (HG.out _ (HB.out _ T1)) (by have := HI.out; omega)).mono ?_; rintro e u2 ⟨u, rfl, hrow, b2⟩; rw [HI.out.1] at hrow; obtain ⟨pk, ck, rfl, rk, -⟩ := row_ruH hrow (by rw [ints_len]; exact HI.out.1); have RK := Lib.hid rk; obtain ⟨s1, s2, T2⟩ := HS.out _ (tr T1.out b2); clear hrow rk b2)
      | fail)
  go_wp2_with fail
  exact bodyPost_ret (v := .bool true) (by simp [results, Try.results144, go_sem]) rfl ⟨rfl, HB.out _ T7⟩
end Go.Proofs.Ytjcabdnjimcdgaa.Gho
