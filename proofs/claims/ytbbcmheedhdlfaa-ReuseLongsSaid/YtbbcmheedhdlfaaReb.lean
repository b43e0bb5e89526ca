/-
  Texts in one: ReuF, ReuG, ReuI, ReuJ.
-/
import Derived.Test.YtbbcmheedhdlfaaRea
import Derived.Test.YtbbcmheedhdlfaaLnkQ
set_option linter.unusedVariables false
set_option linter.unusedSimpArgs false
namespace Go.Proofs.Ytbbcmheedhdlfaa.Reu
open Go Go.RowKit Kit Go.Maps Lnk Lru
theorem Fo.bl {w v : World} {o nm : Nat} {D : List Nat} {lv : Value} {xs : List Int} (h : Fo w v o D nm lv xs) : Below w.heap.size w v := h.row.2
set_option maxRecDepth 100000 in
theorem Distances_long {w : World} {p : Option Addr} {n c : Nat} (hn : 4096 < n) :
    Calls Try.prog 35 #[.slice p n c] w fun e w' => e = .returned (.tuple #[.slice none 0 0, .int .i64 5]) ∧ w = w' := by
  have HF := Lib.hid (follow_long (w := w) (p := p) (c := c) hn)
  clear hn
  go_enter Try.func35, Try.ntmps35
  go_wp2_with fail
  refine HF.out.mono ?_
  rintro e w1 ⟨rfl, rfl⟩
  go_wp2_with fail
  go_returns
  exact ⟨rfl, rfl⟩
set_option maxRecDepth 100000 in
theorem Distances_any {w : World} {p : Option Addr} {n c : Nat} {T : List Nat} (hT : T.length = n) (hn : n ≤ 4096) (hr : Ru w p (ints T)) (hw : ∀ x ∈ T, x < 4294967296) :
    Calls Try.prog 35 #[.slice p n c] w fun e w' => ∃ lv, e = .returned (.tuple #[lv, .int .i64 0]) ∧ w'.ownsRow w.heap.size 3 1 lv n ((dists [] T).map (Value.int .i64)) ∧ Below w.heap.size w w' := by
  have HF := Lib.hid (follow_any (c := c) hT hn hr hw)
  have HL := Lib.hid (show (dists [] T).length = n by rw [dists_len]; exact hT)
  clear hT hn hr hw
  go_enter Try.func35, Try.ntmps35
  go_wp2_with fail
  refine HF.out.mono ?_
  rintro e w1 ⟨o, lv, rfl, fo⟩
  have FO := Lib.hid fo
  clear fo
  go_wp2_with fail
  go_returns
  have h := FO.out.row.1
  rw [HL.out] at h
  exact ⟨_, rfl, h, FO.out.bl⟩
/-- the hits with each size: how often each distance is there; summed up -/
def cnt (ds : List Int) (k : Nat) : Nat := (ds.filter (fun d => d = (k : Int) - 1)).length
def upto (ds : List Int) (k : Nat) : Nat := (ds.filter (fun d => 0 ≤ d ∧ d < (k : Int))).length
theorem upto_zero (ds : List Int) : upto ds 0 = 0 := by
  unfold upto
  rw [List.length_eq_zero_iff, List.filter_eq_nil_iff]
  intro a _ h
  simp at h
  omega
theorem upto_succ (ds : List Int) (k : Nat) : upto ds (k + 1) = upto ds k + cnt ds (k + 1) := by
  unfold upto cnt
  induction ds with
  | nil => rfl
  | cons d ds ih =>
    simp only [List.filter_cons]
    by_cases h1 : 0 ≤ d ∧ d < (k : Int)
    · have h2 : 0 ≤ d ∧ d < ((k + 1 : Nat) : Int) := by omega
      have h3 : ¬ d = ((k + 1 : Nat) : Int) - 1 := by omega
      simp only [h1, h2, h3, decide_true, decide_false, if_true, List.length_cons, and_self]
      simp only [if_false, Bool.false_eq_true]
      omega
    · by_cases h3 : d = ((k + 1 : Nat) : Int) - 1
      · have h2 : 0 ≤ d ∧ d < ((k + 1 : Nat) : Int) := by omega
        rw [if_pos (decide_eq_true h2), if_neg (by simpa using h1), if_pos (decide_eq_true h3), List.length_cons, List.length_cons, ih]
        omega
      · have h2 : ¬ (0 ≤ d ∧ d < ((k + 1 : Nat) : Int)) := by omega
        rw [if_neg (by simpa using h2), if_neg (by simpa using h1), if_neg (by simpa using h3), ih]
theorem cnt_snoc (ds : List Int) (d : Int) (k : Nat) : cnt (ds ++ [d]) k = cnt ds k + if d = (k : Int) - 1 then 1 else 0 := by
  unfold cnt
  rw [List.filter_append, List.length_append]
  by_cases h : d = (k : Int) - 1
  · simp [h]
  · simp [h]
end Go.Proofs.Ytbbcmheedhdlfaa.Reu
namespace Go.Proofs.Ytbbcmheedhdlfaa.Reu
open Go Go.RowKit Kit Go.Maps Lnk Lru
theorem nxt_ge (D : List Nat) (k : Nat) : D.length ≤ (nxt D k).length := by
  unfold nxt
  rw [List.length_append, List.length_singleton]
  by_cases h : k ∈ D
  · have := List.length_erase_of_mem h
    omega
  · rw [List.erase_of_not_mem h]
    omega
theorem stk_ge : ∀ (a : List Nat) (D : List Nat), D.length ≤ (stk D a).length
  | [], D => Nat.le_refl _
  | y :: a, D => Nat.le_trans (nxt_ge D y) (stk_ge a (nxt D y))
theorem dists_lt : ∀ (a : List Nat) (D : List Nat), ∀ d ∈ dists D a, d = -1 ∨ (0 ≤ d ∧ d < ((stk D a).length : Int))
  | [], D, d, h => by cases h
  | y :: a, D, d, h => by
    rcases List.mem_cons.1 h with rfl | h
    · unfold dist
      by_cases hm : y ∈ D
      · rw [if_pos hm]
        have h1 := List.idxOf_lt_length_of_mem hm
        have h2 := Nat.le_trans (nxt_ge D y) (stk_ge a (nxt D y))
        refine .inr ?_
        show _ ∧ _ < ((stk (nxt D y) a).length : Int)
        omega
      · exact .inl (if_neg hm)
    · exact dists_lt a (nxt D y) d h
theorem Fo.keys {w v : World} {o nm : Nat} {D : List Nat} {lv : Value} {xs : List Int} (h : Fo w v o D nm lv xs) : ∃ a c, v.cell? ⟨o, 1, none⟩ = some (.slice a D.length c) := by
  obtain ⟨u, c, q, r, cq, cr, N, F, m, M, kv, KL, l, H, rfl, hge, hkv, hbl, hrow, hsep⟩ := h
  obtain ⟨-, c1, -⟩ := H.cells
  obtain ⟨a, k, rfl, -, -⟩ := own_form H.ks
  exact ⟨a, k, by rw [c1, show (kys KL l).length = KL.length by rw [← H.len]; unfold kys; simp]⟩
/-- the row of hits, behind j distances -/
def r1 (ds : List Int) (j : Nat) : Nat → Value := fun i => .int .i64 (if i = 0 then 0 else (cnt (ds.take j) i : Int))
theorem r1_first {ds : List Int} {j : Nat} {d : Int} (h : ds[j]? = some d) (hd : d = -1) : ∀ i, r1 ds j i = r1 ds (j + 1) i := fun i => by
  unfold r1
  rw [List.take_add_one, h]
  by_cases hi : i = 0
  · simp [hi]
  · rw [if_neg hi, if_neg hi, show (some d).toList = [d] from rfl, cnt_snoc, if_neg (by omega)]
    simp
theorem r1_next {ds : List Int} {j i1 : Nat} {d : Int} (h : ds[j]? = some d) (hd : d + 1 = (i1 : Int)) (h0 : 0 ≤ d) {z : Int} (hz : r1 ds j i1 = .int .i64 z) : ∀ i, (if i = i1 then Value.int .i64 (z + 1) else r1 ds j i) = r1 ds (j + 1) i := fun i => by
  have hi1 : i1 ≠ 0 := by omega
  unfold r1 at hz ⊢
  rw [if_neg hi1] at hz
  injection hz with _ hz
  rw [List.take_add_one, h, show (some d).toList = [d] from rfl, cnt_snoc]
  by_cases hi : i = i1
  · subst hi
    rw [if_pos rfl, if_neg hi1, if_pos (by omega), ← hz]
    simp
  · rw [if_neg hi]
    by_cases h0 : i = 0
    · simp [h0]
    · rw [if_neg h0, if_neg h0, if_neg (by omega)]
      simp
theorem r1_z (ds : List Int) (j i : Nat) : ∃ z : Int, r1 ds j i = .int .i64 z ∧ 0 ≤ z ∧ z ≤ ds.length := by
  unfold r1
  by_cases h : i = 0
  · exact ⟨0, by rw [if_pos h], by omega, by omega⟩
  · refine ⟨_, by rw [if_neg h], by omega, ?_⟩
    have h1 := List.length_filter_le (fun d => decide (d = (i : Int) - 1)) (ds.take j)
    have h2 := List.length_take_le j ds
    have h3 : (ds.take j).length ≤ ds.length := by rw [List.length_take]; omega
    unfold cnt
    omega
/-- the row of hits, the sums below s made -/
def r2 (ds : List Int) (s : Nat) : Nat → Value := fun i => .int .i64 (if i < s then (upto ds i : Int) else if i = 0 then 0 else (cnt ds i : Int))
theorem r2_one (ds : List Int) (n : Nat) (hn : ds.length = n) : ∀ i, r1 ds n i = r2 ds 1 i := fun i => by
  unfold r1 r2
  rw [List.take_of_length_le (by omega)]
  by_cases h : i = 0
  · subst h; simp [upto_zero]
  · rw [if_neg h, if_neg (show ¬ i < 1 by omega)]
    try rw [if_neg h]
theorem r2_z (ds : List Int) (s : Nat) (hs : 1 ≤ s) : ∃ a b : Int, r2 ds s s = .int .i64 a ∧ r2 ds s (s - 1) = .int .i64 b ∧ 0 ≤ a ∧ 0 ≤ b ∧ a ≤ ds.length ∧ b ≤ ds.length ∧ ∀ i, (if i = s then Value.int .i64 (a + b) else r2 ds s i) = r2 ds (s + 1) i := by
  have h1 := List.length_filter_le (fun d => decide (d = (s : Int) - 1)) ds
  have h2 := List.length_filter_le (fun d => decide (0 ≤ d ∧ d < ((s - 1 : Nat) : Int))) ds
  have h3 := upto_succ ds (s - 1)
  rw [show s - 1 + 1 = s by omega] at h3
  refine ⟨(cnt ds s : Int), (upto ds (s - 1) : Int), by unfold r2; rw [if_neg (by omega), if_neg (by omega)], by unfold r2; rw [if_pos (by omega)], by omega, by omega, by unfold cnt; omega, by unfold upto; omega, fun i => ?_⟩
  unfold r2
  by_cases h : i = s
  · subst h
    rw [if_pos rfl, if_pos (by omega), h3]
    congr 1
    omega
  · rw [if_neg h]
    by_cases h4 : i < s
    · rw [if_pos h4, if_pos (by omega)]
    · rw [if_neg h4, if_neg (show ¬ i = 0 by omega), if_neg (show ¬ i < s + 1 by omega)]
      try rw [if_neg (show ¬ i = 0 by omega)]
set_option maxRecDepth 100000 in
set_option maxHeartbeats 4000000 in
theorem Hits_any {w : World} {p : Option Addr} {n c : Nat} {T : List Nat} (hT : T.length = n) (hn : n ≤ 4096) (hr : Ru w p (ints T)) (hw : ∀ x ∈ T, x < 4294967296) :
    Calls Try.prog 41 #[.slice p n c] w fun e w' => ∃ g, e = .returned (.tuple #[.slice (some ⟨g, 0, none⟩) ((stk [] T).length + 1) ((stk [] T).length + 1), .int .i64 0]) ∧ w.heap.size ≤ g ∧ Row w' g ((stk [] T).length + 1) 3 (fun i => .int .i64 (upto (dists [] T) i : Int)) ∧ Below w.heap.size w w' := by
  have HF := Lib.hid (follow_any (c := c) hT hn hr hw)
  have HL := Lib.hid (show (dists [] T).length = n ∧ n ≤ 4096 ∧ (stk [] T).length ≤ 4096 ∧ (∀ d ∈ dists [] T, d = -1 ∨ (0 ≤ d ∧ d < ((stk [] T).length : Int))) from ⟨by rw [dists_len]; exact hT, hn, by have := stk_len T []; simp at this; omega, dists_lt T []⟩)
  obtain ⟨K, hK⟩ : ∃ K, (stk [] T).length = K := ⟨_, rfl⟩
  obtain ⟨ds, hds⟩ : ∃ ds, dists [] T = ds := ⟨_, rfl⟩
  rw [hK, hds] at HL ⊢
  obtain ⟨K1, hK1⟩ : ∃ K1, K + 1 = K1 := ⟨_, rfl⟩
  rw [hK1]
  have HKK := Lib.hid (show (stk [] T).length = K ∧ dists [] T = ds ∧ K + 1 = K1 from ⟨hK, hds, hK1⟩)
  have hmk := fun v => App.mk_row (t := 64) (e := 3) (z := .int .i64 0) (bytes := 8) (by kernel_rfl) (by kernel_rfl) rfl (by omega) K1 (by have := HL.out; omega) v
  have wk : IntKind.i64.wrap ((K : Int) + 1) = (K1 : Int) := by rw [IntWalk.i64_in _ (by have := HL.out; omega)]; omega
  clear hK1
  clear hT hn hr hw hK hds
  go_enter Try.func41, Try.ntmps41
  go_wp2_with fail
  refine HF.out.mono ?_
  rintro e w1 ⟨o, lv, rfl, fo⟩
  rw [HKK.out.2.1] at fo
  obtain ⟨ka, kc, k1⟩ := fo.keys
  rw [HKK.out.1] at k1
  have hrow := fo.row.1
  rw [HL.out.1] at hrow
  obtain ⟨a, lc, rfl, hrg, -⟩ := own_rg hrow
  have RW := Lib.hid hrg
  have BW := Lib.hid fo.bl
  clear fo hrow HF hrg
  go_wp2_with fail
  clear hmk wk k1
  have R0 := Lib.hid (Row.made w1 (.int .i64 0) rfl K1 3)
  have B0 := Lib.hid (box_below w1 (madeCells #[.int .i64 0] K1) 3)
  go_loopw [29] (fun iv wr => ∃ j : Nat, j ≤ n ∧ iv = .int .i64 (j : Int) ∧ Row wr w1.heap.size K1 3 (r1 ds j) ∧ Below w1.heap.size w1 wr) (fun iv _ => n - (intOf iv).toNat)
  case atStart => exact ⟨0, Nat.zero_le _, rfl, R0.out.congr (fun i _ => by unfold r1 cnt; simp), B0.out⟩
  case round =>
    obtain ⟨j, hj, rfl, row, bl⟩ := hrel
    have RJ := Lib.hid row
    have BJ := Lib.hid bl
    clear row bl
    by_cases hjn : j < n
    · have i1 : (j : Int) < (n : Int) := by omega
      have i2 : (0 : Int) ≤ (j : Int) := by omega
      obtain ⟨d, hd⟩ : ∃ d, ds[j]? = some d := ⟨ds[j]'(by rw [HL.out.1]; exact hjn), List.getElem?_eq_getElem _⟩
      obtain ⟨y, rfl, hyb, hyc⟩ := (RW.out.below BJ.out) j (.int .i64 d) (by rw [List.getElem?_map, hd]; rfl)
      have wj := IntWalk.i64_in ((j : Int) + 1) (by have := HL.out.2.1; omega)
      have HD := Lib.hid hd
      have hdd := HL.out.2.2.2 d (List.mem_of_getElem? hd)
      clear hd
      rcases hdd with rfl | ⟨hd0, hdK⟩
      · go_wp2_with fail
        go_roundw
        case rel => exact ⟨j + 1, by omega, by go_num, RJ.out.congr (fun i _ => r1_first HD.out rfl i), BJ.out⟩
        case measure => simp [intOf]; omega
      · have hdn : ¬ d = -1 := by omega
        obtain ⟨i, hi⟩ : ∃ i : Nat, d + 1 = (i : Int) := ⟨(d + 1).toNat, by omega⟩
        have hiK : i < K1 := by have := HKK.out; omega
        obtain ⟨z, hz, hz0, hz1⟩ := r1_z ds j i
        have kc := RJ.out.cell i hiK
        rw [hz] at kc
        have kf := RJ.out.fr i
        have wd : IntKind.i64.wrap (d + 1) = (i : Int) := by rw [IntWalk.i64_in _ (by have := HL.out; omega)]; exact hi
        have wz := IntWalk.i64_in (z + 1) (by have := HL.out; omega)
        have hi0 : (0 : Int) ≤ (i : Int) := by omega
        have hi1 : (i : Int) < (K1 : Int) := by omega
        have RS := Lib.hid ((RJ.out.set i (.int .i64 (z + 1))).congr (g := r1 ds (j + 1)) (fun k _ => r1_next HD.out hi hd0 hz k))
        have BS := Lib.hid (BJ.out.setCell (p := ⟨w1.heap.size, i, none⟩) (Nat.le_refl _) (.int .i64 (z + 1)))
        clear hz hi hdK hiK hz0 hz1
        go_wp2_with fail
        go_roundw
        case rel => exact ⟨j + 1, by omega, by go_num, RS.out, BS.out⟩
        case measure => simp [intOf]; omega
    · have i1 : ¬ (j : Int) < (n : Int) := by omega
      obtain rfl : j = n := by omega
      have R2 := Lib.hid (RJ.out.congr (fun i _ => r2_one ds j HL.out.1 i))
      clear RJ R0 B0
      go_wp2_with fail
      go_loopw [10] (fun iv wr => ∃ s : Nat, 1 ≤ s ∧ s ≤ K1 ∧ iv = .int .i64 (s : Int) ∧ Row wr w1.heap.size K1 3 (r2 ds s) ∧ Below w1.heap.size w1 wr) (fun iv _ => K1 - (intOf iv).toNat)
      case atStart => exact ⟨1, Nat.le_refl _, by have := HKK.out; omega, rfl, R2.out, BJ.out⟩
      case round =>
        obtain ⟨s, hs1, hsK, rfl, row, bl⟩ := hrel
        have RJ := Lib.hid row
        have BS := Lib.hid bl
        clear row bl R2 BJ
        by_cases hlt : s < K1
        · have i3 : (s : Int) < (K1 : Int) := by omega
          have i4 : (0 : Int) ≤ (s : Int) := by omega
          obtain ⟨za, zb, ha, hb, ha0, hb0, ha1, hb1, hnx⟩ := r2_z ds s hs1
          have k1 := RJ.out.cell s hlt
          have k2 := RJ.out.cell (s - 1) (by omega)
          rw [ha] at k1
          rw [hb] at k2
          have kf := RJ.out.fr s
          obtain ⟨s1, hs⟩ : ∃ s1, s - 1 = s1 := ⟨_, rfl⟩
          rw [hs] at k2
          have wm : IntKind.i64.wrap ((s : Int) - 1) = (s1 : Int) := by rw [IntWalk.i64_in _ (by have := HL.out; have := HKK.out; omega)]; omega
          have i5 : (0 : Int) ≤ (s1 : Int) := by omega
          have i6 : (s1 : Int) < (K1 : Int) := by omega
          have wz := IntWalk.i64_in (za + zb) (by have := HL.out; omega)
          have wi := IntWalk.i64_in ((s : Int) + 1) (by have := HL.out; have := HKK.out; omega)
          have BD := Lib.hid (show Below w1.heap.size w1 wr.drew from tr BS.out (Below.drew (Below.refl _ _)))
          have RS := Lib.hid (((RJ.out.below (Below.drew (Below.refl _ _))).set s (.int .i64 (za + zb))).congr (g := r2 ds (s + 1)) (fun k _ => hnx k))
          have BT := Lib.hid (BD.out.setCell (p := ⟨w1.heap.size, s, none⟩) (Nat.le_refl _) (.int .i64 (za + zb)))
          clear ha hb ha0 hb0 ha1 hb1 hnx hs
          go_wp2_with fail
          apply region_one (R := fun u => u = wr.drew.setCell ⟨w1.heap.size, s, none⟩ (.int .i64 (za + zb)))
          case first =>
            go_region_with fail
            all_goals (dsimp only [midQ]; exact ⟨rfl, rfl⟩)
          case rest =>
            rintro u rfl
            go_wp2_with fail
            go_roundw
            case rel => exact ⟨s + 1, by omega, by omega, by go_num, RS.out, BT.out⟩
            case measure => simp [intOf]; omega
        · have i3 : ¬ (s : Int) < (K1 : Int) := by omega
          obtain rfl : s = K1 := by omega
          go_wp2_with fail
          go_returns
          exact ⟨_, rfl, BW.out.size, RJ.out.congr (fun i hi => by unfold r2; rw [if_pos hi]), tr BW.out BS.out⟩
end Go.Proofs.Ytbbcmheedhdlfaa.Reu
namespace Go.Proofs.Ytbbcmheedhdlfaa.Reu
open Go Go.RowKit Kit Go.Maps Lnk Lru
/-- the variable that holds the wanted hits -/
def Qh (w : World) (b : Nat) (h : Int) : Prop := w.cell? ⟨b, 0, none⟩ = some (.int .i64 h) ∧ b < w.heap.size
theorem Qh.below {w w' : World} {b : Nat} {h : Int} (H : Qh w b h) (hb : Below w.heap.size w w') : Qh w' b h :=
  ⟨(hb.cell (p := ⟨b, 0, none⟩) H.2).trans H.1, Nat.lt_of_lt_of_le H.2 hb.size⟩
set_option maxRecDepth 100000 in
theorem ge_any (x h : Int) (b : Nat) (w : World) (H : Qh w b h) :
    Calls Try.prog 100 #[.int .i64 x, .pointer (some ⟨b, 0, none⟩)] w fun e w' => e = .returned (.bool (decide (h ≤ x))) ∧ Below w.heap.size w w' := by
  obtain ⟨h0, h1⟩ := H
  go_enter Try.func100, Try.ntmps100
  go_wp2_with fail
  all_goals go_returns
  all_goals exact ⟨rfl, by go_grown⟩
/-- the first place of a row whose number is not below h, or -1 -/
def fo (h : Int) (f : Nat → Int) (n : Nat) : Int := match (List.range n).find? (fun i => decide (h ≤ f i)) with | some i => (i : Int) | none => -1
theorem fo_at {h : Int} {f : Nat → Int} {n j : Nat} (hb : ∀ m, m < j → f m < h) (hj : j < n) (he : h ≤ f j) : fo h f n = (j : Int) := by
  have : (List.range n).find? (fun i => decide (h ≤ f i)) = some j := by
    rw [List.find?_range_eq_some]
    exact ⟨by simpa using he, by simpa using hj, fun m hm => by simpa using hb m hm⟩
  unfold fo; rw [this]
theorem fo_none {h : Int} {f : Nat → Int} {n : Nat} (hb : ∀ m, m < n → f m < h) : fo h f n = -1 := by
  have : (List.range n).find? (fun i => decide (h ≤ f i)) = none := by
    rw [List.find?_eq_none]
    intro m hm
    have := hb m (by simpa using hm)
    simpa using this
  unfold fo; rw [this]
set_option maxRecDepth 100000 in
theorem ifunc_any {w : World} {g n cap b : Nat} {h : Int} {f : Nat → Int} (hr : Row w g n 3 (fun i => .int .i64 (f i))) (hq : Qh w b h) (hn : n ≤ 100000000) :
    Calls Try.prog 99 #[.slice (some ⟨g, 0, none⟩) n cap, .func (.func 100) #[] #[.pointer (some ⟨b, 0, none⟩)]] w fun e w' => e = .returned (.int .i64 (fo h f n)) ∧ Below w.heap.size w w' := by
  have R := Lib.hid (fun (v : World) (hb : Below w.heap.size w v) => hr.below hb)
  have Q := Lib.hid (fun (v : World) (hb : Below w.heap.size w v) => hq.below hb)
  clear hr hq
  go_enter Try.func99, Try.ntmps99
  go_wp2_with fail
  go_loopw [8] (fun v wr => ∃ j : Nat, j ≤ n ∧ (∀ m, m < j → f m < h) ∧ v = .int .i64 j ∧ Below w.heap.size w wr) (fun v _ => n - (intOf v).toNat)
  case atStart => exact ⟨0, by omega, fun m hm => by omega, rfl, Below.refl _ _⟩
  case round =>
    obtain ⟨j, hj, hbefore, rfl, bW⟩ := hrel
    have BW := Lib.hid bW
    by_cases hjn : j = n
    · subst hjn
      have hf := fo_none (h := h) (f := f) hbefore
      clear hbefore bW
      go_wp2_with fail
      go_ret
      exact ⟨by rw [hf]; rfl, BW.out⟩
    · have hlt : j < n := by omega
      have hlt' : (j : Int) < (n : Int) := by omega
      have j0 : (0 : Int) ≤ (j : Int) := by omega
      have e0 := (R.out _ bW).cell j hlt
      have HF := Lib.hid (ge_any (f j) h b _ (Q.out _ bW))
      have HB := Lib.hid hbefore
      clear hbefore bW
      go_wp2_with fail
      refine HF.out.mono ?_
      rintro e w3 ⟨rfl, b3⟩
      have B3 := Lib.hid (tr BW.out b3)
      clear b3
      by_cases hpk : h ≤ f j
      · have hf := fo_at HB.out hlt hpk
        have hd : decide (h ≤ f j) = true := by simpa using hpk
        go_wp2_with fail
        go_ret
        exact ⟨by rw [hf]; rfl, B3.out⟩
      · have hd : decide (h ≤ f j) = false := by simpa using hpk
        go_wp2_with fail
        go_roundw
        case rel =>
          refine ⟨j + 1, by omega, fun m hm => ?_, by go_num, B3.out⟩
          by_cases he : m = j
          · subst he; omega
          · exact HB.out m (by omega)
        case measure => simp [intOf]; omega
/-- what Least returns -/
def lst (ds : List Int) (K : Nat) (h : Int) : Int × Int :=
  if h < 0 then (0, 2) else if fo h (fun i => (upto ds i : Int)) (K + 1) < 0 then (0, 9) else (fo h (fun i => (upto ds i : Int)) (K + 1), 0)
theorem fo_ge (h : Int) (f : Nat → Int) (n : Nat) : -1 ≤ fo h f n ∧ fo h f n < max 1 n := by
  unfold fo
  split
  · next i hi =>
    have := List.mem_of_find?_eq_some hi
    simp at this
    omega
  · omega
theorem Hits_long {w : World} {p : Option Addr} {n c : Nat} (hn : 4096 < n) :
    Calls Try.prog 41 #[.slice p n c] w fun e w' => e = .returned (.tuple #[.slice none 0 0, .int .i64 5]) ∧ w = w' := by
  have HF := Lib.hid (follow_long (w := w) (p := p) (c := c) hn)
  clear hn
  go_enter Try.func41, Try.ntmps41
  go_wp2_with fail
  refine HF.out.mono ?_
  rintro e w1 ⟨rfl, rfl⟩
  go_wp2_with fail
  go_returns
  exact ⟨rfl, rfl⟩
theorem Stack_long {w : World} {p : Option Addr} {n c : Nat} (hn : 4096 < n) :
    Calls Try.prog 36 #[.slice p n c] w fun e w' => e = .returned (.tuple #[.slice none 0 0, .int .i64 5]) ∧ Below w.heap.size w w' := by
  have HF := Lib.hid (fun (v : World) => follow_long (w := v) (p := p) (c := c) hn)
  clear hn
  go_enter Try.func36, Try.ntmps36
  go_wp2_with fail
  refine (HF.out _).mono ?_
  rintro e w1 ⟨rfl, rfl⟩
  go_wp2_with fail
  go_returns
  exact ⟨rfl, by go_grown⟩
set_option maxRecDepth 100000 in
theorem Least_long {w : World} {p : Option Addr} {n c : Nat} {h : Int} (hn : 4096 < n) :
    Calls Try.prog 43 #[.slice p n c, .int .i64 h] w fun e w' => e = .returned (.tuple #[.int .i64 0, .int .i64 5]) ∧ Below w.heap.size w w' := by
  have HF := Lib.hid (fun (v : World) => Hits_long (w := v) (p := p) (c := c) hn)
  clear hn
  go_enter Try.func43, Try.ntmps43
  go_wp2_with fail
  refine (HF.out _).mono ?_
  rintro e w1 ⟨rfl, rfl⟩
  go_wp2_with fail
  go_returns
  exact ⟨rfl, by go_grown⟩
set_option maxRecDepth 100000 in
theorem Least_any {w : World} {p : Option Addr} {n c : Nat} {h : Int} {T : List Nat} (hT : T.length = n) (hn : n ≤ 4096) (hr : Ru w p (ints T)) (hw : ∀ x ∈ T, x < 4294967296) :
    Calls Try.prog 43 #[.slice p n c, .int .i64 h] w fun e w' => e = .returned (.tuple #[.int .i64 (lst (dists [] T) (stk [] T).length h).1, .int .i64 (lst (dists [] T) (stk [] T).length h).2]) ∧ Below w.heap.size w w' := by
  have HF := Lib.hid (fun (v : World) (hb : Below w.heap.size w v) => Hits_any (w := v) (c := c) hT hn (hr.below hb) hw)
  have HK := Lib.hid (show (stk [] T).length ≤ 4096 by have := stk_len T []; simp at this; omega)
  obtain ⟨K, hK⟩ : ∃ K, (stk [] T).length = K := ⟨_, rfl⟩
  obtain ⟨ds, hds⟩ : ∃ ds, dists [] T = ds := ⟨_, rfl⟩
  rw [hK, hds] at HF ⊢
  rw [hK] at HK
  clear hT hn hr hw hK hds
  go_enter Try.func43, Try.ntmps43
  have q0 : Qh (w.alloc (.cells #[.int .i64 h] 3)) w.heap.size h := ⟨by unfold World.cell?; dsimp only; rw [(MapKept.heap_alloc w _).1]; rfl, by simp⟩
  go_wp2_with fail
  refine (HF.out _ (by go_grown)).mono ?_
  rintro e w1 ⟨g, rfl, hg, row, b1⟩
  have Q1 := Lib.hid (q0.below b1)
  have B1 := Lib.hid (show Below w.heap.size w w1 from tr (by go_grown) b1)
  have R1 := Lib.hid row
  have c1 := Q1.out.1
  clear row b1 q0
  by_cases h0 : h < 0
  · have hl : lst ds K h = (0, 2) := by unfold lst; rw [if_pos h0]
    go_wp2_with fail
    go_returns
    exact ⟨by rw [hl]; rfl, B1.out⟩
  · have HI := Lib.hid (ifunc_any (cap := K + 1) R1.out Q1.out (by have := HK.out; omega))
    go_wp2_with fail
    refine HI.out.mono ?_
    rintro e w2 ⟨rfl, b2⟩
    have B2 := Lib.hid (tr B1.out b2)
    clear b2
    by_cases hf : fo h (fun i => (upto ds i : Int)) (K + 1) < 0
    · have hl : lst ds K h = (0, 9) := by unfold lst; rw [if_neg (by omega), if_pos (by omega)]
      go_wp2_with fail
      go_returns
      exact ⟨by rw [hl]; rfl, B2.out⟩
    · have hl : lst ds K h = (fo h (fun i => (upto ds i : Int)) (K + 1), 0) := by unfold lst; rw [if_neg (by omega), if_neg (by omega)]
      go_wp2_with fail
      go_returns
      exact ⟨by rw [hl]; rfl, B2.out⟩
end Go.Proofs.Ytbbcmheedhdlfaa.Reu
namespace Go.Proofs.Ytbbcmheedhdlfaa.Reu
open Go Go.RowKit Kit Go.Maps Lnk Lru
/-- a list of numbers that is read -/
def Ri (w : World) (a : Option Addr) (l : List Int) : Prop := ∀ i x, l[i]? = some x → ∃ y, a = some y ∧ y.block < w.heap.size ∧ w.cell? (y.add i) = some (.int .i64 x)
theorem Ri.below {w w' : World} {a : Option Addr} {l : List Int} (h : Ri w a l) (hb : Below w.heap.size w w') : Ri w' a l := fun i x hx => by
  obtain ⟨y, h0, h1, h2⟩ := h i x hx
  exact ⟨y, h0, Nat.lt_of_lt_of_le h1 hb.size, by rw [hb.cell (by rw [Lnk.add_block]; exact h1)]; exact h2⟩
set_option maxRecDepth 100000 in
theorem same37_any {w : World} {p1 p2 : Option Addr} {n1 n2 c1 c2 : Nat} {l1 l2 : List Int} (h1 : l1.length = n1) (h2 : l2.length = n2) (r1 : Ru w p1 l1) (r2 : Ru w p2 l2) (hn1 : n1 ≤ 1000000) (hn2 : n2 ≤ 1000000) :
    Calls Try.prog 39 #[.slice p1 n1 c1, .slice p2 n2 c2] w fun e w' => Says e (l1 = l2) ∧ Below w.heap.size w w' := by
  by_cases hn : n1 = n2
  · subst hn
    have H1 := Lib.hid h1
    have H2 := Lib.hid h2
    have R1 := Lib.hid (fun w' (hb : Below w.heap.size w w') => r1.below hb)
    have R2 := Lib.hid (fun w' (hb : Below w.heap.size w w') => r2.below hb)
    clear r1 r2 h1 h2 hn2
    go_enter Try.func39, Try.ntmps39
    go_wp2_with fail
    go_loopw [5] (fun i wr => ∃ j : Nat, j ≤ n1 ∧ i = .int .i64 j ∧ l1.take j = l2.take j ∧ Below w.heap.size w wr) (fun i _ => n1 - (intOf i).toNat)
    case atStart => exact ⟨0, by omega, rfl, by simp, Below.refl _ _⟩
    case round =>
      obtain ⟨j, hj, rfl, hT, bW⟩ := hrel
      have BW := Lib.hid bW
      have HT := Lib.hid hT
      clear bW hT
      by_cases hlt : j < n1
      · obtain ⟨z1, hz1⟩ : ∃ p, l1[j]? = some p := ⟨l1[j]'(by rw [H1.out]; omega), List.getElem?_eq_getElem _⟩
        obtain ⟨z2, hz2⟩ : ∃ p, l2[j]? = some p := ⟨l2[j]'(by rw [H2.out]; omega), List.getElem?_eq_getElem _⟩
        obtain ⟨y1, rfl, _, x1⟩ := R1.out _ BW.out j z1 hz1
        obtain ⟨y2, rfl, _, x2⟩ := R2.out _ BW.out j z2 hz2
        have hlt' : (j : Int) < (n1 : Int) := by omega
        have j0 : (0 : Int) ≤ (j : Int) := by omega
        have HS := Lib.hid (fun w' (hb : Below w.heap.size w w') => (show w'.cell? (y1.add j) = some (.int .u32 z1) ∧ w'.cell? (y2.add j) = some (.int .u32 z2) ∧ Below w.heap.size w w' from by
          obtain ⟨y, hy, _, e1⟩ := R1.out _ hb j z1 hz1
          obtain ⟨y', hy', _, e2⟩ := R2.out _ hb j z2 hz2
          cases hy; cases hy'
          exact ⟨e1, e2, hb⟩))
        have Z1 := Lib.hid hz1
        have Z2 := Lib.hid hz2
        clear hz1 hz2
        by_cases hz : z1 = z2
        · subst hz
          go_wp2_with fail
          go_region_held3 (fun w' => w'.cell? (y1.add j) = some (.int .u32 z1) ∧ w'.cell? (y2.add j) = some (.int .u32 z1) ∧ Below w.heap.size w w')
            (first
              | (exact HS.out _ (Below.drew BW.out))
              | assumption
              | fail)
            (first | fail)
          have B2 := Lib.hid (Below.drew BW.out)
          go_wp2_with fail
          go_roundw
          case rel => exact ⟨j + 1, by omega, by go_num, same_to HT.out Z1.out Z2.out, B2.out⟩
          case measure => simp [intOf]; omega
        · have hb : (z1 == z2) = false := by rw [beq_eq_false_iff_ne]; exact hz
          have hb2 : (z1 != z2) = true := by rw [bne_iff_ne]; exact hz
          have HZ := Lib.hid hz
          clear hz
          go_wp2_with fail
          go_region_held3 (fun w' => w'.cell? (y1.add j) = some (.int .u32 z1) ∧ w'.cell? (y2.add j) = some (.int .u32 z2) ∧ Below w.heap.size w w')
            (first
              | (exact HS.out _ (Below.drew BW.out))
              | assumption
              | fail)
            (first | fail)
          have B2 := Lib.hid (Below.drew BW.out)
          go_wp2_with fail
          go_ret
          exact ⟨Says.no rfl (other_at Z1.out Z2.out HZ.out), B2.out⟩
      · obtain rfl : j = n1 := by omega
        go_wp2_with fail
        go_ret
        exact ⟨Says.yes rfl (same_all HT.out H1.out H2.out), BW.out⟩
  · have hb : ((n1 : Int) == (n2 : Int)) = false := by rw [beq_eq_false_iff_ne]; omega
    have hb2 : ((n1 : Int) != (n2 : Int)) = true := by rw [bne_iff_ne]; omega
    have HX := Lib.hid (show ¬ l1 = l2 from fun he => by rw [he] at h1; omega)
    clear r1 r2 h1 h2
    go_enter Try.func39, Try.ntmps39
    go_wp2_with fail
    go_ret
    exact ⟨Says.no rfl HX.out, Below.refl _ _⟩
set_option maxRecDepth 100000 in
theorem ints37_any {w : World} {p1 p2 : Option Addr} {n1 n2 c1 c2 : Nat} {l1 l2 : List Int} (h1 : l1.length = n1) (h2 : l2.length = n2) (r1 : Ri w p1 l1) (r2 : Ri w p2 l2) (hn1 : n1 ≤ 1000000) (hn2 : n2 ≤ 1000000) :
    Calls Try.prog 37 #[.slice p1 n1 c1, .slice p2 n2 c2] w fun e w' => Says e (l1 = l2) ∧ Below w.heap.size w w' := by
  by_cases hn : n1 = n2
  · subst hn
    have H1 := Lib.hid h1
    have H2 := Lib.hid h2
    have R1 := Lib.hid (fun w' (hb : Below w.heap.size w w') => r1.below hb)
    have R2 := Lib.hid (fun w' (hb : Below w.heap.size w w') => r2.below hb)
    clear r1 r2 h1 h2 hn2
    go_enter Try.func37, Try.ntmps37
    go_wp2_with fail
    go_loopw [5] (fun i wr => ∃ j : Nat, j ≤ n1 ∧ i = .int .i64 j ∧ l1.take j = l2.take j ∧ Below w.heap.size w wr) (fun i _ => n1 - (intOf i).toNat)
    case atStart => exact ⟨0, by omega, rfl, by simp, Below.refl _ _⟩
    case round =>
      obtain ⟨j, hj, rfl, hT, bW⟩ := hrel
      have BW := Lib.hid bW
      have HT := Lib.hid hT
      clear bW hT
      by_cases hlt : j < n1
      · obtain ⟨z1, hz1⟩ : ∃ p, l1[j]? = some p := ⟨l1[j]'(by rw [H1.out]; omega), List.getElem?_eq_getElem _⟩
        obtain ⟨z2, hz2⟩ : ∃ p, l2[j]? = some p := ⟨l2[j]'(by rw [H2.out]; omega), List.getElem?_eq_getElem _⟩
        obtain ⟨y1, rfl, _, x1⟩ := R1.out _ BW.out j z1 hz1
        obtain ⟨y2, rfl, _, x2⟩ := R2.out _ BW.out j z2 hz2
        have hlt' : (j : Int) < (n1 : Int) := by omega
        have j0 : (0 : Int) ≤ (j : Int) := by omega
        have HS := Lib.hid (fun w' (hb : Below w.heap.size w w') => (show w'.cell? (y1.add j) = some (.int .i64 z1) ∧ w'.cell? (y2.add j) = some (.int .i64 z2) ∧ Below w.heap.size w w' from by
          obtain ⟨y, hy, _, e1⟩ := R1.out _ hb j z1 hz1
          obtain ⟨y', hy', _, e2⟩ := R2.out _ hb j z2 hz2
          cases hy; cases hy'
          exact ⟨e1, e2, hb⟩))
        have Z1 := Lib.hid hz1
        have Z2 := Lib.hid hz2
        clear hz1 hz2
        by_cases hz : z1 = z2
        · subst hz
          go_wp2_with fail
          go_region_held3 (fun w' => w'.cell? (y1.add j) = some (.int .i64 z1) ∧ w'.cell? (y2.add j) = some (.int .i64 z1) ∧ Below w.heap.size w w')
            (first
              | (exact HS.out _ (Below.drew BW.out))
              | assumption
              | fail)
            (first | fail)
          have B2 := Lib.hid (Below.drew BW.out)
          go_wp2_with fail
          go_roundw
          case rel => exact ⟨j + 1, by omega, by go_num, same_to HT.out Z1.out Z2.out, B2.out⟩
          case measure => simp [intOf]; omega
        · have hb : (z1 == z2) = false := by rw [beq_eq_false_iff_ne]; exact hz
          have hb2 : (z1 != z2) = true := by rw [bne_iff_ne]; exact hz
          have HZ := Lib.hid hz
          clear hz
          go_wp2_with fail
          go_region_held3 (fun w' => w'.cell? (y1.add j) = some (.int .i64 z1) ∧ w'.cell? (y2.add j) = some (.int .i64 z2) ∧ Below w.heap.size w w')
            (first
              | (exact HS.out _ (Below.drew BW.out))
              | assumption
              | fail)
            (first | fail)
          have B2 := Lib.hid (Below.drew BW.out)
          go_wp2_with fail
          go_ret
          exact ⟨Says.no rfl (other_at Z1.out Z2.out HZ.out), B2.out⟩
      · obtain rfl : j = n1 := by omega
        go_wp2_with fail
        go_ret
        exact ⟨Says.yes rfl (same_all HT.out H1.out H2.out), BW.out⟩
  · have hb : ((n1 : Int) == (n2 : Int)) = false := by rw [beq_eq_false_iff_ne]; omega
    have hb2 : ((n1 : Int) != (n2 : Int)) = true := by rw [bne_iff_ne]; omega
    have HX := Lib.hid (show ¬ l1 = l2 from fun he => by rw [he] at h1; omega)
    clear r1 r2 h1 h2
    go_enter Try.func37, Try.ntmps37
    go_wp2_with fail
    go_ret
    exact ⟨Says.no rfl HX.out, Below.refl _ _⟩
end Go.Proofs.Ytbbcmheedhdlfaa.Reu
