/-
  Texts in one: ReuQ, ReuN, ReuS, ReuX.
-/
import Derived.Test.YtbbcmheedhdlfaaRed
import Derived.Test.YtbbcmheedhdlfaaReb
import Derived.Test.YtbbcmheedhdlfaaArl
set_option linter.unusedVariables false
set_option linter.unusedSimpArgs false
namespace Go.Proofs.Ytbbcmheedhdlfaa.Reu
open Go Go.RowKit Kit Go.Maps Lnk Lru
set_option maxRecDepth 100000 in
theorem ldist_any {w : World} {p : Option Addr} {n c : Nat} {T : List Nat} (hT : T.length = n) (hr : Ru w p (ints T)) (hw : ∀ x ∈ T, x < 4294967296) :
    Calls Try.prog 8 #[.slice p n c] w fun e w' => e = .returned (.bool true) ∧ Below w.heap.size w w' := by
  have HKN := Lib.hid known37
  by_cases hn : 200 < n
  · have h1 : (200 : Int) < (n : Int) := by omega
    clear hT hr hw hn
    go_enter Try.func8, Try.ntmps8
    go_wp2_with fail
    refine (HKN.out _).mono ?_
    rintro e w1 ⟨rfl, b1⟩
    go_wp2_with fail
    go_returns
    exact ⟨rfl, b1⟩
  · have h1 : ¬ (200 : Int) < (n : Int) := by omega
    have HD := Lib.hid (fun (v : World) (hb : Below w.heap.size w v) => Distances_any (c := c) hT (by omega) (hr.below hb) hw)
    have HS := Lib.hid (fun (v : World) (hb : Below w.heap.size w v) => Stack_any (c := c) hT (by omega) (hr.below hb) hw)
    have HRD := Lib.hid (fun (v : World) (hb : Below w.heap.size w v) => rDistances_any (c := c) hT (by omega) (hr.below hb))
    have HRS := Lib.hid (fun (v : World) (hb : Below w.heap.size w v) => rStack_any (c := c) hT (by omega) (hr.below hb))
    have HL := Lib.hid (show n ≤ 200 ∧ (dists [] T).length = n ∧ (stk [] T).length ≤ n from ⟨by omega, by rw [dists_len]; exact hT, by have := stk_len T []; simp at this; omega⟩)
    clear hT hr hw hn
    go_enter Try.func8, Try.ntmps8
    go_wp2_with fail
    refine (HD.out _ (Below.refl _ _)).mono ?_
    rintro e w1 ⟨lv, rfl, row, b1⟩
    obtain ⟨dp, dc, rfl, ri, -⟩ := own_ri row
    have D1 := Lib.hid ri
    have B1 := Lib.hid b1
    clear row ri b1
    go_wp2_with fail
    refine (HS.out _ B1.out).mono ?_
    rintro e w2 ⟨sv, rfl, row, b2⟩
    obtain ⟨sp, sc, rfl, ru, -⟩ := own_ru row
    have D2 := Lib.hid (D1.out.below b2)
    have S2 := Lib.hid ru
    have B2 := Lib.hid (tr B1.out b2)
    clear row ru b2 D1 B1
    go_wp2_with fail
    refine (HRD.out _ B2.out).mono ?_
    rintro e w3 ⟨v3, rfl, row, b3⟩
    obtain ⟨rp, rc, rfl, ri, -⟩ := own_ri row
    have HI := Lib.hid (ints37_any (c1 := dc) (c2 := rc) HL.out.2.1 HL.out.2.1 (D2.out.below b3) ri (by have := HL.out; omega) (by have := HL.out; omega))
    have S3 := Lib.hid (S2.out.below b3)
    have B3 := Lib.hid (tr B2.out b3)
    clear row ri b3 D2 B2 S2
    go_wp2_with fail
    refine HI.out.mono ?_
    rintro e w4 ⟨⟨t, rfl, ht⟩, b4⟩
    obtain rfl : t = true := ht.2 (by first | exact trivial | rfl)
    have S4 := Lib.hid (S3.out.below b4)
    have B4 := Lib.hid (tr B3.out b4)
    clear ht b4 S3 B3 HI
    go_wp2_with fail
    refine (HRS.out _ B4.out).mono ?_
    rintro e w5 ⟨v5, rfl, row, b5⟩
    obtain ⟨qp, qc, rfl, ru, -⟩ := own_ru row
    have HSM := Lib.hid (same37_any (c1 := sc) (c2 := qc) (show (ints (stk [] T).reverse).length = (stk [] T).length by rw [ints_len, List.length_reverse]) (show (ints (stk [] T).reverse).length = (stk [] T).length by rw [ints_len, List.length_reverse]) (S4.out.below b5) ru (by have := HL.out; omega) (by have := HL.out; omega))
    have B5 := Lib.hid (tr B4.out b5)
    clear row ru b5 S4 B4
    go_wp2_with fail
    refine HSM.out.mono ?_
    rintro e w6 ⟨⟨t, rfl, ht⟩, b6⟩
    obtain rfl : t = true := ht.2 (by first | exact trivial | rfl)
    have B6 := Lib.hid (tr B5.out b6)
    clear ht b6 B5 HSM
    go_wp2_with fail
    refine (HKN.out _).mono ?_
    rintro e w7 ⟨rfl, b7⟩
    have B7 := Lib.hid (tr B6.out b7)
    clear b7
    go_wp2_with fail
    go_returns
    exact ⟨rfl, B7.out⟩
set_option maxRecDepth 100000 in
theorem lhits_any {w : World} {p : Option Addr} {n c : Nat} {T : List Nat} (hT : T.length = n) (hr : Ru w p (ints T)) (hw : ∀ x ∈ T, x < 4294967296) (h : Int) :
    Calls Try.prog 9 #[.slice p n c, .int .i64 h] w fun e w' => e = .returned (.bool true) ∧ Below w.heap.size w w' := by
  have HKN := Lib.hid known37
  by_cases hn : 120 < n
  · have h1 : (120 : Int) < (n : Int) := by omega
    clear hT hr hw hn
    go_enter Try.func9, Try.ntmps9
    go_wp2_with fail
    refine (HKN.out _).mono ?_
    rintro e w1 ⟨rfl, b1⟩
    go_wp2_with fail
    go_returns
    exact ⟨rfl, b1⟩
  · have h1 : ¬ (120 : Int) < (n : Int) := by omega
    have HH := Lib.hid (fun (v : World) (hb : Below w.heap.size w v) => Hits_any (c := c) hT (by omega) (hr.below hb) hw)
    have HRH := Lib.hid (fun (v : World) (hb : Below w.heap.size w v) => rHits_any (c := c) hT (by omega) (hr.below hb))
    have HLS := Lib.hid (fun (v : World) (hb : Below w.heap.size w v) => Least_any (c := c) (h := h) hT (by omega) (hr.below hb) hw)
    have HL := Lib.hid (show n ≤ 120 ∧ (stk [] T).length ≤ n from ⟨by omega, by have := stk_len T []; simp at this; omega⟩)
    obtain ⟨K, hK⟩ : ∃ K, (stk [] T).length = K := ⟨_, rfl⟩
    obtain ⟨ds, hds⟩ : ∃ ds, dists [] T = ds := ⟨_, rfl⟩
    rw [hK, hds] at HH HRH HLS
    rw [hK] at HL
    obtain ⟨la, hla⟩ : ∃ la, (lst ds K h).1 = la := ⟨_, rfl⟩
    obtain ⟨lb, hlb⟩ : ∃ lb, (lst ds K h).2 = lb := ⟨_, rfl⟩
    rw [hla, hlb] at HLS
    have HLA := Lib.hid (show (lst ds K h).1 = la ∧ (lst ds K h).2 = lb from ⟨hla, hlb⟩)
    clear hT hr hw hn hK hds hla hlb
    go_enter Try.func9, Try.ntmps9
    go_wp2_with fail
    refine (HH.out _ (Below.refl _ _)).mono ?_
    rintro e w1 ⟨g, rfl, -, row, b1⟩
    have D1 := Lib.hid (row_ri row)
    have B1 := Lib.hid b1
    clear row b1
    go_wp2_with fail
    refine (HRH.out _ B1.out).mono ?_
    rintro e w2 ⟨v2, rfl, row, b2⟩
    obtain ⟨rp, rc, rfl, ri, -⟩ := own_ri row
    have HI := Lib.hid (ints37_any (c1 := K + 1) (c2 := rc) (hl_len ds K) (hl_len ds K) (D1.out.below b2) ri (by have := HL.out; omega) (by have := HL.out; omega))
    have R2 := Lib.hid ri
    have B2 := Lib.hid (tr B1.out b2)
    clear row ri b2 D1 B1
    go_wp2_with fail
    refine HI.out.mono ?_
    rintro e w3 ⟨⟨t, rfl, ht⟩, b3⟩
    obtain rfl : t = true := ht.2 (by first | exact trivial | rfl)
    have R3 := Lib.hid (R2.out.below b3)
    have B3 := Lib.hid (tr B2.out b3)
    clear ht b3 R2 B2 HI
    go_wp2_with fail
    refine (HLS.out _ B3.out).mono ?_
    rintro e w4 ⟨rfl, b4⟩
    have R4 := Lib.hid (R3.out.below b4)
    have B4 := Lib.hid (tr B3.out b4)
    clear b4 R3 B3
    by_cases h0 : h < 0
    · obtain ⟨rfl, rfl⟩ : la = 0 ∧ lb = 2 := by
        have := HLA.out
        unfold lst at this
        rw [if_pos h0] at this
        exact ⟨this.1.symm, this.2.symm⟩
      go_wp2_with fail
      refine (HKN.out _).mono ?_
      rintro e w5 ⟨rfl, b5⟩
      have B5 := Lib.hid (tr B4.out b5)
      clear b5
      go_wp2_with fail
      go_returns
      exact ⟨rfl, B5.out⟩
    · have H0 := Lib.hid h0
      go_wp2_with fail
      go_loopw [10] (fun iv wr => ∃ j : Nat, j ≤ K + 1 ∧ iv = .int .i64 (j : Int) ∧ Hid (∀ m, m < j → (upto ds m : Int) < h) ∧ Hid (Below w.heap.size w wr) ∧ Hid (Ri wr rp (hl ds K))) (fun iv _ => K + 1 - (intOf iv).toNat)
      case atStart => exact ⟨0, Nat.zero_le _, rfl, Lib.hid (fun m hm => by omega), B4, R4⟩
      case round =>
        obtain ⟨j, hj, rfl, NB, BW, RW⟩ := hrel
        by_cases hjn : j < K + 1
        · have i1 : (j : Int) < (K : Int) + 1 := by omega
          have j0 : (0 : Int) ≤ (j : Int) := by omega
          obtain ⟨z, hz⟩ : ∃ z : Int, (upto ds j : Int) = z := ⟨_, rfl⟩
          obtain ⟨y, rfl, -, e0⟩ := RW.out j z (by unfold hl; rw [List.getElem?_map, List.getElem?_range hjn, ← hz]; rfl)
          have wj := IntWalk.i64_in ((j : Int) + 1) (by have := HL.out; omega)
          have HZ := Lib.hid (show (upto ds j : Int) = z ∧ j < K + 1 from ⟨hz, hjn⟩)
          clear hz hjn hj
          by_cases hzh : h ≤ z
          · obtain ⟨rfl, rfl⟩ : la = (j : Int) ∧ lb = 0 := by
              have h2 := fo_at (h := h) (f := fun i => (upto ds i : Int)) (n := K + 1) NB.out HZ.out.2 (by show h ≤ (upto ds j : Int); rw [HZ.out.1]; exact hzh)
              have h3 := HLA.out
              unfold lst at h3
              have := H0.out
              rw [if_neg (by omega), h2, if_neg (by omega)] at h3
              exact ⟨h3.1.symm, h3.2.symm⟩
            go_wp2_with fail
            refine (HKN.out _).mono ?_
            rintro e w5 ⟨rfl, b5⟩
            have B5 := Lib.hid (tr BW.out b5)
            clear b5
            go_wp2_with fail
            go_returns
            exact ⟨rfl, B5.out⟩
          · have hzh2 : z < h := by omega
            have NX := Lib.hid (show ∀ m, m < j + 1 → (upto ds m : Int) < h from fun m hm => by
              by_cases he : m = j
              · subst he; have := HZ.out; omega
              · exact NB.out m (by omega))
            go_wp2_with fail
            go_roundw
            case rel => exact ⟨j + 1, by have := HZ.out; omega, by go_num, NX, BW, RW⟩
            case measure => have := HZ.out; simp [intOf]; omega
        · have i1 : ¬ (j : Int) < (K : Int) + 1 := by omega
          obtain rfl : j = K + 1 := by omega
          obtain ⟨rfl, rfl⟩ : la = 0 ∧ lb = 9 := by
            have h2 := fo_none (h := h) (f := fun i => (upto ds i : Int)) (n := K + 1) NB.out
            have h3 := HLA.out
            unfold lst at h3
            have := H0.out
            rw [if_neg (by omega), h2, if_pos (by omega)] at h3
            exact ⟨h3.1.symm, h3.2.symm⟩
          go_wp2_with fail
          refine (HKN.out _).mono ?_
          rintro e w5 ⟨rfl, b5⟩
          have B5 := Lib.hid (tr BW.out b5)
          clear b5
          go_wp2_with fail
          go_returns
          exact ⟨rfl, B5.out⟩
end Go.Proofs.Ytbbcmheedhdlfaa.Reu
namespace Go.Proofs.Ytbbcmheedhdlfaa.Reu
theorem erase_map {f : Nat → Nat} {k : Nat} : ∀ (l : List Nat), (∀ x ∈ l, f x = f k → x = k) → (l.map f).erase (f k) = (l.erase k).map f
  | [], _ => rfl
  | x :: l, h => by
    by_cases hx : x = k
    · subst hx; simp
    · have hf : f x ≠ f k := fun e => hx (h x (by simp) e)
      rw [List.map_cons, List.erase_cons_tail (by simpa using hf), List.erase_cons_tail (by simpa using hx), List.map_cons, erase_map l fun y hy => h y (List.mem_cons_of_mem _ hy)]
theorem idx_map {f : Nat → Nat} {k : Nat} : ∀ (l : List Nat), (∀ x ∈ l, f x = f k → x = k) → (l.map f).idxOf (f k) = l.idxOf k
  | [], _ => rfl
  | x :: l, h => by
    rw [List.map_cons, List.idxOf_cons, List.idxOf_cons, idx_map l fun y hy => h y (List.mem_cons_of_mem _ hy)]
    by_cases hx : x = k
    · subst hx; simp
    · have hf : f x ≠ f k := fun e => hx (h x (by simp) e)
      have h1 : (f x == f k) = false := by simpa using hf
      have h2 : (x == k) = false := by simpa using hx
      rw [h1, h2]
theorem nxt_map {f : Nat → Nat} {k : Nat} {l : List Nat} (h : ∀ x ∈ l, f x = f k → x = k) : nxt (l.map f) (f k) = (nxt l k).map f := by
  unfold nxt
  rw [erase_map l h, List.map_append]
  rfl
theorem dist_map {f : Nat → Nat} {k : Nat} {l : List Nat} (h : ∀ x ∈ l, f x = f k → x = k) : dist (l.map f) (f k) = dist l k := by
  unfold dist
  rw [idx_map l h, List.length_map]
  have : f k ∈ l.map f ↔ k ∈ l := ⟨fun e => by
    obtain ⟨x, hx, e⟩ := List.mem_map.1 e
    exact h x hx e ▸ hx, fun e => List.mem_map_of_mem e⟩
  by_cases hk : k ∈ l
  · rw [if_pos hk, if_pos (this.2 hk)]
  · rw [if_neg hk, if_neg fun e => hk (this.1 e)]
theorem nxt_mem {l : List Nat} {k x : Nat} (h : x ∈ nxt l k) : x ∈ l ∨ x = k := by
  unfold nxt at h
  rcases List.mem_append.1 h with h | h
  · exact .inl (List.mem_of_mem_erase h)
  · exact .inr (by simpa using h)
theorem dists_map {f : Nat → Nat} (p : Nat → Prop) (hf : ∀ x y, p x → p y → f x = f y → x = y) : ∀ (T D : List Nat), (∀ x ∈ D, p x) → (∀ x ∈ T, p x) → dists (D.map f) (T.map f) = dists D T
  | [], D, _, _ => rfl
  | k :: T, D, hD, hT => by
    have hk := hT k (by simp)
    have h1 : ∀ x ∈ D, f x = f k → x = k := fun x hx e => hf x k (hD x hx) hk e
    simp only [List.map_cons, dists]
    rw [dist_map h1, nxt_map h1, dists_map p hf T (nxt D k) (fun x hx => by rcases nxt_mem hx with h | rfl; exact hD x h; exact hk) fun x hx => hT x (List.mem_cons_of_mem _ hx)]
/-- how often there is no distance -/
def miss (ds : List Int) : Nat := (ds.filter (fun d => d = -1)).length
theorem stk_miss : ∀ (T D : List Nat), (stk D T).length = D.length + miss (dists D T)
  | [], D => by simp [stk, dists, miss]
  | k :: T, D => by
    have ih := stk_miss T (nxt D k)
    have h1 : miss (dists D (k :: T)) = (if dist D k = -1 then 1 else 0) + miss (dists (nxt D k) T) := by
      unfold miss
      simp only [dists, List.filter_cons]
      by_cases h : dist D k = -1
      · simp [h]; omega
      · simp [h]
    show (stk (nxt D k) T).length = _
    rw [ih, h1]
    by_cases hk : k ∈ D
    · have h2 := List.idxOf_lt_length_of_mem hk
      have h3 : ¬ dist D k = -1 := by unfold dist; rw [if_pos hk]; omega
      rw [if_neg h3]
      unfold nxt
      have := List.length_erase_of_mem hk
      rw [List.length_append, List.length_singleton]
      omega
    · have h3 : dist D k = -1 := if_neg hk
      rw [if_pos h3]
      unfold nxt
      rw [List.erase_of_not_mem hk, List.length_append, List.length_singleton]
      omega
theorem miss_upto (K : Nat) : ∀ (ds : List Int), (∀ d ∈ ds, d = -1 ∨ (0 ≤ d ∧ d < (K : Int))) → upto ds K + miss ds = ds.length
  | [], _ => rfl
  | d :: ds, h => by
    have ih := miss_upto K ds fun x hx => h x (List.mem_cons_of_mem _ hx)
    have e1 : upto (d :: ds) K = (if 0 ≤ d ∧ d < (K : Int) then 1 else 0) + upto ds K := by
      unfold upto
      rw [List.filter_cons]
      by_cases h : 0 ≤ d ∧ d < (K : Int)
      · rw [if_pos (decide_eq_true h), if_pos h, List.length_cons]; omega
      · rw [if_neg (by simpa using h), if_neg h]; omega
    have e2 : miss (d :: ds) = (if d = -1 then 1 else 0) + miss ds := by
      unfold miss
      rw [List.filter_cons]
      by_cases h : d = -1
      · rw [if_pos (decide_eq_true h), if_pos h, List.length_cons]; omega
      · rw [if_neg (by simpa using h), if_neg h]; omega
    rw [e1, e2, List.length_cons]
    rcases h d (by simp) with rfl | ⟨h1, h2⟩
    · rw [if_neg (by omega), if_pos rfl]; omega
    · have h3 : ¬ d = -1 := by omega
      rw [if_pos ⟨h1, h2⟩, if_neg h3]; omega
theorem upto_all (T : List Nat) : (upto (dists [] T) (stk [] T).length : Int) = (T.length : Int) - ((stk [] T).length : Int) := by
  have h1 := miss_upto (stk [] T).length (dists [] T) (dists_lt T [])
  have h2 := stk_miss T []
  rw [dists_len] at h1
  simp at h2
  omega
theorem upto_mono (ds : List Int) (k : Nat) : upto ds k ≤ upto ds (k + 1) := by rw [upto_succ]; omega
theorem upto_take {ds : List Int} {i : Nat} {d : Int} (h : ds[i]? = some d) (k : Nat) : upto (ds.take (i + 1)) k = upto (ds.take i) k + if 0 ≤ d ∧ d < (k : Int) then 1 else 0 := by
  have : upto (ds.take i ++ [d]) k = upto (ds.take i) k + if 0 ≤ d ∧ d < (k : Int) then 1 else 0 := by
    unfold upto
    rw [List.filter_append, List.length_append]
    by_cases h : 0 ≤ d ∧ d < (k : Int)
    · simp [h]
    · simp [h]
  rw [List.take_add_one, h]
  exact this
/-- other numbers for the keys -/
def oth (add x : Nat) : Nat := ((x ^^^ 5) + add) % 4294967296
theorem oth_lt (add x : Nat) : oth add x < 4294967296 := Nat.mod_lt _ (by decide)
theorem xor_lt {x : Nat} (h : x < 4294967296) : x ^^^ 5 < 4294967296 := Nat.xor_lt_two_pow (n := 32) h (by decide)
theorem oth_inj (add : Nat) (hadd : add < 4294967296) (x y : Nat) (hx : x < 4294967296) (hy : y < 4294967296) (h : oth add x = oth add y) : x = y := by
  have h1 := xor_lt hx
  have h2 := xor_lt hy
  unfold oth at h
  have h3 : x ^^^ 5 = y ^^^ 5 := by omega
  have h4 := congrArg (fun z => z ^^^ 5) h3
  simpa [Nat.xor_assoc] using h4
end Go.Proofs.Ytbbcmheedhdlfaa.Reu
namespace Go.Proofs.Ytbbcmheedhdlfaa.Reu
open Go Go.RowKit Kit Go.Maps Lnk Lru
set_option maxRecDepth 100000 in
theorem lholds_far {w : World} {p : Option Addr} {n c : Nat} {add : Int} (hn : 200 < n) :
    Calls Try.prog 12 #[.slice p n c, .int .u32 add] w fun e w' => e = .returned (.bool true) ∧ Below w.heap.size w w' := by
  have HKN := Lib.hid known37
  have h1 : (200 : Int) < (n : Int) := by omega
  clear hn
  go_enter Try.func12, Try.ntmps12
  go_wp2_with fail
  refine (HKN.out _).mono ?_
  rintro e w1 ⟨rfl, b1⟩
  go_wp2_with fail
  go_returns
  exact ⟨rfl, b1⟩
theorem xor5 {x : Nat} (h : x < 4294967296) : bits BinOp.xor .u32 (x : Int) 5 = ((x ^^^ 5 : Nat) : Int) := by
  have hx : x ^^^ 5 < 2 ^ 32 := Nat.xor_lt_two_pow (n := 32) (by omega) (by decide)
  have h1 : (BitVec.ofInt 32 (x : Int)).toNat = x := by
    rw [BitVec.ofInt_natCast, BitVec.toNat_ofNat]; exact Nat.mod_eq_of_lt (by omega)
  show IntKind.u32.wrap ((BitVec.ofInt 32 (x : Int) ^^^ BitVec.ofInt 32 5).toNat : Int) = _
  have h2 : (BitVec.ofInt 32 5).toNat = 5 := by decide
  rw [BitVec.toNat_xor, h1, h2]
  have : IntKind.u32.wrap ((x ^^^ 5 : Nat) : Int) = ((x ^^^ 5 : Nat) : Int) % 4294967296 := by simp [IntKind.wrap, IntKind.bits, IntKind.signed]
  rw [this]
  omega
set_option maxRecDepth 100000 in
set_option maxHeartbeats 4000000 in
theorem lholds_in {w : World} {p : Option Addr} {n c : Nat} {T : List Nat} (hT : T.length = n) (hn : n ≤ 200) (hr : Ru w p (ints T)) (hw : ∀ x ∈ T, x < 4294967296) (add : Nat) (hadd : add < 4294967296) :
    Calls Try.prog 12 #[.slice p n c, .int .u32 (add : Int)] w fun e w' => e = .returned (.bool true) ∧ Below w.heap.size w w' := by
  have HKN := Lib.hid known37
  have h1 : ¬ (200 : Int) < (n : Int) := by omega
  have HD := Lib.hid (fun (v : World) (hb : Below w.heap.size w v) => Distances_any (c := c) hT (by omega) (hr.below hb) hw)
  have HS := Lib.hid (fun (v : World) (hb : Below w.heap.size w v) => Stack_any (c := c) hT (by omega) (hr.below hb) hw)
  have HH := Lib.hid (fun (v : World) (hb : Below w.heap.size w v) => Hits_any (c := c) hT (by omega) (hr.below hb) hw)
  have HR := Lib.hid (show T.length = n ∧ Ru w p (ints T) ∧ (∀ x ∈ T, x < 4294967296) ∧ add < 4294967296 from ⟨hT, hr, hw, hadd⟩)
  have HL := Lib.hid (show n ≤ 200 ∧ (dists [] T).length = n ∧ (stk [] T).length ≤ n ∧ (upto (dists [] T) (stk [] T).length : Int) = (n : Int) - ((stk [] T).length : Int) from ⟨by omega, by rw [dists_len]; exact hT, by have := stk_len T []; simp at this; omega, by rw [upto_all, hT]⟩)
  obtain ⟨K, hK⟩ : ∃ K, (stk [] T).length = K := ⟨_, rfl⟩
  obtain ⟨ds, hds⟩ : ∃ ds, dists [] T = ds := ⟨_, rfl⟩
  rw [hK, hds] at HH HL
  rw [hds] at HD
  rw [hK] at HS
  obtain ⟨K1, hK1⟩ : ∃ K1, K + 1 = K1 := ⟨_, rfl⟩
  rw [hK1] at HH
  have HKK := Lib.hid (show K + 1 = K1 ∧ dists [] T = ds from ⟨hK1, hds⟩)
  have wk : IntKind.i64.wrap ((K : Int) + 1) = (K1 : Int) := by rw [IntWalk.i64_in _ (by have := HL.out; omega)]; omega
  obtain ⟨zK, hzK⟩ : ∃ z : Int, (upto ds K : Int) = z := ⟨_, rfl⟩
  have wn : IntKind.i64.wrap ((n : Int) - (K : Int)) = zK := by rw [IntWalk.i64_in _ (by have := HL.out; omega)]; have := HL.out; omega
  have i1 : (K : Int) < (K1 : Int) := by omega
  have i2 : (0 : Int) ≤ (K : Int) := by omega
  have i3 : (0 : Int) < (K1 : Int) := by omega
  have HZK := Lib.hid hzK
  have hadd2 := App.mk_row (t := 39) (e := 38) (z := .int .u32 0) (bytes := 4) (by kernel_rfl) (by kernel_rfl) rfl (by omega) n (by omega)
  have HMK := Lib.hid hadd2
  clear hT hr hw hn hK hds hK1 hadd hzK hadd2
  go_enter Try.func12, Try.ntmps12
  go_wp2_with fail
  refine (HD.out _ (Below.refl _ _)).mono ?_
  rintro e w1 ⟨lv, rfl, row, b1⟩
  obtain ⟨dp, dc, rfl, ri, -⟩ := own_ri row
  have D1 := Lib.hid ri
  have B1 := Lib.hid b1
  clear row ri b1
  go_wp2_with fail
  refine (HH.out _ B1.out).mono ?_
  rintro e w2 ⟨g, rfl, -, row, b2⟩
  have H2 := Lib.hid row
  have D2 := Lib.hid (D1.out.below b2)
  have B2 := Lib.hid (tr B1.out b2)
  clear row b2 D1 B1
  go_wp2_with fail
  refine (HS.out _ B2.out).mono ?_
  rintro e w3 ⟨sv, rfl, row, b3⟩
  obtain ⟨sp, sc, rfl, -, -⟩ := own_ru row
  have H3 := Lib.hid (H2.out.below b3)
  have D3 := Lib.hid (D2.out.below b3)
  have B3 := Lib.hid (tr B2.out b3)
  clear row b3 D2 B2 H2
  have c0 : w3.cell? ⟨g, 0, none⟩ = some (.int .i64 0) := by
    have := H3.out.cell 0 (by have := HKK.out; omega)
    rwa [upto_zero] at this
  have cK : w3.cell? ⟨g, K, none⟩ = some (.int .i64 zK) := by
    have := H3.out.cell K (by have := HKK.out; omega)
    rwa [HZK.out] at this
  go_wp2_with fail
  clear c0 cK wn wk i1
  go_loopw [11] (fun iv wr => ∃ s : Nat, s ≤ K1 ∧ iv = .int .i64 (s : Int) ∧ Hid (Below w.heap.size w wr) ∧ Hid (Ri wr dp ds) ∧ Hid (Row wr g K1 3 fun i => .int .i64 (upto ds i : Int))) (fun iv _ => K1 - (intOf iv).toNat)
  case atStart => exact ⟨0, Nat.zero_le _, rfl, B3, D3, H3⟩
  case round =>
    obtain ⟨s, hs, rfl, BW, DW, HW⟩ := hrel
    clear D3 H3 B3
    by_cases hsK : s < K1
    · have i4 : (s : Int) < (K1 : Int) := by omega
      have i5 : (0 : Int) ≤ (s : Int) := by omega
      have HSK := Lib.hid hsK
      clear hs hsK
      go_wp2_with fail
      obtain ⟨W, rfl⟩ : ∃ W, W = wr := ⟨_, rfl⟩
      go_loopw [13, 12] (fun iv nv V => ∃ j : Nat, j ≤ n ∧ iv = .int .i64 (j : Int) ∧ nv = .int .i64 (upto (ds.take j) s : Int) ∧ Hid (Below W.heap.size W V)) (fun iv _ _ => n - (intOf iv).toNat)
      case atStart => exact ⟨0, Nat.zero_le _, rfl, rfl, Lib.hid (Below.refl _ _)⟩
      case round =>
        obtain ⟨j, hj, rfl, rfl, BV⟩ := hrel
        obtain ⟨z, hz⟩ : ∃ z : Int, (upto (ds.take j) s : Int) = z := ⟨_, rfl⟩
        have HZ := Lib.hid (show (upto (ds.take j) s : Int) = z ∧ 0 ≤ z ∧ z ≤ j from ⟨hz, by omega, by
          have h := List.length_filter_le (fun d => decide (0 ≤ d ∧ d < (s : Int))) (ds.take j)
          rw [List.length_take] at h
          unfold upto at hz
          omega⟩)
        rw [hz]
        clear hz
        by_cases hjn : j < n
        · have j1 : (j : Int) < (n : Int) := by omega
          have j0 : (0 : Int) ≤ (j : Int) := by omega
          obtain ⟨d, hd⟩ : ∃ d, ds[j]? = some d := ⟨ds[j]'(by have := HL.out; omega), List.getElem?_eq_getElem _⟩
          obtain ⟨y, rfl, -, e0⟩ := (DW.out.below BV.out) j d hd
          have wj := IntWalk.i64_in ((j : Int) + 1) (by have := HL.out; omega)
          have wz := IntWalk.i64_in (z + 1) (by have := HZ.out; have := HL.out; omega)
          have HU := Lib.hid (upto_take hd s)
          have HJ := Lib.hid hjn
          clear hj hjn hd
          by_cases hd1 : 0 ≤ d ∧ d < (s : Int)
          · have d0 : decide ((0 : Int) ≤ d) = true := decide_eq_true hd1.1
            have d1 : decide (d < (s : Int)) = true := decide_eq_true hd1.2
            have HN := Lib.hid (show (upto (ds.take (j + 1)) s : Int) = z + 1 from by have := HU.out; rw [if_pos hd1] at this; have := HZ.out; omega)
            have d2 := hd1.1
            have d3 := hd1.2
            clear hd1
            go_wp2_with fail
            go_roundw
            case rel => exact ⟨j + 1, by have := HJ.out; omega, by go_num, by rw [HN.out], BV⟩
            case measure => have := HJ.out; simp [intOf]; omega
          · have HN := Lib.hid (show (upto (ds.take (j + 1)) s : Int) = z from by have := HU.out; rw [if_neg hd1] at this; have := HZ.out; omega)
            by_cases hd2 : 0 ≤ d
            · have d3 : ¬ d < (s : Int) := fun h => hd1 ⟨hd2, h⟩
              clear hd1
              go_wp2_with fail
              go_roundw
              case rel => exact ⟨j + 1, by have := HJ.out; omega, by go_num, by rw [HN.out], BV⟩
              case measure => have := HJ.out; simp [intOf]; omega
            · clear hd1
              go_wp2_with fail
              go_roundw
              case rel => exact ⟨j + 1, by have := HJ.out; omega, by go_num, by rw [HN.out], BV⟩
              case measure => have := HJ.out; simp [intOf]; omega
        · have j1 : ¬ (j : Int) < (n : Int) := by omega
          obtain rfl : j = n := by omega
          rw [List.take_of_length_le (by have := HL.out; omega)] at HZ
          have HV := Lib.hid (HW.out.below BV.out)
          have cs := HV.out.cell s HSK.out
          rw [HZ.out.1] at cs
          have wj := IntWalk.i64_in ((s : Int) + 1) (by have := HSK.out; have := HKK.out; have := HL.out; omega)
          have DV := Lib.hid (DW.out.below BV.out)
          have BX := Lib.hid (tr BW.out BV.out)
          obtain ⟨V, rfl⟩ : ∃ V, V = wr := ⟨_, rfl⟩
          by_cases hs0 : s = 0
          · have Z0 := Lib.hid (show decide ((0 : Int) < (s : Int)) = false from decide_eq_false (by omega))
            have hzz : (z != z) = false := by simp
            clear hs0
            go_wp2_with fail
            have z0 := Z0.out
            have z2 : ¬ 0 < s := by have := of_decide_eq_false Z0.out; omega
            go_quiet (fail)
            go_wp2_with fail
            go_roundw
            case rel => exact ⟨s + 1, by have := HSK.out; omega, by go_num, Lib.hid (below_drewN BX.out _), Lib.hid (DV.out.below (below_drewN (Below.refl _ _) _)), Lib.hid (HV.out.below (below_drewN (Below.refl _ _) _))⟩
            case measure => have := HSK.out; simp [intOf]; omega
          · have Z0 := Lib.hid (show decide ((0 : Int) < (s : Int)) = true from decide_eq_true (by omega))
            obtain ⟨s1, hs1⟩ : ∃ s1, s - 1 = s1 := ⟨_, rfl⟩
            have hzz : (z != z) = false := by simp
            have wm : IntKind.i64.wrap ((s : Int) - 1) = (s1 : Int) := by rw [IntWalk.i64_in _ (by have := HSK.out; have := HKK.out; have := HL.out; omega)]; omega
            have c1 := HV.out.cell s1 (by have := HSK.out; omega)
            have s10 : (0 : Int) ≤ (s1 : Int) := by omega
            have s11 : (s1 : Int) < (K1 : Int) := by have := HSK.out; omega
            obtain ⟨zb, hzb⟩ : ∃ zb : Int, (upto ds s1 : Int) = zb := ⟨_, rfl⟩
            rw [hzb] at c1
            have HLT := Lib.hid <| show decide (z < zb) = false from decide_eq_false <| by
              have := upto_mono ds s1
              rw [show s1 + 1 = s by omega] at this
              have := HZ.out
              omega
            clear hs0 hs1 hzb
            go_wp2_with fail
            have z0 := Z0.out
            have z2 : 0 < s := by have := of_decide_eq_true Z0.out; omega
            have z1 := HLT.out
            go_quiet (fail)
            go_wp2_with fail
            go_roundw
            case rel => exact ⟨s + 1, by have := HSK.out; omega, by go_num, Lib.hid (below_drewN BX.out _), Lib.hid (DV.out.below (below_drewN (Below.refl _ _) _)), Lib.hid (HV.out.below (below_drewN (Below.refl _ _) _))⟩
            case measure => have := HSK.out; simp [intOf]; omega
    · have i4 : ¬ (s : Int) < (K1 : Int) := by omega
      obtain ⟨W, rfl⟩ : ∃ W, W = wr := ⟨_, rfl⟩
      have hmk := HMK.out W
      have R0 := Lib.hid (Row.made W (.int .u32 0) rfl n 38)
      have B0 := Lib.hid (box_below W (madeCells #[.int .u32 0] n) 38)
      clear HH HS HMK
      go_wp2_with fail
      clear hmk
      go_loopw [15] (fun iv V => ∃ j : Nat, j ≤ n ∧ iv = .int .i64 (j : Int) ∧ Hid (Row V W.heap.size n 38 fun k => .int .u32 (if k < j then ((T.map (oth add)).getD k 0 : Nat) else 0)) ∧ Hid (Below W.heap.size W V)) (fun iv _ => n - (intOf iv).toNat)
      case atStart => exact ⟨0, Nat.zero_le _, rfl, Lib.hid (R0.out.congr fun i _ => by simp), B0⟩
      case round =>
        obtain ⟨j, hj, rfl, RW, BV⟩ := hrel
        clear R0 B0
        by_cases hjn : j < n
        · have j1 : (j : Int) < (n : Int) := by omega
          have j0 : (0 : Int) ≤ (j : Int) := by omega
          obtain ⟨x, hx⟩ := take_lt HR.out.1 hjn
          obtain ⟨u, hu⟩ : ∃ u : Int, (x : Int) = u := ⟨_, rfl⟩
          obtain ⟨y, rfl, hyb, e0⟩ := (HR.out.2.1.below (tr BW.out BV.out)) j u (by rw [← hu]; exact Lnk.ints_at hx)
          have kc := RW.out.cell j hjn
          have kf := RW.out.fr j
          have wj := IntWalk.i64_in ((j : Int) + 1) (by have := HL.out; omega)
          clear hj
          go_wp2_with fail
          have hv : (bits BinOp.xor .u32 u 5 + (add : Int)) % 4294967296 = ((oth add x : Nat) : Int) := by
            rw [← hu]
            have h1 : bits BinOp.xor .u32 (x : Int) 5 = ((x ^^^ 5 : Nat) : Int) := xor5 (HR.out.2.2.1 x (List.mem_of_getElem? hx))
            rw [h1]
            unfold oth
            omega
          have hg : (T.map (oth add)).getD j 0 = oth add x := by rw [List.getD_eq_getElem?_getD, List.getElem?_map, hx]; rfl
          rw [hv]
          refine ⟨⟨j + 1, by omega, rfl, Lib.hid ((RW.out.set j _).congr fun i hi => ?_), Lib.hid (BV.out.setCell (p := ⟨W.heap.size, j, none⟩) (Nat.le_refl _) _)⟩, by simp [intOf]; omega⟩
          by_cases hij : i = j
          · subst hij
            rw [if_pos rfl, if_pos (by omega), hg]
          · rw [if_neg hij]
            by_cases h2 : i < j
            · rw [if_pos h2, if_pos (by omega)]
            · rw [if_neg h2, if_neg (by omega)]
        · have j1 : ¬ (j : Int) < (n : Int) := by omega
          obtain rfl : j = n := by omega
          have hru : Ru wr (some ⟨W.heap.size, 0, none⟩) (ints (T.map (oth add))) := by
            have h := App.Row.rg RW.out
            apply ru_rg
            have e : (ints (T.map (oth add))).map (Value.int .u32) = (List.range j).map fun k => .int .u32 (if k < j then ((T.map (oth add)).getD k 0 : Nat) else 0) := by
              unfold ints
              apply List.ext_getElem?
              intro i
              rw [List.getElem?_map, List.getElem?_map, List.getElem?_map, List.getElem?_map]
              by_cases hi : i < j
              · rw [List.getElem?_range hi]
                have : T[i]? = some (T[i]'(by rw [HR.out.1]; exact hi)) := List.getElem?_eq_getElem _
                rw [this]
                simp only [Option.map_some, if_pos hi]
                rw [List.getD_eq_getElem?_getD, List.getElem?_map, this]
                rfl
              · rw [List.getElem?_eq_none (l := T) (by rw [HR.out.1]; omega), List.getElem?_eq_none (l := List.range j) (by rw [List.length_range]; omega)]
                rfl
            rw [e]
            exact h
          have HC := Lib.hid (Distances_any (c := j) (T := T.map (oth add)) (n := j) (by rw [List.length_map]; exact HR.out.1) (by have := HL.out; omega) hru (fun x hx => by
            obtain ⟨y, _, rfl⟩ := List.mem_map.1 hx
            exact oth_lt _ _))
          have hE : dists [] (T.map (oth add)) = ds := by
            rw [← HKK.out.2]
            exact dists_map (f := oth add) (fun x => x < 4294967296) (fun x y hx hy e => oth_inj add HR.out.2.2.2 x y hx hy e) T [] (fun x hx => by cases hx) HR.out.2.2.1
          rw [hE] at HC
          have DV := Lib.hid (DW.out.below BV.out)
          have BX := Lib.hid (tr BW.out BV.out)
          clear hru hE
          go_wp2_with fail
          refine HC.out.mono ?_
          rintro e w5 ⟨lv, rfl, row, b5⟩
          obtain ⟨xp, xc, rfl, ri, -⟩ := own_ri row
          have HI := Lib.hid (ints37_any (c1 := xc) (c2 := dc) HL.out.2.1 HL.out.2.1 ri (DV.out.below b5) (by have := HL.out; omega) (by have := HL.out; omega))
          have B5 := Lib.hid (tr BX.out b5)
          clear row ri b5 HC
          go_wp2_with fail
          refine HI.out.mono ?_
          rintro e w6 ⟨⟨t, rfl, ht⟩, b6⟩
          obtain rfl : t = true := ht.2 (by first | exact trivial | rfl)
          have B6 := Lib.hid (tr B5.out b6)
          clear ht b6 HI
          go_wp2_with fail
          refine (HKN.out _).mono ?_
          rintro e w7 ⟨rfl, b7⟩
          have B7 := Lib.hid (tr B6.out b7)
          clear b7
          go_wp2_with fail
          go_returns
          exact ⟨rfl, B7.out⟩
end Go.Proofs.Ytbbcmheedhdlfaa.Reu
namespace Go.Proofs.Ytbbcmheedhdlfaa.Reu
open Go Go.RowKit Kit Go.Maps Lnk Lru
theorem ru_nat {w : World} {p : Option Addr} {n k : Nat} (h : (p = none ∧ n = 0) ∨ ∃ y, p = some y ∧ n ≤ k ∧ k ≤ maxLen ∧ ∀ i, i < n → ∃ z : Int, w.cell? (y.add i) = some (.int .u32 z) ∧ (Lit.int .u32 z).wf = true) : ∃ T : List Nat, T.length = n ∧ Ru w p (ints T) ∧ (∀ t ∈ T, t < 4294967296) := by
  rcases h with ⟨rfl, rfl⟩ | ⟨y, rfl, h1, h2, h3⟩
  · exact ⟨[], rfl, fun i x hx => by simp [ints] at hx, fun t ht => by cases ht⟩
  · have h4 : ∀ i, ∃ t : Nat, i < n → w.cell? (y.add i) = some (.int .u32 (t : Int)) ∧ t < 4294967296 := fun i => by
      by_cases hi : i < n
      · obtain ⟨z, e1, e2⟩ := h3 i hi
        have b := Ev.wf_u32 e2
        exact ⟨z.toNat, fun _ => ⟨by rw [e1]; congr 2; omega, by omega⟩⟩
      · exact ⟨0, fun h => absurd h hi⟩
    obtain ⟨f, hf⟩ := Classical.axiomOfChoice h4
    refine ⟨(List.range n).map f, by simp, fun i x hx => ?_, fun t ht => ?_⟩
    · unfold ints at hx
      rw [List.map_map, List.getElem?_map] at hx
      cases hr : (List.range n)[i]? with
      | none => rw [hr] at hx; cases hx
      | some j =>
        rw [hr] at hx
        obtain ⟨hi, he⟩ := List.getElem?_eq_some_iff.1 hr
        simp at he hi
        subst he
        simp at hx
        subst hx
        have hc := (hf i hi).1
        refine ⟨y, rfl, ?_, hc⟩
        have : (y.add i).block < w.heap.size := by
          unfold World.cell? at hc
          cases hh : w.heap[(y.add i).block]? with
          | none => rw [hh] at hc; cases hc
          | some o => exact (Array.getElem?_eq_some_iff.1 hh).1
        rwa [Lnk.add_block] at this
    · obtain ⟨i, hi, rfl⟩ := List.mem_map.1 ht
      exact (hf i (by simpa using hi)).2
theorem ldist_row {w : World} {p : Option Addr} {n k : Nat} (h : (p = none ∧ n = 0) ∨ ∃ y, p = some y ∧ n ≤ k ∧ k ≤ maxLen ∧ ∀ i, i < n → ∃ z : Int, w.cell? (y.add i) = some (.int .u32 z) ∧ (Lit.int .u32 z).wf = true) :
    Calls Try.prog 8 #[.slice p n k] w fun e w' => e = .returned (.bool true) ∧ Below w.heap.size w w' := by
  obtain ⟨T, h1, h2, h3⟩ := ru_nat h
  exact ldist_any h1 h2 h3
theorem lhits_row {w : World} {p : Option Addr} {n k : Nat} (h : (p = none ∧ n = 0) ∨ ∃ y, p = some y ∧ n ≤ k ∧ k ≤ maxLen ∧ ∀ i, i < n → ∃ z : Int, w.cell? (y.add i) = some (.int .u32 z) ∧ (Lit.int .u32 z).wf = true) (a : Int) :
    Calls Try.prog 9 #[.slice p n k, .int .i64 a] w fun e w' => e = .returned (.bool true) ∧ Below w.heap.size w w' := by
  obtain ⟨T, h1, h2, h3⟩ := ru_nat h
  exact lhits_any h1 h2 h3 a
theorem lholds_row {w : World} {p : Option Addr} {n k : Nat} (h : (p = none ∧ n = 0) ∨ ∃ y, p = some y ∧ n ≤ k ∧ k ≤ maxLen ∧ ∀ i, i < n → ∃ z : Int, w.cell? (y.add i) = some (.int .u32 z) ∧ (Lit.int .u32 z).wf = true) {a : Int} (ha : 0 ≤ a ∧ a ≤ 4294967295) :
    Calls Try.prog 12 #[.slice p n k, .int .u32 a] w fun e w' => e = .returned (.bool true) ∧ Below w.heap.size w w' := by
  obtain ⟨T, h1, h2, h3⟩ := ru_nat h
  obtain ⟨b, rfl⟩ := Int.eq_ofNat_of_zero_le ha.1
  by_cases hn : n ≤ 200
  · exact lholds_in h1 hn h2 h3 b (by omega)
  · exact lholds_far (by omega)
end Go.Proofs.Ytbbcmheedhdlfaa.Reu
