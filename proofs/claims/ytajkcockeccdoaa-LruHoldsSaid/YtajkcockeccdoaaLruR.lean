/-
  Plain LRU lists (layer 15): LruHolds.
-/
import Derived.Test.YtajkcockeccdoaaLruQ
import Derived.Test.YtajkcockeccdoaaLruV
set_option linter.unusedVariables false
set_option linter.unusedSimpArgs false
namespace Go.Proofs.Ytajkcockeccdoaa.Lru
open Go Go.RowKit Kit Go.Shelf Lnk
theorem last_len (most : Nat) (xs : List Nat) : (lastG most xs.reverse []).length ≤ most := by
  rw [lastG_rt most _ [] (Nat.zero_le _), rt_len]
  omega
theorem last_in (most : Nat) : ∀ (r out : List Nat) {u : Nat}, u ∈ lastG most r out → u ∈ r ∨ u ∈ out
  | [], out, u, h => .inr h
  | x :: r, out, u, h => by
    unfold lastG at h
    split at h
    · rcases last_in most r _ h with h1 | h1
      · exact .inl (List.mem_cons_of_mem _ h1)
      · split at h1
        · exact .inr h1
        · rcases List.mem_cons.1 h1 with rfl | h2
          · exact .inl (List.mem_cons_self ..)
          · exact .inr h2
    · exact .inr h
theorem ints_take2 (l : List Nat) (k : Nat) : ints (l.take k) = (ints l).take k := by unfold ints; rw [List.map_take]
set_option maxRecDepth 100000 in
theorem lholds_far {w : World} {p : Option Addr} {n c : Nat} {s g : Int} (h : 200 < n ∨ 50 < s ∨ g < s ∨ 100 < g)
    (HKN : ∀ v, Below w.heap.size w v → Calls Try.prog 40 #[] v fun e w' => e = .returned (.bool true) ∧ Below v.heap.size v w') :
    Calls Try.prog 10 #[.slice p n c, .int .u8 s, .int .u8 g] w fun e w' => e = .returned (.bool true) ∧ Below w.heap.size w w' := by
  have HK := Lib.hid (HKN w (Below.refl _ _))
  clear HKN
  by_cases h1 : (200 : Int) < (n : Int)
  · clear h
    go_enter Try.func10, Try.ntmps10
    go_wp2_with fail
    refine HK.out.mono ?_
    rintro e w1 ⟨rfl, b1⟩
    have B1 := Lib.hid b1
    clear b1
    go_wp2_with fail
    go_ret
    exact ⟨rfl, B1.out⟩
  · by_cases h2 : 50 < s
    · clear h
      go_enter Try.func10, Try.ntmps10
      go_wp2_with fail
      refine HK.out.mono ?_
      rintro e w1 ⟨rfl, b1⟩
      have B1 := Lib.hid b1
      clear b1
      go_wp2_with fail
      go_ret
      exact ⟨rfl, B1.out⟩
    · by_cases h3 : g < s
      · clear h
        go_enter Try.func10, Try.ntmps10
        go_wp2_with fail
        refine HK.out.mono ?_
        rintro e w1 ⟨rfl, b1⟩
        have B1 := Lib.hid b1
        clear b1
        go_wp2_with fail
        go_ret
        exact ⟨rfl, B1.out⟩
      · have h4 : 100 < g := by omega
        clear h
        go_enter Try.func10, Try.ntmps10
        go_wp2_with fail
        refine HK.out.mono ?_
        rintro e w1 ⟨rfl, b1⟩
        have B1 := Lib.hid b1
        clear b1
        go_wp2_with fail
        go_ret
        exact ⟨rfl, B1.out⟩
set_option maxRecDepth 100000 in
set_option maxHeartbeats 40000000 in
theorem lholds_in {w : World} {p : Option Addr} {n c : Nat} {xs : List Nat} (hl : xs.length = n) (hc : n ≤ c) (r : Ru w p (ints xs)) (hw : ∀ x ∈ xs, x < 4294967296) {s g : Nat} (h1 : n ≤ 200) (h2 : s ≤ 50) (h3 : s ≤ g) (h4 : g ≤ 100)
    (HKN : ∀ v, Below w.heap.size w v → Calls Try.prog 40 #[] v fun e w' => e = .returned (.bool true) ∧ Below v.heap.size v w') :
    Calls Try.prog 10 #[.slice p n c, .int .u8 (s : Int), .int .u8 (g : Int)] w fun e w' => e = .returned (.bool true) ∧ Below w.heap.size w w' := by
  have HK := Lib.hid HKN
  have HR := Lib.hid (fun (v : World) (hb : Below w.heap.size w v) => r.below hb)
  have HL := Lib.hid hl
  have HW := Lib.hid hw
  have HN := Lib.hid (fun (v : World) => New_any v)
  have c1 : ¬ (200 : Int) < (n : Int) := by omega
  have c2 : ¬ (50 : Int) < (s : Int) := by omega
  have c3 : ¬ (g : Int) < (s : Int) := by omega
  have c4 : ¬ (100 : Int) < (g : Int) := by omega
  have ws : IntKind.i64.wrap (s : Int) = (s : Int) := IntWalk.i64_in (s : Int) (by omega)
  have wg : IntKind.i64.wrap (g : Int) = (g : Int) := IntWalk.i64_in (g : Int) (by omega)
  clear HKN r hl hw
  go_enter Try.func10, Try.ntmps10
  go_wp2_with fail
  refine (HN.out _).mono ?_
  rintro e v1 ⟨⟨oa, ca, qa, ra, Fa, rfl, lua, g1, g2, g3, g4⟩, b1⟩
  have LUA := Lib.hid lua
  have GA := Lib.hid (show w.heap.size ≤ oa ∧ w.heap.size ≤ ca ∧ w.heap.size ≤ qa ∧ w.heap.size ≤ ra from ⟨g1, g2, g3, g4⟩)
  have B1 := Lib.hid b1
  clear lua g1 g2 g3 g4 b1
  go_wp2_with fail
  refine (HN.out _).mono ?_
  rintro e v2 ⟨⟨ob, cb, qb, rb, Fb, rfl, lub, g1, g2, g3, g4⟩, b2⟩
  have T2 := Lib.hid (two_new (w := w) LUA.out GA.out B1.out lub ⟨g1, g2, g3, g4⟩ b2)
  clear lub g1 g2 g3 g4 b2 LUA GA B1
  go_wp2_with fail
  go_loopw [9] (fun i wr => ∃ (k : Nat) (la lb : List Nat), k ≤ n ∧ i = .int .i64 (k : Int) ∧ Hid (Two w wr oa la ob lb) ∧ la = lastG s (xs.take k).reverse [] ∧ lb = lastG g (xs.take k).reverse []) (fun i _ => n - (intOf i).toNat)
  case atStart => exact ⟨0, [], [], Nat.zero_le _, rfl, T2, rfl, rfl⟩
  case round =>
    obtain ⟨k, la, lb, hk, rfl, T, hla, hlb⟩ := hrel
    clear T2
    by_cases hlt : k < n
    · obtain ⟨x, hx⟩ : ∃ x, xs[k]? = some x := ⟨xs[k]'(by rw [HL.out]; exact hlt), List.getElem?_eq_getElem _⟩
      obtain ⟨y, rfl, hyb, e0⟩ := HR.out _ (Two.base T) k (x : Int) (Lnk.ints_at hx)
      have HCE := Lib.hid (fun (v : World) (hb : Below w.heap.size w v) => (show v.cell? (y.add k) = some (.int .u32 (x : Int)) from by
        obtain ⟨y', h, _, e⟩ := HR.out v hb k (x : Int) (Lnk.ints_at hx)
        cases h
        exact e))
      have hx32 := HW.out x (List.mem_of_getElem? hx)
      have d1 : (k : Int) < (n : Int) := by omega
      have d0 : (0 : Int) ≤ (k : Int) := by omega
      have wk := IntWalk.i64_in ((k : Int) + 1) (by omega)
      by_cases hbig : 5000 ≤ x
      · have HB := Lib.hid (Two.base T)
        have hd : decide ((5000 : Int) ≤ (x : Int)) = true := decide_eq_true (by omega)
        obtain ⟨z, hz⟩ : ∃ z : Int, (x : Int) = z := ⟨_, rfl⟩
        rw [hz] at e0 hd
        clear hz hbig hx32 hx HCE T
        go_wp2_with fail
        refine (HK.out _ HB.out).mono ?_
        rintro e w1 ⟨rfl, b1⟩
        have B9 := Lib.hid (tr HB.out b1)
        clear b1
        go_wp2_with fail
        go_ret
        exact ⟨rfl, B9.out⟩
      · have hd : decide ((5000 : Int) ≤ (x : Int)) = false := decide_eq_false (by omega)
        obtain ⟨la', hla'⟩ : ∃ la', lastG s (xs.take (k + 1)).reverse [] = la' := ⟨_, rfl⟩
        obtain ⟨lb', hlb'⟩ : ∃ lb', lastG g (xs.take (k + 1)).reverse [] = lb' := ⟨_, rfl⟩
        have htk : xs.take (k + 1) = xs.take k ++ [x] := by rw [List.take_add_one, hx]; rfl
        have hua : usedL la x s = la' := by rw [hla, last_snoc, ← htk, hla']
        have hub : usedL lb x g = lb' := by rw [hlb, last_snoc, ← htk, hlb']
        have hna : la.length ≤ s := by rw [hla]; exact last_len _ _
        have hnb : lb.length ≤ g := by rw [hlb]; exact last_len _ _
        have hna' : la'.length ≤ s := by rw [← hla']; exact last_len _ _
        have hnb' : lb'.length ≤ g := by rw [← hlb']; exact last_len _ _
        have hsub : ∀ u ∈ la', u ∈ lb' := fun u hu => by rw [← hlb']; exact last_mem h3 (by rw [hla']; exact hu)
        have hxk : (xs.take (k + 1)).length = k + 1 := by rw [List.length_take, HL.out]; omega
        have HH := Lib.hid (show usedL la x s = la' ∧ usedL lb x g = lb' ∧ la.length ≤ s ∧ lb.length ≤ g ∧ (∀ u ∈ la', u ∈ lb') ∧ x < 4194304 ∧ lastG s (xs.take (k + 1)).reverse [] = la' ∧ lastG g (xs.take (k + 1)).reverse [] = lb' ∧ (xs.take (k + 1)).length = k + 1 from ⟨hua, hub, hna, hnb, hsub, by omega, hla', hlb', hxk⟩)
        have HRT := Lib.hid (fun (v : World) (hb : Below w.heap.size w v) => (show Ru v (some y) (ints (xs.take (k + 1))) from by rw [ints_take2]; exact (HR.out v hb).take (k + 1)))
        obtain ⟨na, hea⟩ : ∃ na, la'.length = na := ⟨_, rfl⟩
        obtain ⟨nb, heb⟩ : ∃ nb, lb'.length = nb := ⟨_, rfl⟩
        rw [hea] at hna'
        rw [heb] at hnb'
        have HE := Lib.hid (show la'.length = na ∧ lb'.length = nb from ⟨hea, heb⟩)
        obtain ⟨z, hz⟩ : ∃ z : Int, (x : Int) = z := ⟨_, rfl⟩
        have HZ := Lib.hid hz
        rw [hz] at e0 hd HCE
        obtain ⟨k1, hk1⟩ : ∃ k1, k + 1 = k1 := ⟨_, rfl⟩
        rw [hk1] at HH HRT
        have wk2 : IntKind.i64.wrap ((k : Int) + 1) = (k1 : Int) := by rw [wk]; omega
        have d3 : (k1 : Int) ≤ (c : Int) := by omega
        have d4 : (0 : Int) ≤ (k1 : Int) := by omega
        have d5 : k1 ≤ 200 := by omega
        have HK1 := Lib.hid hk1
        clear wk hla hlb hla' hlb' htk hua hub hna hnb hsub hxk hea heb hz hbig hx32 hx hk1 hyb
        go_wp2_with fail
        rw [← HZ.out]
        refine (Two.used T x HH.out.2.2.2.2.2.1 s la' HH.out.2.2.1 (by omega) HH.out.1).mono ?_
        rintro e u1 ⟨rfl, T1⟩
        rw [HZ.out]
        clear T e0
        have e1 := HCE.out _ (Two.base T1)
        go_wp2_with fail
        rw [← HZ.out]
        refine (Two.used (Two.symm T1) x HH.out.2.2.2.2.2.1 g lb' HH.out.2.2.2.1 (by omega) HH.out.2.1).mono ?_
        rintro e u2 ⟨rfl, T2s⟩
        have T2 := Two.symm T2s
        rw [HZ.out]
        clear T1 e1 T2s
        go_wp2_with fail
        have T20 := Two.below T2 (Below.drew (Below.refl u2.heap.size u2))
        clear T2
        go_region_held3 (fun u => Hid (Two w u oa la' ob lb')) (first | assumption | exact Two.symm (by assumption)) (first
            | (go_at_call 50; refine (Two.same T7 RB7 RM nb kb km HE.out.2 (by omega)).mono ?_; rintro e u8 ⟨rfl, T8s⟩; have T8 := Two.symm T8s)
            | (go_at_call 52; refine (Two.last T6 RB k1 c g nb lb' HH.out.2.2.2.2.2.2.2.2 (by omega) (by omega) (HRT.out _ (Two.base T6)) HH.out.2.2.2.2.2.2.2.1 HE.out.2).mono ?_; rintro e u7 ⟨pm, km, rfl, RM, RB7, T7⟩)
            | (go_at_call 51; refine (Two.coll (Two.symm T5) nb HE.out.2 (by omega)).mono ?_; rintro e u6 ⟨pb, kb, rfl, RB, T6⟩)
            | (go_at_call 50; refine (Two.same T4 RA4 RL na ka kl HE.out.1 (by omega)).mono ?_; rintro e u5 ⟨rfl, T5⟩)
            | (go_at_call 52; refine (Two.last T3 RA k1 c s na la' HH.out.2.2.2.2.2.2.2.2 (by omega) (by omega) (HRT.out _ (Two.base T3)) HH.out.2.2.2.2.2.2.1 HE.out.1).mono ?_; rintro e u4 ⟨pl, kl, rfl, RL, RA4, T4⟩)
            | (go_at_call 51; refine (Two.coll (by assumption) na HE.out.1 (by omega)).mono ?_; rintro e u3 ⟨pa, ka, rfl, RA, T3⟩))
        go_wp2_with fail
        refine (Two.coll T8 na HE.out.1 (by omega)).mono ?_
        rintro e u9 ⟨pf, kf, rfl, RF, T9⟩
        clear T8
        go_wp2_with fail
        clear RA T3 RL RA4 T4 T5 RB T6 RM RB7 T7 T8s T20 HCE HZ hd
        go_loopw [11] (fun i wr => ∃ j : Nat, j ≤ na ∧ i = .int .i64 (j : Int) ∧ Hid (Two w wr oa la' ob lb') ∧ Hid (Ru wr pf (ints la'))) (fun i _ => na - (intOf i).toNat)
        case atStart => exact ⟨0, Nat.zero_le _, rfl, T9, RF⟩
        case round =>
          obtain ⟨j, hj, rfl, TJ, RJ⟩ := hrel
          by_cases hjl : j < na
          · obtain ⟨v0, hv⟩ : ∃ v0, la'[j]? = some v0 := ⟨la'[j]'(by rw [HE.out.1]; exact hjl), List.getElem?_eq_getElem _⟩
            have hin := List.mem_of_getElem? hv
            have hmem := HH.out.2.2.2.2.1 v0 hin
            have h32 : v0 < 4294967296 := by
              have h5 := HH.out.2.2.2.2.2.2.1
              rw [← h5] at hin
              rcases last_in _ _ _ hin with h6 | h6
              · exact HW.out v0 (List.mem_of_mem_take (List.mem_reverse.1 h6))
              · cases h6
            have HS := Lib.hid (show v0 < 4294967296 ∧ v0 ∈ lb' from ⟨h32, hmem⟩)
            obtain ⟨yf, hyf, hyb, ef⟩ := RJ.out j (v0 : Int) (Lnk.ints_at hv)
            subst hyf
            have j0 : (0 : Int) ≤ (j : Int) := by omega
            have j1 : (j : Int) < (na : Int) := by omega
            have wj := IntWalk.i64_in ((j : Int) + 1) (by omega)
            clear hin hmem h32 hv hyb T9 RF
            go_wp2_with fail
            refine (Two.has TJ RJ v0 HS.out.1 HS.out.2).mono ?_
            rintro e u10 ⟨rfl, RJ1, TJ1⟩
            clear TJ RJ ef
            go_wp2_with fail
            go_roundw
            case rel => exact ⟨j + 1, by omega, by go_num, TJ1, RJ1⟩
            case measure => simp [intOf] <;> omega
          · have j1 : ¬ (j : Int) < (na : Int) := by omega
            clear T9 RF
            go_wp2_with fail
            go_roundw
            case rel => exact ⟨k1, la', lb', by have := HK1.out; omega, rfl, TJ, HH.out.2.2.2.2.2.2.1.symm, HH.out.2.2.2.2.2.2.2.1.symm⟩
            case measure => have := HK1.out; simp [intOf] <;> omega
    · have d1 : ¬ (k : Int) < (n : Int) := by omega
      have HB := Lib.hid (Two.base T)
      clear T hla hlb hlt
      go_wp2_with fail
      refine (HK.out _ HB.out).mono ?_
      rintro e w1 ⟨rfl, b1⟩
      have B9 := Lib.hid (tr HB.out b1)
      clear b1
      go_wp2_with fail
      go_ret
      exact ⟨rfl, B9.out⟩
theorem lholds_any {w : World} {p : Option Addr} {n c : Nat} {s g : Int} (h : (p = none ∧ n = 0) ∨ ∃ y, p = some y ∧ n ≤ c ∧ c ≤ maxLen ∧ ∀ i, i < n → ∃ z : Int, w.cell? (y.add i) = some (.int .u32 z) ∧ (Lit.int .u32 z).wf = true) (hs : 0 ≤ s) (hg : 0 ≤ g)
    (HKN : ∀ v, Below w.heap.size w v → Calls Try.prog 40 #[] v fun e w' => e = .returned (.bool true) ∧ Below v.heap.size v w') :
    Calls Try.prog 10 #[.slice p n c, .int .u8 s, .int .u8 g] w fun e w' => e = .returned (.bool true) ∧ Below w.heap.size w w' := by
  by_cases hf : 200 < n ∨ 50 < s ∨ g < s ∨ 100 < g
  · exact lholds_far hf HKN
  · obtain ⟨xs, r, hl, hc, hw⟩ := ru_of3 h
    obtain ⟨s', rfl⟩ := Int.eq_ofNat_of_zero_le hs
    obtain ⟨g', rfl⟩ := Int.eq_ofNat_of_zero_le hg
    exact lholds_in hl (by rcases hc with hc | hc <;> omega) r hw (by omega) (by omega) (by omega) (by omega) HKN
end Go.Proofs.Ytajkcockeccdoaa.Lru
