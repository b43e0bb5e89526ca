/-
  The law of layer 34 on what holds for keys, however they are dealt out.
-/
import Derived.Test.YtohldfhelppehaaBloF
import Derived.Test.YtohldfhelppehaaBloD
set_option linter.unusedVariables false
set_option linter.unusedSimpArgs false
namespace Go.Proofs.Ytohldfhelppehaa.Blo
open Go.RowKit Kit Hash
/-- the places of the first keys together -/
def accs (f : Nat → List Nat) : Nat → Nat → Bool
  | 0 => fun _ => false
  | j + 1 => insL (accs f j) (f j)
theorem accs_iff (f : Nat → List Nat) (j k : Nat) : accs f j k = true ↔ ∃ i, i < j ∧ k ∈ f i := by
  induction j with
  | zero => simp [accs]
  | succ j ih =>
    show insL (accs f j) (f j) k = true ↔ _
    rw [insL_mem, Bool.or_eq_true, ih, List.contains_iff_mem]
    constructor
    · rintro (h | ⟨i, hi, h⟩)
      · exact ⟨j, by omega, h⟩
      · exact ⟨i, by omega, h⟩
    · rintro ⟨i, hi, h⟩
      by_cases e : i = j
      · subst e; exact Or.inl h
      · exact Or.inr ⟨i, by omega, h⟩
theorem accs_eq {f g h : Nat → List Nat} {a b c : Nat} (h1 : ∀ i, i < a → ∃ i', (i' < b ∧ h i' = f i)) (h2 : ∀ i, i < b → ∃ i', i' < a ∧ f i' = h i) : accs f a = accs h b := by
  funext k
  rw [Bool.eq_iff_iff, accs_iff, accs_iff]
  constructor
  · rintro ⟨i, hi, hk⟩; obtain ⟨i', hi', e⟩ := h1 i hi; exact ⟨i', hi', by rw [e]; exact hk⟩
  · rintro ⟨i, hi, hk⟩; obtain ⟨i', hi', e⟩ := h2 i hi; exact ⟨i', hi', by rw [e]; exact hk⟩
theorem accs_rev (f : Nat → List Nat) (len : Nat) : accs (fun i => f (len - 1 - i)) len = accs f len := by
  refine accs_eq (g := f) (c := 0) (fun i hi => ⟨len - 1 - i, by omega, rfl⟩) (fun i hi => ⟨len - 1 - i, by omega, ?_⟩)
  show f (len - 1 - (len - 1 - i)) = f i
  rw [show len - 1 - (len - 1 - i) = i by omega]
theorem accs_cut (f : Nat → List Nat) (len cut : Nat) : (fun k => accs f (min len cut) k || accs (fun i => f (cut + i)) (len - cut) k) = accs f len := by
  funext k
  rw [Bool.eq_iff_iff, Bool.or_eq_true, accs_iff, accs_iff, accs_iff]
  constructor
  · rintro (⟨i, hi, hk⟩ | ⟨i, hi, hk⟩)
    · exact ⟨i, by omega, hk⟩
    · exact ⟨cut + i, by omega, hk⟩
  · rintro ⟨i, hi, hk⟩
    by_cases h : i < cut
    · exact Or.inl ⟨i, by omega, hk⟩
    · exact Or.inr ⟨i - cut, by omega, by show k ∈ f (cut + (i - cut)); rw [show cut + (i - cut) = i by omega]; exact hk⟩
theorem accs_all {f : Nat → List Nat} {len i : Nat} (hi : i < len) : (f i).all (accs f len) = true := by
  rw [List.all_eq_true]
  intro x hx
  exact (accs_iff f len x).2 ⟨i, hi, hx⟩
/-- Add tells whether the number of bits set grows -/
theorem grow_iff {s : Nat → Bool} {l : List Nat} {m : Nat} (hl : ∀ x ∈ l, x < m) : (((cnt (insL s l) m : Nat) : Int) == ((cnt s m : Nat) : Int)) = l.all s := by
  have hm : ∀ k, k < m → s k = true → insL s l k = true := fun k _ h => by rw [insL_mem, h, Bool.or_true]
  cases ha : l.all s
  · rw [beq_eq_false_iff_ne]
    intro he
    have := cnt_eq_of_mono hm (by omega)
    rw [List.all_eq_false] at ha
    obtain ⟨x, hx, hs⟩ := ha
    have h2 := this x (hl x hx)
    rw [insL_mem, show l.contains x = true from List.contains_iff_mem.2 hx, Bool.true_or] at h2
    exact hs h2
  · rw [beq_iff_eq]
    have : cnt (insL s l) m = cnt s m := cnt_congr fun j hj => by
      rw [insL_mem]
      cases hc : l.contains j
      · rfl
      · rw [Bool.true_or]; exact ((List.all_eq_true.1 ha) j (List.contains_iff_mem.1 hc)).symm
    rw [this]
theorem ins_twice (s : Nat → Bool) (l : List Nat) : insL (insL s l) l = insL s l := by
  funext k; rw [insL_mem, insL_mem]; cases l.contains k <;> simp
theorem _root_.Bool.beq_self (x : Bool) : (x == x) = true := by cases x <;> rfl
/-- four filters -/
structure Qs (W w : World) (n : Nat) (hs sd : Int) (p1 q1 p2 q2 p3 q3 p4 q4 : Nat) (s1 s2 s3 s4 : Nat → Bool) : Prop where
  f1 : Fl w p1 q1 n hs sd s1
  f2 : Fl w p2 q2 n hs sd s2
  f3 : Fl w p3 q3 n hs sd s3
  f4 : Fl w p4 q4 n hs sd s4
  w : Below W.heap.size W w
  g : W.heap.size ≤ q1 ∧ W.heap.size ≤ q2 ∧ W.heap.size ≤ q3 ∧ W.heap.size ≤ q4
  d1 : p1 < p2 ∧ p1 < q2 ∧ q1 < p2 ∧ q1 < q2
  d2 : p2 < p3 ∧ p2 < q3 ∧ q2 < p3 ∧ q2 < q3
  d3 : p3 < p4 ∧ p3 < q4 ∧ q3 < p4 ∧ q3 < q4
theorem Qs.below {W w v : World} {n : Nat} {hs sd : Int} {p1 q1 p2 q2 p3 q3 p4 q4 : Nat} {s1 s2 s3 s4 : Nat → Bool} (h : Qs W w n hs sd p1 q1 p2 q2 p3 q3 p4 q4 s1 s2 s3 s4) (hb : Below w.heap.size w v) : Qs W v n hs sd p1 q1 p2 q2 p3 q3 p4 q4 s1 s2 s3 s4 :=
  ⟨h.f1.below hb, h.f2.below hb, h.f3.below hb, h.f4.below hb, tr h.w hb, h.g, h.d1, h.d2, h.d3⟩
theorem Qs.u1 {W w v : World} {n : Nat} {hs sd : Int} {p1 q1 p2 q2 p3 q3 p4 q4 : Nat} {s1 s2 s3 s4 S : Nat → Bool} (h : Qs W w n hs sd p1 q1 p2 q2 p3 q3 p4 q4 s1 s2 s3 s4) (hf : Fl v p1 q1 n hs sd S) (hb : But q1 w v) : Qs W v n hs sd p1 q1 p2 q2 p3 q3 p4 q4 S s2 s3 s4 := by
  obtain ⟨f1, f2, f3, f4, w, g, d1, d2, d3⟩ := h
  exact ⟨hf, f2.but hb (by omega) (by omega), f3.but hb (by omega) (by omega), f4.but hb (by omega) (by omega), w.trans (hb.below g.1 w.size), g, d1, d2, d3⟩
theorem Qs.u2 {W w v : World} {n : Nat} {hs sd : Int} {p1 q1 p2 q2 p3 q3 p4 q4 : Nat} {s1 s2 s3 s4 S : Nat → Bool} (h : Qs W w n hs sd p1 q1 p2 q2 p3 q3 p4 q4 s1 s2 s3 s4) (hf : Fl v p2 q2 n hs sd S) (hb : But q2 w v) : Qs W v n hs sd p1 q1 p2 q2 p3 q3 p4 q4 s1 S s3 s4 := by
  obtain ⟨f1, f2, f3, f4, w, g, d1, d2, d3⟩ := h
  exact ⟨f1.but hb (by omega) (by omega), hf, f3.but hb (by omega) (by omega), f4.but hb (by omega) (by omega), w.trans (hb.below g.2.1 w.size), g, d1, d2, d3⟩
theorem Qs.u3 {W w v : World} {n : Nat} {hs sd : Int} {p1 q1 p2 q2 p3 q3 p4 q4 : Nat} {s1 s2 s3 s4 S : Nat → Bool} (h : Qs W w n hs sd p1 q1 p2 q2 p3 q3 p4 q4 s1 s2 s3 s4) (hf : Fl v p3 q3 n hs sd S) (hb : But q3 w v) : Qs W v n hs sd p1 q1 p2 q2 p3 q3 p4 q4 s1 s2 S s4 := by
  obtain ⟨f1, f2, f3, f4, w, g, d1, d2, d3⟩ := h
  exact ⟨f1.but hb (by omega) (by omega), f2.but hb (by omega) (by omega), hf, f4.but hb (by omega) (by omega), w.trans (hb.below g.2.2.1 w.size), g, d1, d2, d3⟩
theorem Qs.u4 {W w v : World} {n : Nat} {hs sd : Int} {p1 q1 p2 q2 p3 q3 p4 q4 : Nat} {s1 s2 s3 s4 S : Nat → Bool} (h : Qs W w n hs sd p1 q1 p2 q2 p3 q3 p4 q4 s1 s2 s3 s4) (hf : Fl v p4 q4 n hs sd S) (hb : But q4 w v) : Qs W v n hs sd p1 q1 p2 q2 p3 q3 p4 q4 s1 s2 s3 S := by
  obtain ⟨f1, f2, f3, f4, w, g, d1, d2, d3⟩ := h
  exact ⟨f1.but hb (by omega) (by omega), f2.but hb (by omega) (by omega), f3.but hb (by omega) (by omega), hf, w.trans (hb.below g.2.2.2 w.size), g, d1, d2, d3⟩
set_option maxRecDepth 100000 in
set_option maxHeartbeats 8000000 in
theorem lholds_ok {W : World} {b hs sd ct : Int} {n : Nat} (hin : In b hs) (ha : alw b hs = true) (hbn : b = 64 * n) (ok : Ok n hs sd) {a : Option Addr} {len cap : Nat} {f0 : Nat → Int} {f1 : Nat → ByteArray} (hacts : Acts W a len f0 f1)
    (hb1 : b ≤ 1024) (hfew : fewB len 40 f1 = true) {cut : Nat} (hct : ct = cut) (hcut : cut < 256) (hk : Kn W) :
    Calls Try.prog 7 #[.int .i64 b, .int .i64 hs, .int .u64 sd, .slice a len cap, .int .u8 ct] W fun e w' => e = .returned (.bool true) ∧ Below W.heap.size W w' := by
  subst hct
  have HK := Lib.hid hk
  have HR := Lib.hid (fun w => rnew_ok (W := w) (sd := sd) hin ha hbn)
  have HFEW := Lib.hid (fun (w : World) (hb : Below W.heap.size W w) => few_any (cap := cap) (hacts.below hb) 40 (by omega))
  rw [hfew] at HFEW
  obtain ⟨hlen, hkeys⟩ := fewB_spec hfew
  have HA := Lib.hid hacts
  have HKEYS := Lib.hid hkeys
  have HOK := Lib.hid ok
  have HBN := Lib.hid hbn
  have hn16 : n ≤ 16 := by omega
  clear hk ok hbn ha hin hacts hfew hkeys
  go_enter Try.func7, Try.ntmps7
  go_wp2_with fail
  refine (HR.out _).mono ?_
  rintro e w1 ⟨r1, rfl, hr1, hg1, b1⟩
  have B1 := Lib.hid (tr b1 (by go_grown : Below w1.heap.size w1 (w1.alloc (rfO hs sd r1 (64 * n) (64 * n)))))
  clear hr1 hg1 b1
  go_wp2_with fail
  refine (HFEW.out _ B1.out).mono ?_
  rintro e w2 ⟨rfl, b2⟩
  have B2 := Lib.hid (tr B1.out b2)
  clear b2 B1
  go_wp2_with fail
  refine (new_ok HOK.out HBN.out _).mono ?_
  rintro e w3 ⟨p1, q1, rfl, hf1, hp1, hq1, b3⟩
  have F1 := Lib.hid hf1
  have B3 := Lib.hid (tr B2.out b3)
  have l1 := hf1.b.lt
  have l2 := hf1.r.lt
  clear hf1 b3
  go_wp2_with fail
  refine (new_ok HOK.out HBN.out _).mono ?_
  rintro e w4 ⟨p2, q2, rfl, hf2, hp2, hq2, b4⟩
  have F2 := Lib.hid hf2
  have F1' := Lib.hid (F1.out.below b4)
  have B4 := Lib.hid (tr B3.out b4)
  have l3 := hf2.b.lt
  have l4 := hf2.r.lt
  clear hf2 b4 F1
  go_wp2_with fail
  refine (new_ok HOK.out HBN.out _).mono ?_
  rintro e w5 ⟨p3, q3, rfl, hf3, hp3, hq3, b5⟩
  have F3 := Lib.hid hf3
  have F1'' := Lib.hid (F1'.out.below b5)
  have F2' := Lib.hid (F2.out.below b5)
  have B5 := Lib.hid (tr B4.out b5)
  have l5 := hf3.b.lt
  have l6 := hf3.r.lt
  clear hf3 b5 F1' F2
  go_wp2_with fail
  refine (new_ok HOK.out HBN.out _).mono ?_
  rintro e w6 ⟨p4, q4, rfl, hf4, hp4, hq4, b6⟩
  have hW := B2.out.size
  have Q6 := Lib.hid (show Qs W w6 n hs sd p1 q1 p2 q2 p3 q3 p4 q4 (fun _ => false) (fun _ => false) (fun _ => false) (fun _ => false) from
    ⟨F1''.out.below b6, F2'.out.below b6, F3.out.below b6, hf4, tr B5.out b6, ⟨by omega, by omega, by omega, by omega⟩, ⟨by omega, by omega, by omega, by omega⟩, ⟨by omega, by omega, by omega, by omega⟩, ⟨by omega, by omega, by omega, by omega⟩⟩)
  clear hf4 b6 F1'' F2' F3 B2 B3 B4 B5 l1 l2 l3 l4 l5 l6 hW hp1 hq1 hp2 hq2 hp3 hq3 hp4 hq4
  go_wp2_with fail
  have hKL : ∀ i, ∀ x ∈ pls (sumN sd (f1 i)) (64 * n) hs.toNat, x < 64 * n := fun i x hx => by
    have := HOK.out.n1
    obtain ⟨t, -, rfl⟩ := List.mem_map.1 hx
    exact pl_lt (by omega)
  have hKN : ∀ i, (pls (sumN sd (f1 i)) (64 * n) hs.toNat).length = hs.toNat := fun i => pls_length _ _ _
  obtain ⟨K, hKD⟩ : ∃ K : Nat → List Nat, ∀ i, pls (sumN sd (f1 i)) (64 * n) hs.toNat = K i := ⟨_, fun _ => rfl⟩
  have HKL := Lib.hid (fun i => hKD i ▸ hKL i)
  have HKN := Lib.hid (fun i => hKD i ▸ hKN i)
  have HKD := Lib.hid hKD
  clear hKL hKN hKD
  have hh1 := HOK.out.h1
  have hh2 := HOK.out.h2
  go_loopw [21] (fun i wr => ∃ j : Nat, j ≤ len ∧ i = .int .i64 j ∧ Qs W wr n hs sd p1 q1 p2 q2 p3 q3 p4 q4 (accs K j) (accs (fun i => K (len - 1 - i)) j) (accs K (min j cut)) (accs (fun i => K (cut + i)) (j - cut))) (fun i _ => len - (intOf i).toNat)
  case atStart => exact ⟨0, by omega, rfl, by rw [Nat.zero_min, Nat.zero_sub]; exact Q6.out⟩
  case round =>
    clear Q6
    obtain ⟨j, hj, rfl, hQ⟩ := hrel
    have Q := Lib.hid hQ
    clear hQ
    by_cases hlt : j < len
    · obtain ⟨x, rfl, hxb, -, y1, y2⟩ := HA.out.below Q.out.w j hlt
      have hk3 := HKEYS.out j hlt
      have HKJ := Lib.hid (HKD.out j)
      have HLJ := Lib.hid (HKL.out j)
      have HNJ := Lib.hid (HKN.out j)
      have hkm : (f1 j).size ≤ maxLen := y2
      generalize f1 j = k at *
      go_wp2_with fail
      refine (hasR Q.out.f1 HOK.out k hkm).mono ?_
      rintro e w7 ⟨rfl, b7⟩
      have Q7 := Lib.hid (Q.out.below b7)
      rw [HKJ.out]
      clear b7 Q y1
      go_wp2_with fail
      refine (onesR Q7.out.f1 HOK.out).mono ?_
      rintro e w8 ⟨rfl, rfl⟩
      go_wp2_with fail
      refine (adds_any Q7.out.f1 HOK.out k hkm _).mono ?_
      rintro e w9 ⟨rfl, f9, b9⟩
      rw [HKJ.out] at f9 ⊢
      have hc2 := cnt_insL (accs K j) (K j) (64 * n)
      rw [HNJ.out] at hc2
      have hc3 := cnt_le (accs K j) (64 * n)
      have hc4 : ((cnt (insL (accs K j) (K j)) (64 * n) : Nat) : Int) ≤ (cnt (accs K j) (64 * n) : Nat) + hs := by omega
      have HG := Lib.hid (grow_iff (s := accs K j) HLJ.out)
      have HAL := Lib.hid (all_ins (accs K j) (K j))
      have HS1 := Lib.hid (show insL (accs K j) (K j) = accs K (j + 1) from rfl)
      rw [HS1.out] at f9 hc4 HG HAL
      have Q9 := Lib.hid (Q7.out.u1 f9 b9)
      clear f9 b9 Q7 hc2
      generalize hX : (K j).all (accs K j) = X at *
      generalize cnt (accs K j) (64 * n) = cn at *
      clear hX
      rw [Bool.beq_self]
      go_wp2_with fail
      refine (adds_any Q9.out.f1 HOK.out k hkm _).mono ?_
      rintro e w10 ⟨rfl, f10, b10⟩
      rw [HKJ.out] at f10 ⊢
      rw [HAL.out]
      rw [← HS1.out, ins_twice, HS1.out] at f10
      have Q10 := Lib.hid (Q9.out.u1 f10 b10)
      clear f10 b10 Q9
      go_wp2_with fail
      refine (onesR Q10.out.f1 HOK.out).mono ?_
      rintro e w11 ⟨rfl, rfl⟩
      generalize hcm : cnt (accs K (j + 1)) (64 * n) = cm at *
      have HCM := Lib.hid hcm
      clear hcm
      go_wp2_with fail
      refine (onesR Q10.out.f1 HOK.out).mono ?_
      rintro e w11 ⟨rfl, rfl⟩
      rw [HCM.out]
      have hx2 : (X = true ∧ cm = cn) ∨ (X = false ∧ ((cm : Int) == (cn : Int)) = false) := by
        have hg := HG.out
        cases X
        · exact Or.inr ⟨rfl, hg⟩
        · exact Or.inl ⟨rfl, by rw [beq_iff_eq] at hg; omega⟩
      rcases hx2 with ⟨rfl, rfl⟩ | ⟨rfl, hne⟩
      · obtain ⟨x', hx', -, -, y1, y2⟩ := HA.out.below Q10.out.w (len - 1 - j) (by omega)
        obtain rfl : x = x' := by injection hx'
        have HKR := Lib.hid (HKD.out (len - 1 - j))
        have hkm2 : (f1 (len - 1 - j)).size ≤ maxLen := y2
        clear hc3 HG hx' y2
        generalize f1 (len - 1 - j) = k2 at *
        go_wp2_with fail
        refine (addR Q10.out.f2 HOK.out k2 hkm2).mono ?_
        rintro e w12 ⟨rfl, f12, b12⟩
        rw [HKR.out] at f12 ⊢
        have Q12 := Lib.hid (Q10.out.u2 (S := accs (fun i => K (len - 1 - i)) (j + 1)) f12 b12)
        clear f12 b12 y1 Q10 hkm2 HKR hc4
        by_cases hcj : j < cut
        · go_wp2_with fail
          refine (addR Q12.out.f3 HOK.out k hkm).mono ?_
          rintro e w13 ⟨rfl, f13, b13⟩
          rw [HKJ.out, show min j cut = j by omega] at f13
          rw [HKJ.out]
          have Q13 := Lib.hid (Q12.out.u3 (S := accs K (j + 1)) f13 b13)
          clear f13 b13 Q12
          go_wp2_with fail
          go_roundw
          case rel => exact ⟨j + 1, by omega, by go_num, by have := Q13.out; rw [show j - cut = 0 by omega] at this; rw [show min (j + 1) cut = j + 1 by omega, show j + 1 - cut = 0 by omega]; exact this⟩
          case measure => simp [intOf] <;> omega
        · go_wp2_with fail
          refine (addR Q12.out.f4 HOK.out k hkm).mono ?_
          rintro e w13 ⟨rfl, f13, b13⟩
          have HKJ2 := Lib.hid (show K j = K (cut + (j - cut)) by rw [show cut + (j - cut) = j by omega])
          rw [HKJ.out, HKJ2.out] at f13
          have Q13 := Lib.hid (Q12.out.u4 (S := accs (fun i => K (cut + i)) (j - cut + 1)) f13 b13)
          rw [HKJ.out]
          clear f13 b13 Q12
          go_wp2_with fail
          go_roundw
          case rel => exact ⟨j + 1, by omega, by go_num, by have := Q13.out; rw [show min j cut = cut by omega] at this; rw [show min (j + 1) cut = cut by omega, show j + 1 - cut = j - cut + 1 by omega]; exact this⟩
          case measure => simp [intOf] <;> omega
      · obtain ⟨x', hx', -, -, y1, y2⟩ := HA.out.below Q10.out.w (len - 1 - j) (by omega)
        obtain rfl : x = x' := by injection hx'
        have HKR := Lib.hid (HKD.out (len - 1 - j))
        have hkm2 : (f1 (len - 1 - j)).size ≤ maxLen := y2
        clear hc3 HG hx' y2
        generalize f1 (len - 1 - j) = k2 at *
        go_wp2_with fail
        refine (addR Q10.out.f2 HOK.out k2 hkm2).mono ?_
        rintro e w12 ⟨rfl, f12, b12⟩
        rw [HKR.out] at f12 ⊢
        have Q12 := Lib.hid (Q10.out.u2 (S := accs (fun i => K (len - 1 - i)) (j + 1)) f12 b12)
        clear f12 b12 y1 Q10 hkm2 HKR hc4
        by_cases hcj : j < cut
        · go_wp2_with fail
          refine (addR Q12.out.f3 HOK.out k hkm).mono ?_
          rintro e w13 ⟨rfl, f13, b13⟩
          rw [HKJ.out, show min j cut = j by omega] at f13
          rw [HKJ.out]
          have Q13 := Lib.hid (Q12.out.u3 (S := accs K (j + 1)) f13 b13)
          clear f13 b13 Q12
          go_wp2_with fail
          go_roundw
          case rel => exact ⟨j + 1, by omega, by go_num, by have := Q13.out; rw [show j - cut = 0 by omega] at this; rw [show min (j + 1) cut = j + 1 by omega, show j + 1 - cut = 0 by omega]; exact this⟩
          case measure => simp [intOf] <;> omega
        · go_wp2_with fail
          refine (addR Q12.out.f4 HOK.out k hkm).mono ?_
          rintro e w13 ⟨rfl, f13, b13⟩
          have HKJ2 := Lib.hid (show K j = K (cut + (j - cut)) by rw [show cut + (j - cut) = j by omega])
          rw [HKJ.out, HKJ2.out] at f13
          have Q13 := Lib.hid (Q12.out.u4 (S := accs (fun i => K (cut + i)) (j - cut + 1)) f13 b13)
          rw [HKJ.out]
          clear f13 b13 Q12
          go_wp2_with fail
          go_roundw
          case rel => exact ⟨j + 1, by omega, by go_num, by have := Q13.out; rw [show min j cut = cut by omega] at this; rw [show min (j + 1) cut = cut by omega, show j + 1 - cut = j - cut + 1 by omega]; exact this⟩
          case measure => simp [intOf] <;> omega
    · obtain rfl : j = len := by omega
      go_wp2_with fail
      go_loopw [30] (fun i wt => ∃ m : Nat, m ≤ j ∧ i = .int .i64 m ∧ Qs W wt n hs sd p1 q1 p2 q2 p3 q3 p4 q4 (accs K j) (accs (fun i => K (j - 1 - i)) j) (accs K (min j cut)) (accs (fun i => K (cut + i)) (j - cut))) (fun i _ => j - (intOf i).toNat)
      case atStart => exact ⟨0, by omega, rfl, Q.out⟩
      case round =>
        clear Q
        obtain ⟨m, hm, rfl, hQm⟩ := hrel
        have QM := Lib.hid hQm
        clear hQm
        by_cases hmj : m < j
        · obtain ⟨x, rfl, hxb, -, y1, y2⟩ := HA.out.below QM.out.w m hmj
          have HKM := Lib.hid (HKD.out m)
          have HAA := Lib.hid (accs_all (f := K) hmj)
          have hkm : (f1 m).size ≤ maxLen := y2
          clear y2
          generalize f1 m = k at *
          go_wp2_with fail
          refine (hasR QM.out.f1 HOK.out k hkm).mono ?_
          rintro e w7 ⟨rfl, b7⟩
          rw [HKM.out, HAA.out]
          have QN := Lib.hid (QM.out.below b7)
          clear b7 QM y1
          go_wp2_with fail
          go_roundw
          case rel => exact ⟨m + 1, by omega, by go_num, QN.out⟩
          case measure => simp [intOf] <;> omega
        · obtain rfl : m = j := by omega
          have d3 := QM.out.d3
          go_wp2_with fail
          refine (join_ok QM.out.f3 HOK.out QM.out.f4 (by omega) (by omega)).mono ?_
          rintro e w8 ⟨rfl, f8, b8⟩
          have e8 := accs_cut K m cut
          rw [e8] at f8
          have Q8 := Lib.hid (QM.out.u3 f8 b8)
          clear f8 b8 e8 QM d3
          go_wp2_with fail
          refine (wordsR Q8.out.f3 HOK.out).mono ?_
          rintro e w9 ⟨g1, rfl, hg1, hr1, b9⟩
          have Q9 := Lib.hid (Q8.out.below b9)
          have R9 := Lib.hid hr1
          clear b9 hr1 Q8
          go_wp2_with fail
          refine (wordsR Q9.out.f1 HOK.out).mono ?_
          rintro e w10 ⟨g2, rfl, hg2, hr2, b10⟩
          have Q10 := Lib.hid (Q9.out.below b10)
          have RA := Lib.hid (Row.below R9.out b10)
          have RB := Lib.hid hr2
          clear b10 hr2 Q9 R9
          go_wp2_with fail
          refine (same_any (f := fun i => ((wd (accs K m) i : Nat) : Int)) RA.out RB.out (by omega)).mono ?_
          rintro e w11 ⟨rfl, b11⟩
          have Q11 := Lib.hid (Q10.out.below b11)
          clear b11 Q10 RA RB
          go_wp2_with fail
          refine (wordsR Q11.out.f2 HOK.out).mono ?_
          rintro e w12 ⟨g3, rfl, hg3, hr3, b12⟩
          rw [accs_rev K m] at hr3
          have Q12 := Lib.hid (Q11.out.below b12)
          have R12 := Lib.hid hr3
          clear b12 hr3 Q11
          go_wp2_with fail
          refine (wordsR Q12.out.f1 HOK.out).mono ?_
          rintro e w13 ⟨g4, rfl, hg4, hr4, b13⟩
          have Q13 := Lib.hid (Q12.out.below b13)
          have RC := Lib.hid (Row.below R12.out b13)
          have RD := Lib.hid hr4
          clear b13 hr4 Q12 R12
          go_wp2_with fail
          refine (same_any (f := fun i => ((wd (accs K m) i : Nat) : Int)) RC.out RD.out (by omega)).mono ?_
          rintro e w14 ⟨rfl, b14⟩
          have Q14 := Lib.hid (Q13.out.below b14)
          clear b14 Q13 RC RD
          go_wp2_with fail
          refine (HK.out _ Q14.out.w).mono ?_
          rintro e w18 ⟨rfl, b18⟩
          go_wp2_with fail
          go_ret
          exact ⟨rfl, tr Q14.out.w b18⟩
set_option maxRecDepth 100000 in
set_option maxHeartbeats 2000000 in
theorem lholds_a {W : World} {b hs sd ct : Int} (hin : In b hs) (ha : alw b hs = false) {a : Option Addr} {len cap : Nat} (hk : Kn W) :
    Calls Try.prog 7 #[.int .i64 b, .int .i64 hs, .int .u64 sd, .slice a len cap, .int .u8 ct] W fun e w' => e = .returned (.bool true) ∧ Below W.heap.size W w' := by
  have HK := Lib.hid hk
  have HR := Lib.hid (fun w => rnew_bad (W := w) (sd := sd) hin ha)
  clear hk ha hin
  go_enter Try.func7, Try.ntmps7
  go_wp2_with fail
  refine (HR.out _).mono ?_
  rintro e w1 ⟨rfl, b1⟩
  have B1 := Lib.hid (tr b1 (by go_grown : Below w1.heap.size w1 (w1.alloc (.cells #[.int .i64 0, .int .u64 0, .slice none 0 0] 25))))
  clear b1
  go_wp2_with fail
  refine (HK.out _ B1.out).mono ?_
  rintro e w3 ⟨rfl, b3⟩
  go_wp2_with fail
  go_ret
  exact ⟨rfl, tr B1.out b3⟩
set_option maxRecDepth 100000 in
set_option maxHeartbeats 2000000 in
theorem lholds_c {W : World} {b hs sd ct : Int} {n : Nat} (hin : In b hs) (ha : alw b hs = true) (hbn : b = 64 * n) {a : Option Addr} {len cap : Nat} {f0 : Nat → Int} {f1 : Nat → ByteArray} (hacts : Acts W a len f0 f1) (hbig : ¬ (b ≤ 1024 ∧ fewB len 40 f1 = true)) (hk : Kn W) :
    Calls Try.prog 7 #[.int .i64 b, .int .i64 hs, .int .u64 sd, .slice a len cap, .int .u8 ct] W fun e w' => e = .returned (.bool true) ∧ Below W.heap.size W w' := by
  have HK := Lib.hid hk
  have HR := Lib.hid (fun w => rnew_ok (W := w) (sd := sd) hin ha hbn)
  have HFEW := Lib.hid (fun (w : World) (hb : Below W.heap.size W w) => few_any (cap := cap) (hacts.below hb) 40 (by omega))
  clear hk ha hin hacts hbn
  go_enter Try.func7, Try.ntmps7
  go_wp2_with fail
  refine (HR.out _).mono ?_
  rintro e w1 ⟨r1, rfl, hr1, hg1, b1⟩
  have C2 := Lib.hid (tr b1 (by go_grown : Below w1.heap.size w1 (w1.alloc (rfO hs sd r1 (64 * n) (64 * n)))))
  clear hr1 hg1 b1
  by_cases x1 : 1024 < b
  · clear hbig
    go_wp2_with fail
    refine (HK.out _ C2.out).mono ?_
    rintro e w3 ⟨rfl, b3⟩
    go_wp2_with fail
    go_ret
    exact ⟨rfl, tr C2.out b3⟩
  · have hf : fewB len 40 f1 = false := by
      cases hh : fewB len 40 f1
      · rfl
      · exact absurd ⟨by omega, hh⟩ hbig
    rw [hf] at HFEW
    clear hbig hf
    go_wp2_with fail
    refine (HFEW.out _ C2.out).mono ?_
    rintro e w2 ⟨rfl, b2⟩
    have C3 := Lib.hid (tr C2.out b2)
    clear b2
    go_wp2_with fail
    refine (HK.out _ C3.out).mono ?_
    rintro e w3 ⟨rfl, b3⟩
    go_wp2_with fail
    go_ret
    exact ⟨rfl, tr C3.out b3⟩
theorem lholds_any {W : World} {b hs sd ct : Int} (hin : In b hs) (hsd : Word sd) {a : Option Addr} {len cap : Nat} {f0 : Nat → Int} {f1 : Nat → ByteArray} (hacts : Acts W a len f0 f1) (hc0 : 0 ≤ ct) (hc1 : ct < 256) (hk : Kn W) :
    Calls Try.prog 7 #[.int .i64 b, .int .i64 hs, .int .u64 sd, .slice a len cap, .int .u8 ct] W fun e w' => e = .returned (.bool true) ∧ Below W.heap.size W w' := by
  cases ha : alw b hs
  · exact lholds_a hin ha hk
  · obtain ⟨n, hbn, ok⟩ := Ok.of ha hsd
    by_cases hbig : b ≤ 1024 ∧ fewB len 40 f1 = true
    · exact lholds_ok (cut := ct.toNat) hin ha hbn ok hacts hbig.1 hbig.2 (by omega) (by omega) hk
    · exact lholds_c hin ha hbn hacts hbig hk
end Go.Proofs.Ytohldfhelppehaa.Blo
