/-
  Entries (layer 4): the law without a reference.
-/
import Derived.Test.YtlpepmhpnmnpkaaDoorEnpK
set_option linter.unusedVariables false
set_option linter.unusedSimpArgs false
namespace Go.Proofs.YtlpepmhpnmnpkaaDoor.Ent
open Go Go.RowKit Kit
section
variable {w : World} {ka kb kc : ByteArray} {p1 p2 p3 : Option Addr} {l1 c1 l2 c2 l3 c3 : Nat} {da db dc ba bb bc : Int}
theorem T3.conj {w' : World} (h : T3 w w' w.heap.size ka kb kc p1 p2 p3 l1 c1 l2 c2 l3 c3 da db dc ba bb bc) : w'.cell? ⟨w.heap.size, 0, none⟩ = some (.string ka) ∧ w'.cell? ⟨w.heap.size, 1, none⟩ = some (.slice p1 l1 c1) ∧ w'.cell? ⟨w.heap.size, 2, none⟩ = some (.int .u64 da) ∧ w'.cell? ⟨w.heap.size, 3, none⟩ = some (.int .u64 ba) ∧ w'.cell? ⟨w.heap.size + 1, 0, none⟩ = some (.string kb) ∧ w'.cell? ⟨w.heap.size + 1, 1, none⟩ = some (.slice p2 l2 c2) ∧ w'.cell? ⟨w.heap.size + 1, 2, none⟩ = some (.int .u64 db) ∧ w'.cell? ⟨w.heap.size + 1, 3, none⟩ = some (.int .u64 bb) ∧ w'.cell? ⟨w.heap.size + 1 + 1, 0, none⟩ = some (.string kc) ∧ w'.cell? ⟨w.heap.size + 1 + 1, 1, none⟩ = some (.slice p3 l3 c3) ∧ w'.cell? ⟨w.heap.size + 1 + 1, 2, none⟩ = some (.int .u64 dc) ∧ w'.cell? ⟨w.heap.size + 1 + 1, 3, none⟩ = some (.int .u64 bc) ∧ w.heap.size + 1 + 1 < w'.heap.size ∧ T3 w w' w.heap.size ka kb kc p1 p2 p3 l1 c1 l2 c2 l3 c3 da db dc ba bb bc := by
  obtain ⟨h0, h1, h2, h3, h4, h5, h6, h7, h8, h9, h10, h11, h12⟩ := h.all
  exact ⟨h0, h1, h2, h3, h4, h5, h6, h7, h8, h9, h10, h11, h12, h⟩
theorem T3.keep {v w' : World} (hb : Below v.heap.size v w') (h : v.cell? ⟨w.heap.size, 0, none⟩ = some (.string ka) ∧ v.cell? ⟨w.heap.size, 1, none⟩ = some (.slice p1 l1 c1) ∧ v.cell? ⟨w.heap.size, 2, none⟩ = some (.int .u64 da) ∧ v.cell? ⟨w.heap.size, 3, none⟩ = some (.int .u64 ba) ∧ v.cell? ⟨w.heap.size + 1, 0, none⟩ = some (.string kb) ∧ v.cell? ⟨w.heap.size + 1, 1, none⟩ = some (.slice p2 l2 c2) ∧ v.cell? ⟨w.heap.size + 1, 2, none⟩ = some (.int .u64 db) ∧ v.cell? ⟨w.heap.size + 1, 3, none⟩ = some (.int .u64 bb) ∧ v.cell? ⟨w.heap.size + 1 + 1, 0, none⟩ = some (.string kc) ∧ v.cell? ⟨w.heap.size + 1 + 1, 1, none⟩ = some (.slice p3 l3 c3) ∧ v.cell? ⟨w.heap.size + 1 + 1, 2, none⟩ = some (.int .u64 dc) ∧ v.cell? ⟨w.heap.size + 1 + 1, 3, none⟩ = some (.int .u64 bc) ∧ w.heap.size + 1 + 1 < v.heap.size ∧ T3 w v w.heap.size ka kb kc p1 p2 p3 l1 c1 l2 c2 l3 c3 da db dc ba bb bc) : w'.cell? ⟨w.heap.size, 0, none⟩ = some (.string ka) ∧ w'.cell? ⟨w.heap.size, 1, none⟩ = some (.slice p1 l1 c1) ∧ w'.cell? ⟨w.heap.size, 2, none⟩ = some (.int .u64 da) ∧ w'.cell? ⟨w.heap.size, 3, none⟩ = some (.int .u64 ba) ∧ w'.cell? ⟨w.heap.size + 1, 0, none⟩ = some (.string kb) ∧ w'.cell? ⟨w.heap.size + 1, 1, none⟩ = some (.slice p2 l2 c2) ∧ w'.cell? ⟨w.heap.size + 1, 2, none⟩ = some (.int .u64 db) ∧ w'.cell? ⟨w.heap.size + 1, 3, none⟩ = some (.int .u64 bb) ∧ w'.cell? ⟨w.heap.size + 1 + 1, 0, none⟩ = some (.string kc) ∧ w'.cell? ⟨w.heap.size + 1 + 1, 1, none⟩ = some (.slice p3 l3 c3) ∧ w'.cell? ⟨w.heap.size + 1 + 1, 2, none⟩ = some (.int .u64 dc) ∧ w'.cell? ⟨w.heap.size + 1 + 1, 3, none⟩ = some (.int .u64 bc) ∧ w.heap.size + 1 + 1 < w'.heap.size ∧ T3 w w' w.heap.size ka kb kc p1 p2 p3 l1 c1 l2 c2 l3 c3 da db dc ba bb bc :=
  T3.conj (h.2.2.2.2.2.2.2.2.2.2.2.2.2.below hb)
end
theorem T3.start (w : World) (ka kb kc : ByteArray) (p1 p2 p3 : Option Addr) (l1 c1 l2 c2 l3 c3 : Nat) (da db dc ba bb bc : Int) :
    T3 w (((w.alloc (.cells #[.string ka, .slice p1 l1 c1, .int .u64 da, .int .u64 ba] 33)).alloc (.cells #[.string kb, .slice p2 l2 c2, .int .u64 db, .int .u64 bb] 33)).alloc (.cells #[.string kc, .slice p3 l3 c3, .int .u64 dc, .int .u64 bc] 33)) w.heap.size ka kb kc p1 p2 p3 l1 c1 l2 c2 l3 c3 da db dc ba bb bc := by
  have e1 := BoxE.new w ka p1 l1 c1 da ba
  have hb1 : Below w.heap.size w (w.alloc (.cells #[.string ka, .slice p1 l1 c1, .int .u64 da, .int .u64 ba] 33)) := by go_grown
  have hs1 : (w.alloc (.cells #[.string ka, .slice p1 l1 c1, .int .u64 da, .int .u64 ba] 33)).heap.size = w.heap.size + 1 := World.size_alloc _ _
  generalize w.alloc (.cells #[.string ka, .slice p1 l1 c1, .int .u64 da, .int .u64 ba] 33) = V1 at *
  have e2 := BoxE.new V1 kb p2 l2 c2 db bb
  have hb2 : Below V1.heap.size V1 (V1.alloc (.cells #[.string kb, .slice p2 l2 c2, .int .u64 db, .int .u64 bb] 33)) := by go_grown
  have hs2 : (V1.alloc (.cells #[.string kb, .slice p2 l2 c2, .int .u64 db, .int .u64 bb] 33)).heap.size = V1.heap.size + 1 := World.size_alloc _ _
  generalize V1.alloc (.cells #[.string kb, .slice p2 l2 c2, .int .u64 db, .int .u64 bb] 33) = V2 at *
  have e3 := BoxE.new V2 kc p3 l3 c3 dc bc
  have hb3 : Below V2.heap.size V2 (V2.alloc (.cells #[.string kc, .slice p3 l3 c3, .int .u64 dc, .int .u64 bc] 33)) := by go_grown
  rw [hs1] at e2
  rw [hs2, hs1] at e3
  exact ⟨(e1.below hb2).below hb3, e2.below hb3, e3, tr (tr hb1 hb2) hb3⟩
theorem new4 (w : World) (a b c o : Obj) : ((((w.alloc a).alloc b).alloc c).alloc o).heap[w.heap.size + 1 + 1 + 1]? = some o := by
  have := (MapKept.heap_alloc (((w.alloc a).alloc b).alloc c) o).1
  simpa using this
set_option maxRecDepth 100000 in
set_option maxHeartbeats 4000000 in
theorem lholds4_any (ka kb kc : ByteArray) (p1 p2 p3 : Option Addr) (l1 c1 l2 c2 l3 c3 : Nat) (da db dc ba bb bc : Int) (xs : List Int) (w : World) (h1 : Ev.BytesOf w p1 l1 xs) (d0 : 0 ≤ da) (d1 : da ≤ 18446744073709551615) (b0 : 0 ≤ ba) (b1 : ba ≤ 18446744073709551615) (hg : Gv w) (hk : Kn4 w) :
    Calls Tryd.prog 8 #[ent ka p1 l1 c1 da ba, ent kb p2 l2 c2 db bb, ent kc p3 l3 c3 dc bc] w fun e w' => e = .returned (.bool true) ∧ Below w.heap.size w w' := by
  have HK := Lib.hid hk
  have HG := Lib.hid (fun v (hb : Below w.heap.size w v) => hg.below hb)
  have H1 := Lib.hid (fun v (hb : Below w.heap.size w v) => h1.below hb)
  have hxl : xs.length = l1 := h1.1
  have hxb := h1.2.1
  clear hk hg h1
  go_enter Tryd.func8, Tryd.ntmps8
  go_wp2_with fail
  refine (few_three _ ka kb kc p1 p2 p3 l1 c1 l2 c2 l3 c3 da db dc ba bb bc 33 (0, 0) _ (new4 w _ _ _ _)).mono ?_
  rintro e w3 ⟨rfl, b3⟩
  have S3 := Lib.hid (((T3.start w ka kb kc p1 p2 p3 l1 c1 l2 c2 l3 c3 da db dc ba bb bc).below (by go_grown)).below b3)
  clear b3
  obtain ⟨fw, hfw⟩ : ∃ f, (decide (ka.size ≤ 600) && decide (l1 ≤ 600) && decide (kb.size ≤ 600) && decide (l2 ≤ 600) && decide (kc.size ≤ 600) && decide (l3 ≤ 600)) = f := ⟨_, rfl⟩
  rw [hfw]
  obtain ⟨z0, z1, z2, z3, z4, z5, z6, z7, z8, z9, z10, z11, z12⟩ := S3.out.all
  cases fw with
  | false =>
    clear hfw
    go_wp2_with fail
    refine (HK.out _ S3.out.w).mono ?_
    rintro e w4 ⟨rfl, b4⟩
    go_wp2_with fail
    go_ret
    exact ⟨rfl, tr S3.out.w b4⟩
  | true =>
    have hl6 : ka.size ≤ 600 ∧ l1 ≤ 600 := by simp at hfw; omega
    clear hfw
    by_cases hch : chk ka l1 ba = 0
    rotate_left
    · have hcb : (chk ka l1 ba == 0) = false := by rw [beq_eq_false_iff_ne]; exact hch
      have HT := Lib.hid (fun v => etext_bad ka p1 l1 c1 da ba v hch)
      generalize chk ka l1 ba = ce at *
      clear hch
      go_wp2_with fail
      refine (HT.out _).mono ?_
      rintro e w4 ⟨rfl, b4⟩
      have SF := Lib.hid (S3.out.below b4)
      clear b4 z0 z1 z2 z3 z4 z5 z6 z7 z8 z9 z10 z11 z12 HT
      as_aux_lemma =>
        obtain ⟨z0, z1, z2, z3, z4, z5, z6, z7, z8, z9, z10, z11, z12⟩ := SF.out.all
        go_wp2_with fail
        clear z0 z1 z2 z3 z4 z5 z6 z7 z8 z9 z10 z11 z12
        go_region_held3 (fun w' => w'.cell? ⟨w.heap.size, 0, none⟩ = some (.string ka) ∧ w'.cell? ⟨w.heap.size, 1, none⟩ = some (.slice p1 l1 c1) ∧ w'.cell? ⟨w.heap.size, 2, none⟩ = some (.int .u64 da) ∧ w'.cell? ⟨w.heap.size, 3, none⟩ = some (.int .u64 ba) ∧ w'.cell? ⟨w.heap.size + 1, 0, none⟩ = some (.string kb) ∧ w'.cell? ⟨w.heap.size + 1, 1, none⟩ = some (.slice p2 l2 c2) ∧ w'.cell? ⟨w.heap.size + 1, 2, none⟩ = some (.int .u64 db) ∧ w'.cell? ⟨w.heap.size + 1, 3, none⟩ = some (.int .u64 bb) ∧ w'.cell? ⟨w.heap.size + 1 + 1, 0, none⟩ = some (.string kc) ∧ w'.cell? ⟨w.heap.size + 1 + 1, 1, none⟩ = some (.slice p3 l3 c3) ∧ w'.cell? ⟨w.heap.size + 1 + 1, 2, none⟩ = some (.int .u64 dc) ∧ w'.cell? ⟨w.heap.size + 1 + 1, 3, none⟩ = some (.int .u64 bc) ∧ w.heap.size + 1 + 1 < w'.heap.size ∧ T3 w w' w.heap.size ka kb kc p1 p2 p3 l1 c1 l2 c2 l3 c3 da db dc ba bb bc)
          (first
            | (exact T3.conj (SF.out.below (Below.drew (Below.refl _ _))))
            | (exact T3.keep o1 (by assumption))
            | assumption
            | fail)
          (first
            | (go_at_call 23; refine (before_any _ _ _ _ _ _ _ _ _ _ _ _ _).mono ?_; rintro e w' ⟨rfl, o1⟩)
            | fail)
        have SK : w'.cell? ⟨w.heap.size, 0, none⟩ = some (.string ka) ∧ w'.cell? ⟨w.heap.size, 1, none⟩ = some (.slice p1 l1 c1) ∧ w'.cell? ⟨w.heap.size, 2, none⟩ = some (.int .u64 da) ∧ w'.cell? ⟨w.heap.size, 3, none⟩ = some (.int .u64 ba) ∧ w'.cell? ⟨w.heap.size + 1, 0, none⟩ = some (.string kb) ∧ w'.cell? ⟨w.heap.size + 1, 1, none⟩ = some (.slice p2 l2 c2) ∧ w'.cell? ⟨w.heap.size + 1, 2, none⟩ = some (.int .u64 db) ∧ w'.cell? ⟨w.heap.size + 1, 3, none⟩ = some (.int .u64 bb) ∧ w'.cell? ⟨w.heap.size + 1 + 1, 0, none⟩ = some (.string kc) ∧ w'.cell? ⟨w.heap.size + 1 + 1, 1, none⟩ = some (.slice p3 l3 c3) ∧ w'.cell? ⟨w.heap.size + 1 + 1, 2, none⟩ = some (.int .u64 dc) ∧ w'.cell? ⟨w.heap.size + 1 + 1, 3, none⟩ = some (.int .u64 bc) ∧ w.heap.size + 1 + 1 < w'.heap.size ∧ T3 w w' w.heap.size ka kb kc p1 p2 p3 l1 c1 l2 c2 l3 c3 da db dc ba bb bc := by assumption
        have SG := Lib.hid SK.2.2.2.2.2.2.2.2.2.2.2.2.2
        clear SK
        obtain ⟨z0, z1, z2, z3, z4, z5, z6, z7, z8, z9, z10, z11, z12⟩ := SG.out.all
        obtain ⟨AB, hAB⟩ : ∃ x, befB da db ba bb = x := ⟨_, rfl⟩
        obtain ⟨BA, hBA⟩ : ∃ x, befB db da bb ba = x := ⟨_, rfl⟩
        rw [hAB, hBA]
        have hall : AB = false → BA = false → ba = bb := fun h1 h2 => bef_all (hAB.trans h1) (hBA.trans h2)
        have hno : AB = true → BA = false := fun h => by rw [← hBA]; exact bef_no (hAB.trans h)
        have HS := Lib.hid (fun v b => before_any ka ka p1 p1 l1 c1 l1 c1 da da b b v)
        simp only [bef_self] at HS
        have HBC := Lib.hid (fun v => before_any kb kc p2 p3 l2 c2 l3 c3 db dc bb bc v)
        have HAC := Lib.hid (fun v => before_any ka kc p1 p3 l1 c1 l3 c3 da dc ba bc v)
        obtain ⟨BC, hBC⟩ : ∃ x, befB db dc bb bc = x := ⟨_, rfl⟩
        have htr := @bef_tr da db dc ba bb bc
        rw [hAB] at htr
        rw [hBC] at htr HBC
        have HTR := Lib.hid htr
        clear SF o1 hAB hBA hBC htr
        by_cases eb : ba = bb
        · subst eb
          cases AB with
          | true =>
            have := hno rfl
            subst this
            clear hno hall
            go_wp2_with fail
            all_goals (
              refine (HS.out _ _).mono ?_
              rintro e w10 ⟨rfl, b10⟩
              have S10 := Lib.hid (SG.out.below b10)
              clear b10 z0 z1 z2 z3 z4 z5 z6 z7 z8 z9 z10 z11 z12
              obtain ⟨z0, z1, z2, z3, z4, z5, z6, z7, z8, z9, z10, z11, z12⟩ := S10.out.all
              go_wp2_with fail
              refine (HBC.out _).mono ?_
              rintro e w11 ⟨rfl, b11⟩
              have S11 := Lib.hid (S10.out.below b11)
              clear b11 z0 z1 z2 z3 z4 z5 z6 z7 z8 z9 z10 z11 z12
              obtain ⟨z0, z1, z2, z3, z4, z5, z6, z7, z8, z9, z10, z11, z12⟩ := S11.out.all
              cases BC with
              | false =>
                go_wp2_with fail
                refine (HK.out _ S11.out.w).mono ?_
                rintro e w12 ⟨rfl, b12⟩
                go_wp2_with fail
                go_ret
                exact ⟨rfl, tr S11.out.w b12⟩
              | true =>
                have htr := HTR.out (by simp) (by simp)
                go_wp2_with fail
                refine (HAC.out _).mono ?_
                rintro e w13 ⟨rfl, b13⟩
                rw [htr]
                have S13 := Lib.hid (S11.out.below b13)
                clear b13 z0 z1 z2 z3 z4 z5 z6 z7 z8 z9 z10 z11 z12
                go_wp2_with fail
                refine (HK.out _ S13.out.w).mono ?_
                rintro e w14 ⟨rfl, b14⟩
                go_wp2_with fail
                go_ret
                exact ⟨rfl, tr S13.out.w b14⟩)
          | false =>
            clear hno
            cases BA with
            | true =>
              clear hall
              go_wp2_with fail
              all_goals (
                refine (HS.out _ _).mono ?_
                rintro e w10 ⟨rfl, b10⟩
                have S10 := Lib.hid (SG.out.below b10)
                clear b10 z0 z1 z2 z3 z4 z5 z6 z7 z8 z9 z10 z11 z12
                go_wp2_with fail
                refine (HK.out _ S10.out.w).mono ?_
                rintro e w12 ⟨rfl, b12⟩
                go_wp2_with fail
                go_ret
                exact ⟨rfl, tr S10.out.w b12⟩)
            | false =>
              clear hall
              go_wp2_with fail
              all_goals (
                refine (HS.out _ _).mono ?_
                rintro e w10 ⟨rfl, b10⟩
                have S10 := Lib.hid (SG.out.below b10)
                clear b10 z0 z1 z2 z3 z4 z5 z6 z7 z8 z9 z10 z11 z12
                go_wp2_with fail
                refine (HK.out _ S10.out.w).mono ?_
                rintro e w12 ⟨rfl, b12⟩
                go_wp2_with fail
                go_ret
                exact ⟨rfl, tr S10.out.w b12⟩)
        · skip
          cases AB with
          | true =>
            have := hno rfl
            subst this
            clear hno hall
            go_wp2_with fail
            all_goals (
              refine (HS.out _ _).mono ?_
              rintro e w10 ⟨rfl, b10⟩
              have S10 := Lib.hid (SG.out.below b10)
              clear b10 z0 z1 z2 z3 z4 z5 z6 z7 z8 z9 z10 z11 z12
              obtain ⟨z0, z1, z2, z3, z4, z5, z6, z7, z8, z9, z10, z11, z12⟩ := S10.out.all
              go_wp2_with fail
              refine (HBC.out _).mono ?_
              rintro e w11 ⟨rfl, b11⟩
              have S11 := Lib.hid (S10.out.below b11)
              clear b11 z0 z1 z2 z3 z4 z5 z6 z7 z8 z9 z10 z11 z12
              obtain ⟨z0, z1, z2, z3, z4, z5, z6, z7, z8, z9, z10, z11, z12⟩ := S11.out.all
              cases BC with
              | false =>
                go_wp2_with fail
                refine (HK.out _ S11.out.w).mono ?_
                rintro e w12 ⟨rfl, b12⟩
                go_wp2_with fail
                go_ret
                exact ⟨rfl, tr S11.out.w b12⟩
              | true =>
                have htr := HTR.out (by simp) (by simp)
                go_wp2_with fail
                refine (HAC.out _).mono ?_
                rintro e w13 ⟨rfl, b13⟩
                rw [htr]
                have S13 := Lib.hid (S11.out.below b13)
                clear b13 z0 z1 z2 z3 z4 z5 z6 z7 z8 z9 z10 z11 z12
                go_wp2_with fail
                refine (HK.out _ S13.out.w).mono ?_
                rintro e w14 ⟨rfl, b14⟩
                go_wp2_with fail
                go_ret
                exact ⟨rfl, tr S13.out.w b14⟩)
          | false =>
            clear hno
            cases BA with
            | true =>
              clear hall
              go_wp2_with fail
              all_goals (
                refine (HS.out _ _).mono ?_
                rintro e w10 ⟨rfl, b10⟩
                have S10 := Lib.hid (SG.out.below b10)
                clear b10 z0 z1 z2 z3 z4 z5 z6 z7 z8 z9 z10 z11 z12
                go_wp2_with fail
                refine (HK.out _ S10.out.w).mono ?_
                rintro e w12 ⟨rfl, b12⟩
                go_wp2_with fail
                go_ret
                exact ⟨rfl, tr S10.out.w b12⟩)
            | false => exact absurd (hall rfl rfl) eb
    · have hok : (⟨ka, xs, da, ba⟩ : En).ok := ⟨hxb, d0, d1, b0, b1, by show chk ka xs.length ba = 0; rw [hxl]; exact hch⟩
      obtain ⟨k250, l65⟩ := chk_ok hch
      have hkb : keyB ka = true := by
        unfold chk at hch
        split at hch
        · omega
        · split at hch
          · omega
          · next h => simpa using h
      have hk1 : 1 ≤ ka.size := by unfold keyB at hkb; simp at hkb; omega
      have hll := line_len _ hok
      simp only at hll
      have HT := Lib.hid (fun v (hb : Below w.heap.size w v) => etext_ok ka p1 l1 c1 xs da ba d0 d1 b0 b1 v (H1.out v hb) (HG.out v hb).tabs hch k250 l65)
      have HE := Lib.hid (fun v (hb : Below w.heap.size w v) => eparse_any (En.line ⟨ka, xs, da, ba⟩) (by omega) v (HG.out v hb))
      rw [eparse_line _ hok] at HE
      have HC := Lib.hid (fun v => cost_ok ka p1 l1 c1 hkb l65 v)
      have HTT := Lib.hid (fun v (hb : Below w.heap.size w v) p' c' (hb' : Ev.BytesOf v p' l1 xs) => etext_ok ka p' l1 c' xs da ba d0 d1 b0 b1 v hb' (HG.out v hb).tabs hch k250 l65)
      have HV := Lib.hid (fun v => evalid_any ka p1 l1 c1 da ba v)
      rw [decide_eq_true hch] at HV
      have HQ := Lib.hid (fun v (hb : Below w.heap.size w v) p' c' (hb' : Ev.BytesOf v p' l1 xs) => requal_any ka ka p' p1 l1 c' l1 c1 xs xs da da ba ba v hb' (H1.out v hb))
      rw [eqB_refl] at HQ
      rw [rowB_eq] at HT HTT
      have hle : En.line ⟨ka, xs, da, ba⟩ = rowB ka xs da ba := rfl
      rw [hle] at HE hll
      generalize rowB ka xs da ba = LN at *
      clear hch hle hok hkb
      go_wp2_with fail
      refine (HT.out _ S3.out.w).mono ?_
      rintro e w4 ⟨rfl, b4⟩
      have S4 := Lib.hid (S3.out.below b4)
      clear b4 z0 z1 z2 z3 z4 z5 z6 z7 z8 z9 z10 z11 z12
      obtain ⟨z0, z1, z2, z3, z4, z5, z6, z7, z8, z9, z10, z11, z12⟩ := S4.out.all
      go_wp2_with fail
      refine (HE.out _ S4.out.w).mono ?_
      rintro e w5 ⟨⟨p', c', rfl, by5, fr5⟩, b5⟩
      rw [hxl] at by5
      have b5' : Below w5.heap.size w5 (w5.alloc (.cells #[.string ka, .slice p' l1 c', .int .u64 da, .int .u64 ba] 33)) := by go_grown
      have S5 := Lib.hid (S4.out.below b5)
      have S5' := Lib.hid ((S4.out.below b5).below b5')
      have BX := Lib.hid (BoxE.new w5 ka p' l1 c' da ba)
      have Y5 := Lib.hid (by5.below b5')
      clear b5 b5' by5 z0 z1 z2 z3 z4 z5 z6 z7 z8 z9 z10 z11 z12
      obtain ⟨z0, z1, z2, z3, z4, z5, z6, z7, z8, z9, z10, z11, z12⟩ := S5'.out.all
      obtain ⟨x0, x1, x2, x3, -⟩ := BoxE.all BX.out
      go_wp2_with fail
      refine (HC.out _).mono ?_
      rintro e w6 ⟨rfl, rfl⟩
      go_wp2_with fail
      refine (HTT.out _ S5'.out.w _ _ Y5.out).mono ?_
      rintro e w7 ⟨rfl, b7⟩
      have S7 := Lib.hid (S5'.out.below b7)
      have X7 := Lib.hid (BX.out.below b7)
      have Y7 := Lib.hid (Y5.out.below b7)
      have hs7 := b7.size
      simp only [World.size_alloc] at hs7
      clear b7 z0 z1 z2 z3 z4 z5 z6 z7 z8 z9 z10 z11 z12 x0 x1 x2 x3
      obtain ⟨z0, z1, z2, z3, z4, z5, z6, z7, z8, z9, z10, z11, z12⟩ := S7.out.all
      obtain ⟨x0, x1, x2, x3, -⟩ := BoxE.all X7.out
      have hn49 : ¬ (48 + (ka.size : Int) + (l1 : Int)) < 49 := by omega
      go_wp2_with fail
      refine (HQ.out _ S7.out.w _ _ Y7.out).mono ?_
      rintro e w8 ⟨rfl, b8⟩
      have S8 := Lib.hid (S7.out.below b8)
      clear b8 z0 z1 z2 z3 z4 z5 z6 z7 z8 z9 z10 z11 z12 x0 x1 x2 x3
      obtain ⟨z0, z1, z2, z3, z4, z5, z6, z7, z8, z9, z10, z11, z12⟩ := S8.out.all
      go_wp2_with fail
      refine (HV.out _).mono ?_
      rintro e w9 ⟨rfl, b9⟩
      have SF := Lib.hid (S8.out.below b9)
      clear b9 z0 z1 z2 z3 z4 z5 z6 z7 z8 z9 z10 z11 z12 HT HE HC HTT HV HQ
      as_aux_lemma =>
        obtain ⟨z0, z1, z2, z3, z4, z5, z6, z7, z8, z9, z10, z11, z12⟩ := SF.out.all
        go_wp2_with fail
        clear z0 z1 z2 z3 z4 z5 z6 z7 z8 z9 z10 z11 z12
        go_region_held3 (fun w' => w'.cell? ⟨w.heap.size, 0, none⟩ = some (.string ka) ∧ w'.cell? ⟨w.heap.size, 1, none⟩ = some (.slice p1 l1 c1) ∧ w'.cell? ⟨w.heap.size, 2, none⟩ = some (.int .u64 da) ∧ w'.cell? ⟨w.heap.size, 3, none⟩ = some (.int .u64 ba) ∧ w'.cell? ⟨w.heap.size + 1, 0, none⟩ = some (.string kb) ∧ w'.cell? ⟨w.heap.size + 1, 1, none⟩ = some (.slice p2 l2 c2) ∧ w'.cell? ⟨w.heap.size + 1, 2, none⟩ = some (.int .u64 db) ∧ w'.cell? ⟨w.heap.size + 1, 3, none⟩ = some (.int .u64 bb) ∧ w'.cell? ⟨w.heap.size + 1 + 1, 0, none⟩ = some (.string kc) ∧ w'.cell? ⟨w.heap.size + 1 + 1, 1, none⟩ = some (.slice p3 l3 c3) ∧ w'.cell? ⟨w.heap.size + 1 + 1, 2, none⟩ = some (.int .u64 dc) ∧ w'.cell? ⟨w.heap.size + 1 + 1, 3, none⟩ = some (.int .u64 bc) ∧ w.heap.size + 1 + 1 < w'.heap.size ∧ T3 w w' w.heap.size ka kb kc p1 p2 p3 l1 c1 l2 c2 l3 c3 da db dc ba bb bc)
          (first
            | (exact T3.conj (SF.out.below (Below.drew (Below.refl _ _))))
            | (exact T3.keep o1 (by assumption))
            | assumption
            | fail)
          (first
            | (go_at_call 23; refine (before_any _ _ _ _ _ _ _ _ _ _ _ _ _).mono ?_; rintro e w' ⟨rfl, o1⟩)
            | fail)
        have SK : w'.cell? ⟨w.heap.size, 0, none⟩ = some (.string ka) ∧ w'.cell? ⟨w.heap.size, 1, none⟩ = some (.slice p1 l1 c1) ∧ w'.cell? ⟨w.heap.size, 2, none⟩ = some (.int .u64 da) ∧ w'.cell? ⟨w.heap.size, 3, none⟩ = some (.int .u64 ba) ∧ w'.cell? ⟨w.heap.size + 1, 0, none⟩ = some (.string kb) ∧ w'.cell? ⟨w.heap.size + 1, 1, none⟩ = some (.slice p2 l2 c2) ∧ w'.cell? ⟨w.heap.size + 1, 2, none⟩ = some (.int .u64 db) ∧ w'.cell? ⟨w.heap.size + 1, 3, none⟩ = some (.int .u64 bb) ∧ w'.cell? ⟨w.heap.size + 1 + 1, 0, none⟩ = some (.string kc) ∧ w'.cell? ⟨w.heap.size + 1 + 1, 1, none⟩ = some (.slice p3 l3 c3) ∧ w'.cell? ⟨w.heap.size + 1 + 1, 2, none⟩ = some (.int .u64 dc) ∧ w'.cell? ⟨w.heap.size + 1 + 1, 3, none⟩ = some (.int .u64 bc) ∧ w.heap.size + 1 + 1 < w'.heap.size ∧ T3 w w' w.heap.size ka kb kc p1 p2 p3 l1 c1 l2 c2 l3 c3 da db dc ba bb bc := by assumption
        have SG := Lib.hid SK.2.2.2.2.2.2.2.2.2.2.2.2.2
        clear SK
        obtain ⟨z0, z1, z2, z3, z4, z5, z6, z7, z8, z9, z10, z11, z12⟩ := SG.out.all
        obtain ⟨AB, hAB⟩ : ∃ x, befB da db ba bb = x := ⟨_, rfl⟩
        obtain ⟨BA, hBA⟩ : ∃ x, befB db da bb ba = x := ⟨_, rfl⟩
        rw [hAB, hBA]
        have hall : AB = false → BA = false → ba = bb := fun h1 h2 => bef_all (hAB.trans h1) (hBA.trans h2)
        have hno : AB = true → BA = false := fun h => by rw [← hBA]; exact bef_no (hAB.trans h)
        have HS := Lib.hid (fun v b => before_any ka ka p1 p1 l1 c1 l1 c1 da da b b v)
        simp only [bef_self] at HS
        have HBC := Lib.hid (fun v => before_any kb kc p2 p3 l2 c2 l3 c3 db dc bb bc v)
        have HAC := Lib.hid (fun v => before_any ka kc p1 p3 l1 c1 l3 c3 da dc ba bc v)
        obtain ⟨BC, hBC⟩ : ∃ x, befB db dc bb bc = x := ⟨_, rfl⟩
        have htr := @bef_tr da db dc ba bb bc
        rw [hAB] at htr
        rw [hBC] at htr HBC
        have HTR := Lib.hid htr
        clear SF o1 hAB hBA hBC htr
        by_cases eb : ba = bb
        · subst eb
          cases AB with
          | true =>
            have := hno rfl
            subst this
            clear hno hall
            go_wp2_with fail
            all_goals (
              refine (HS.out _ _).mono ?_
              rintro e w10 ⟨rfl, b10⟩
              have S10 := Lib.hid (SG.out.below b10)
              clear b10 z0 z1 z2 z3 z4 z5 z6 z7 z8 z9 z10 z11 z12
              obtain ⟨z0, z1, z2, z3, z4, z5, z6, z7, z8, z9, z10, z11, z12⟩ := S10.out.all
              go_wp2_with fail
              refine (HBC.out _).mono ?_
              rintro e w11 ⟨rfl, b11⟩
              have S11 := Lib.hid (S10.out.below b11)
              clear b11 z0 z1 z2 z3 z4 z5 z6 z7 z8 z9 z10 z11 z12
              obtain ⟨z0, z1, z2, z3, z4, z5, z6, z7, z8, z9, z10, z11, z12⟩ := S11.out.all
              cases BC with
              | false =>
                go_wp2_with fail
                refine (HK.out _ S11.out.w).mono ?_
                rintro e w12 ⟨rfl, b12⟩
                go_wp2_with fail
                go_ret
                exact ⟨rfl, tr S11.out.w b12⟩
              | true =>
                have htr := HTR.out (by simp) (by simp)
                go_wp2_with fail
                refine (HAC.out _).mono ?_
                rintro e w13 ⟨rfl, b13⟩
                rw [htr]
                have S13 := Lib.hid (S11.out.below b13)
                clear b13 z0 z1 z2 z3 z4 z5 z6 z7 z8 z9 z10 z11 z12
                go_wp2_with fail
                refine (HK.out _ S13.out.w).mono ?_
                rintro e w14 ⟨rfl, b14⟩
                go_wp2_with fail
                go_ret
                exact ⟨rfl, tr S13.out.w b14⟩)
          | false =>
            clear hno
            cases BA with
            | true =>
              clear hall
              go_wp2_with fail
              all_goals (
                refine (HS.out _ _).mono ?_
                rintro e w10 ⟨rfl, b10⟩
                have S10 := Lib.hid (SG.out.below b10)
                clear b10 z0 z1 z2 z3 z4 z5 z6 z7 z8 z9 z10 z11 z12
                go_wp2_with fail
                refine (HK.out _ S10.out.w).mono ?_
                rintro e w12 ⟨rfl, b12⟩
                go_wp2_with fail
                go_ret
                exact ⟨rfl, tr S10.out.w b12⟩)
            | false =>
              clear hall
              go_wp2_with fail
              all_goals (
                refine (HS.out _ _).mono ?_
                rintro e w10 ⟨rfl, b10⟩
                have S10 := Lib.hid (SG.out.below b10)
                clear b10 z0 z1 z2 z3 z4 z5 z6 z7 z8 z9 z10 z11 z12
                go_wp2_with fail
                refine (HK.out _ S10.out.w).mono ?_
                rintro e w12 ⟨rfl, b12⟩
                go_wp2_with fail
                go_ret
                exact ⟨rfl, tr S10.out.w b12⟩)
        · skip
          cases AB with
          | true =>
            have := hno rfl
            subst this
            clear hno hall
            go_wp2_with fail
            all_goals (
              refine (HS.out _ _).mono ?_
              rintro e w10 ⟨rfl, b10⟩
              have S10 := Lib.hid (SG.out.below b10)
              clear b10 z0 z1 z2 z3 z4 z5 z6 z7 z8 z9 z10 z11 z12
              obtain ⟨z0, z1, z2, z3, z4, z5, z6, z7, z8, z9, z10, z11, z12⟩ := S10.out.all
              go_wp2_with fail
              refine (HBC.out _).mono ?_
              rintro e w11 ⟨rfl, b11⟩
              have S11 := Lib.hid (S10.out.below b11)
              clear b11 z0 z1 z2 z3 z4 z5 z6 z7 z8 z9 z10 z11 z12
              obtain ⟨z0, z1, z2, z3, z4, z5, z6, z7, z8, z9, z10, z11, z12⟩ := S11.out.all
              cases BC with
              | false =>
                go_wp2_with fail
                refine (HK.out _ S11.out.w).mono ?_
                rintro e w12 ⟨rfl, b12⟩
                go_wp2_with fail
                go_ret
                exact ⟨rfl, tr S11.out.w b12⟩
              | true =>
                have htr := HTR.out (by simp) (by simp)
                go_wp2_with fail
                refine (HAC.out _).mono ?_
                rintro e w13 ⟨rfl, b13⟩
                rw [htr]
                have S13 := Lib.hid (S11.out.below b13)
                clear b13 z0 z1 z2 z3 z4 z5 z6 z7 z8 z9 z10 z11 z12
                go_wp2_with fail
                refine (HK.out _ S13.out.w).mono ?_
                rintro e w14 ⟨rfl, b14⟩
                go_wp2_with fail
                go_ret
                exact ⟨rfl, tr S13.out.w b14⟩)
          | false =>
            clear hno
            cases BA with
            | true =>
              clear hall
              go_wp2_with fail
              all_goals (
                refine (HS.out _ _).mono ?_
                rintro e w10 ⟨rfl, b10⟩
                have S10 := Lib.hid (SG.out.below b10)
                clear b10 z0 z1 z2 z3 z4 z5 z6 z7 z8 z9 z10 z11 z12
                go_wp2_with fail
                refine (HK.out _ S10.out.w).mono ?_
                rintro e w12 ⟨rfl, b12⟩
                go_wp2_with fail
                go_ret
                exact ⟨rfl, tr S10.out.w b12⟩)
            | false => exact absurd (hall rfl rfl) eb
end Go.Proofs.YtlpepmhpnmnpkaaDoor.Ent
