/-
  Configurations (layer 23): the reference's Parse.
-/
import Derived.Test.YtckibgpmncggaaaDoorCfgH
import Derived.Test.YtckibgpmncggaaaDoorCfgI
set_option linter.unusedVariables false
set_option linter.unusedSimpArgs false
namespace Go.Proofs.YtckibgpmncggaaaDoor.Cfg
open Go Go.RowKit Kit
/-- what the reference gives -/
def RP (s : List UInt8) (V : Value) (bb : Bool) : Prop :=
  (∃ a b c d : Nat, ∃ y : Bool, ck a b c = 0 ∧ d < 18446744073709551616 ∧ T a b c d y = s ∧ V = conf a b c d y ∧ bb = true) ∨
  (V = conf 0 0 0 0 false ∧ bb = false ∧ ∀ a b c d : Nat, ∀ y : Bool, ck a b c = 0 → d < 18446744073709551616 → T a b c d y ≠ s)
theorem nums_of {s : List UInt8} {a b c d : Nat} {y : Bool} (hc : ck a b c = 0) (hd : d < 18446744073709551616) (h : T a b c d y = s) : nums s = [(a : Int), b, c, d] := by
  obtain ⟨q1, q2, q3, q4, q5, q6⟩ := ck_ok hc
  rw [← h]
  exact nums_T a b c d y (by omega) (by omega) (by omega) (by omega)
theorem RP.none_ {s : List UInt8} (h : ∀ a b c d : Nat, ck a b c = 0 → d < 18446744073709551616 → nums s ≠ [(a : Int), b, c, d]) : RP s (conf 0 0 0 0 false) false :=
  .inr ⟨rfl, rfl, fun a b c d y hc hd ht => h a b c d hc hd (nums_of hc hd ht)⟩
/-- what was tried before round j -/
def Tried (s : List UInt8) (a b c d j : Nat) : Prop := j = 0 ∨ (j = 1 ∧ ¬ (ck a b c = 0 ∧ T a b c d false = s)) ∨ (j = 2 ∧ ¬ (ck a b c = 0 ∧ T a b c d false = s) ∧ ¬ (ck a b c = 0 ∧ T a b c d true = s))
theorem five_below' {B : Nat} {w W : World} {q : Nat} {a b c d e : Value} (hq : B ≤ q) (h : Below B W w) : Below B W (((((w.setCell ⟨q, 0, none⟩ a).setCell ⟨q, 1, none⟩ b).setCell ⟨q, 2, none⟩ c).setCell ⟨q, 3, none⟩ d).setCell ⟨q, 4, none⟩ e) :=
  set_below (p := ⟨q, 4, none⟩) hq (set_below (p := ⟨q, 3, none⟩) hq (set_below (p := ⟨q, 2, none⟩) hq (set_below (p := ⟨q, 1, none⟩) hq (set_below (p := ⟨q, 0, none⟩) hq h _) _) _) _) _
set_option maxRecDepth 100000 in
set_option maxHeartbeats 8000000 in
theorem rparse_any (s : List UInt8) (hs : s.length ≤ 1000) (w : World) :
    Calls Tryd.prog 22 #[.string (str s)] w fun e w' => ∃ V bb, e = .returned (.tuple #[V, .bool bb]) ∧ RP s V bb ∧ Below w.heap.size w w' := by
  have HN := Lib.hid (fun w => numbers_any s hs w)
  have HR := Lib.hid (nums_range s)
  go_enter Tryd.func22, Tryd.ntmps22
  go_wp2_with fail
  refine (HN.out _).mono ?_
  rintro e w1 ⟨v, rfl, hN, b1⟩
  have bw1 : Below w.heap.size w w1 := tr (by go_grown) b1
  have q1 := BoxA.below (BoxA.new w 32 (cells 0 0 0 0 false)) b1
  rcases own_cases (l := nums s) (f := Value.int .u64) hN with ⟨rfl, hn⟩ | ⟨g, cap, rfl, hbg, hg, hcap, hcm, hcell⟩
  · have HP := Lib.hid (RP.none_ (s := s) (fun a b c d _ _ h => by rw [hn] at h; cases h))
    obtain ⟨d0, d1, d2, d3, d4, fy⟩ := q1.five
    have Q1 := Lib.hid q1
    clear q1 hN hn b1
    go_wp2_with fail
    exact ret_conf Tryd.results22 (r := .bool false) (by rfl) (by rfl) (set_five Q1.out) rfl ⟨_, _, rfl, HP.out, five_below bw1⟩
  · by_cases h4 : (nums s).length = 4
    · obtain ⟨a, b, c, d, hl⟩ : ∃ a b c d, nums s = [a, b, c, d] := by
        match hm : nums s, h4 with
        | [a, b, c, d], _ => exact ⟨a, b, c, d, rfl⟩
      have e0 : w1.cell? ⟨g, 0, none⟩ = some (.int .u64 a) := by rw [hcell 0 (by omega)]; simp [hl]
      have e1 : w1.cell? ⟨g, 1, none⟩ = some (.int .u64 b) := by rw [hcell 1 (by omega)]; simp [hl]
      have e2 : w1.cell? ⟨g, 2, none⟩ = some (.int .u64 c) := by rw [hcell 2 (by omega)]; simp [hl]
      have e3 : w1.cell? ⟨g, 3, none⟩ = some (.int .u64 d) := by rw [hcell 3 (by omega)]; simp [hl]
      obtain ⟨a0, a1⟩ := HR.out a (by rw [hl]; simp)
      obtain ⟨b0, b1'⟩ := HR.out b (by rw [hl]; simp)
      obtain ⟨c0, c1⟩ := HR.out c (by rw [hl]; simp)
      obtain ⟨d0', d1'⟩ := HR.out d (by rw [hl]; simp)
      have HL := Lib.hid hl
      have Q1 := Lib.hid q1
      obtain ⟨d0, d1, d2, d3, d4, fy⟩ := q1.five
      rw [h4] at hN ⊢
      have HG := Lib.hid (show g < w1.heap.size ∧ g ≠ w.heap.size from ⟨hg, by have := b1.size; simp at hbg; omega⟩)
      clear hN hcell hl h4 hbg q1 b1
      have HNO := Lib.hid (fun (P : Int → Int → Int → Prop) (h1 : ¬ P a b c) (h2 : ∀ a b c : Nat, ck a b c = 0 → P a b c) => RP.none_ (s := s) (fun a' b' c' d' hc _ h => by
        rw [HL.out] at h
        simp only [List.cons.injEq, and_true] at h
        obtain ⟨rfl, rfl, rfl, rfl⟩ := h
        exact h1 (h2 a' b' c' hc)))
      by_cases ha : 1048576 < a
      · have HP := Lib.hid (HNO.out (fun a _ _ => a ≤ 1048576) (by omega) (fun a b c h => (ck_ok h).2.1))
        go_wp2_with fail
        exact ret_conf Tryd.results22 (r := .bool false) (by rfl) (by rfl) (set_five Q1.out) rfl ⟨_, _, rfl, HP.out, five_below bw1⟩
      by_cases hb : 1099511627776 < b
      · have HP := Lib.hid (HNO.out (fun _ b _ => b ≤ 1099511627776) (by omega) (fun a b c h => (ck_ok h).2.2.2.1))
        go_wp2_with fail
        exact ret_conf Tryd.results22 (r := .bool false) (by rfl) (by rfl) (set_five Q1.out) rfl ⟨_, _, rfl, HP.out, five_below bw1⟩
      by_cases hc : 99 < c
      · have HP := Lib.hid (HNO.out (fun _ _ c => c ≤ 99) (by omega) (fun a b c h => (ck_ok h).2.2.2.2.2))
        go_wp2_with fail
        exact ret_conf Tryd.results22 (r := .bool false) (by rfl) (by rfl) (set_five Q1.out) rfl ⟨_, _, rfl, HP.out, five_below bw1⟩
      go_wp2_with fail
      obtain ⟨a, rfl⟩ : ∃ n : Nat, a = n := ⟨a.toNat, by omega⟩
      obtain ⟨b, rfl⟩ : ∃ n : Nat, b = n := ⟨b.toNat, by omega⟩
      obtain ⟨c, rfl⟩ : ∃ n : Nat, c = n := ⟨c.toNat, by omega⟩
      obtain ⟨d, rfl⟩ : ∃ n : Nat, d = n := ⟨d.toNat, by omega⟩
      have v1 : IntKind.i64.wrap (a : Int) = a := wrap64 _ (by omega) (by omega)
      have v2 : IntKind.i64.wrap (b : Int) = b := wrap64 _ (by omega) (by omega)
      have v3 : IntKind.i64.wrap (c : Int) = c := wrap64 _ (by omega) (by omega)
      have HS := Lib.hid (show ∀ w', Below w1.heap.size w1 w' → (w'.cell? ⟨g, 0, none⟩ = some (.int .u64 (a : Int)) ∧ w'.cell? ⟨g, 1, none⟩ = some (.int .u64 (b : Int)) ∧ w'.cell? ⟨g, 2, none⟩ = some (.int .u64 (c : Int)) ∧ w'.cell? ⟨g, 3, none⟩ = some (.int .u64 (d : Int)) ∧ Below w1.heap.size w1 w') from fun w' h => by
        obtain ⟨k1, -, -⟩ := bcell h
        exact ⟨by rw [k1 _ _ HG.out.1]; exact e0, by rw [k1 _ _ HG.out.1]; exact e1, by rw [k1 _ _ HG.out.1]; exact e2, by rw [k1 _ _ HG.out.1]; exact e3, h⟩)
      clear HNO a0 a1 b0 b1' c0 c1 d0'
      clear e0 e1 e2 e3 d0 d1 d2 d3 d4 fy hg hcap hcm
      go_loopw [5] (fun i wr => ∃ j : Nat, j ≤ 2 ∧ i = .int .i64 j ∧ Tried s a b c d j ∧ Below w1.heap.size w1 wr) (fun i _ => 2 - (intOf i).toNat)
      case atStart => exact ⟨0, by omega, rfl, .inl rfl, Below.refl _ _⟩
      case round =>
        obtain ⟨j, hj, rfl, hT, bW⟩ := hrel
        rcases hT with rfl | ⟨rfl, hNF⟩ | ⟨rfl, hNF, hNF2⟩
        · obtain ⟨x0, x1, x2, x3, -⟩ := HS.out _ bW
          obtain ⟨y0, y1, y2, y3, y4, yf⟩ := BoxA.five (BoxA.new wr 32 (cells 0 0 0 0 false))
          have bw0 := Lib.hid bW
          go_wp2_with fail
          apply region_once
          case first =>
            go_region_held3 (fun w' => w'.cell? ⟨g, 0, none⟩ = some (.int .u64 (a : Int)) ∧ w'.cell? ⟨g, 1, none⟩ = some (.int .u64 (b : Int)) ∧ w'.cell? ⟨g, 2, none⟩ = some (.int .u64 (c : Int)) ∧ w'.cell? ⟨g, 3, none⟩ = some (.int .u64 (d : Int)) ∧ Below w1.heap.size w1 w')
              (first
                | (exact HS.out _ (Below.drew bw0.out))
                | assumption
                | (exact HS.out _ (Below.drew (bw0.out.alloc bw0.out.size _)))
                | (exact HS.out _ (five_below' bw0.out.size (Below.drew (bw0.out.alloc bw0.out.size _))))
                | fail)
              (fail)
            all_goals exact ⟨rfl, rfl⟩
          have XU := Lib.hid (BoxA.below (BoxA.new wr 32 (cells a b c d false)) (Below.drew (Below.refl _ _)))
          have bU := Lib.hid (show Below w1.heap.size w1 (wr.alloc (.cells (cells a b c d false) 32)).drew from Below.drew (bw0.out.alloc bw0.out.size _))
          clear bW bw0 x0 x1 x2 x3 y0 y1 y2 y3 y4 yf
          generalize (wr.alloc (.cells (cells a b c d false) 32)).drew = U at *
          generalize wr.heap.size = q at *
          obtain ⟨k0, k1, k2, k3, k4, -⟩ := XU.out.five
          by_cases hck : ck a b c = 0
          · have HC := Lib.hid (fun w => rcheck_any a b c d false w)
            rw [hck] at HC
            have HT := Lib.hid (fun w => rtext_any a b c d false (by omega) (by omega) (by omega) (by omega) w)
            by_cases hT : T a b c d false = s
            · have HP := Lib.hid (show RP s (conf a b c d false) true from .inl ⟨a, b, c, d, false, hck, by omega, hT, rfl, rfl⟩)
              rw [hT] at HT
              have hb : ((str s).toList == (str s).toList) = true := beq_self_eq_true _
              clear hck hT
              go_wp2_with fail
              refine (HC.out _).mono ?_
              rintro e w5 ⟨rfl, f5⟩
              have B5 := Lib.hid (tr bU.out f5)
              clear k0 k1 k2 k3 k4
              obtain ⟨k0, k1, k2, k3, k4, -⟩ := (XU.out.below f5).five
              have X5 := Lib.hid (XU.out.below f5)
              clear f5
              go_wp2_with fail
              refine (HT.out _).mono ?_
              rintro e w6 ⟨rfl, f6⟩
              have B6 := Lib.hid (tr B5.out f6)
              clear k0 k1 k2 k3 k4
              obtain ⟨k0, k1, k2, k3, k4, -⟩ := (X5.out.below f6).five
              have Q6 := Lib.hid (Q1.out.below B6.out)
              obtain ⟨p0, p1, p2, p3, p4, pf⟩ := Q6.out.five
              clear f6
              go_wp2_with fail
              exact ret_conf Tryd.results22 (r := .bool true) (by rfl) (by rfl) (set_five Q6.out) rfl ⟨_, _, rfl, HP.out, five_below (tr bw1 B6.out)⟩
            · have hb : ((str (T a b c d false)).toList == (str s).toList) = false := by
                rw [Bool.eq_false_iff]
                intro h1
                apply hT
                have h2 := eq_of_beq h1
                rw [ByteArray.toList_eq, ByteArray.toList_eq] at h2
                exact h2
              have HTR := Lib.hid (show Tried s a b c d 1 from .inr (.inl ⟨rfl, (fun h => hT h.2)⟩))
              clear hck hT
              generalize hz : str (T a b c d false) = z at *
              clear hz
              go_wp2_with fail
              refine (HC.out _).mono ?_
              rintro e w5 ⟨rfl, f5⟩
              have B5 := Lib.hid (tr bU.out f5)
              clear k0 k1 k2 k3 k4
              obtain ⟨k0, k1, k2, k3, k4, -⟩ := (XU.out.below f5).five
              have X5 := Lib.hid (XU.out.below f5)
              clear f5
              go_wp2_with fail
              refine (HT.out _).mono ?_
              rintro e w6 ⟨rfl, f6⟩
              have B6 := Lib.hid (tr B5.out f6)
              clear k0 k1 k2 k3 k4 f6
              go_wp2_with fail
              go_roundw
              case rel => exact ⟨1, by omega, by go_num, HTR.out, B6.out⟩
              case measure => simp [intOf]
          · have HC := Lib.hid (fun w => rcheck_any a b c d false w)
            have HTR := Lib.hid (show Tried s a b c d 1 from .inr (.inl ⟨rfl, (fun h => hck h.1)⟩))
            generalize ck (a : Int) b c = r at *
            have hr : (r == 0) = false := by rw [beq_eq_false_iff_ne]; exact hck
            clear hck
            go_wp2_with fail
            refine (HC.out _).mono ?_
            rintro e w5 ⟨rfl, f5⟩
            have B5 := Lib.hid (tr bU.out f5)
            clear k0 k1 k2 k3 k4 f5
            go_wp2_with fail
            go_roundw
            case rel => exact ⟨1, by omega, by go_num, HTR.out, B5.out⟩
            case measure => simp [intOf]
        · have NF := Lib.hid hNF
          clear hNF
          obtain ⟨x0, x1, x2, x3, -⟩ := HS.out _ bW
          obtain ⟨y0, y1, y2, y3, y4, yf⟩ := BoxA.five (BoxA.new wr 32 (cells 0 0 0 0 false))
          have bw0 := Lib.hid bW
          go_wp2_with fail
          apply region_once
          case first =>
            go_region_held3 (fun w' => w'.cell? ⟨g, 0, none⟩ = some (.int .u64 (a : Int)) ∧ w'.cell? ⟨g, 1, none⟩ = some (.int .u64 (b : Int)) ∧ w'.cell? ⟨g, 2, none⟩ = some (.int .u64 (c : Int)) ∧ w'.cell? ⟨g, 3, none⟩ = some (.int .u64 (d : Int)) ∧ Below w1.heap.size w1 w')
              (first
                | (exact HS.out _ (Below.drew bw0.out))
                | assumption
                | (exact HS.out _ (Below.drew (bw0.out.alloc bw0.out.size _)))
                | (exact HS.out _ (five_below' bw0.out.size (Below.drew (bw0.out.alloc bw0.out.size _))))
                | fail)
              (fail)
            all_goals exact ⟨rfl, rfl⟩
          have XU := Lib.hid (BoxA.below (BoxA.new wr 32 (cells a b c d true)) (Below.drew (Below.refl _ _)))
          have bU := Lib.hid (show Below w1.heap.size w1 (wr.alloc (.cells (cells a b c d true) 32)).drew from Below.drew (bw0.out.alloc bw0.out.size _))
          clear bW bw0 x0 x1 x2 x3 y0 y1 y2 y3 y4 yf
          generalize (wr.alloc (.cells (cells a b c d true) 32)).drew = U at *
          generalize wr.heap.size = q at *
          obtain ⟨k0, k1, k2, k3, k4, -⟩ := XU.out.five
          by_cases hck : ck a b c = 0
          · have HC := Lib.hid (fun w => rcheck_any a b c d true w)
            rw [hck] at HC
            have HT := Lib.hid (fun w => rtext_any a b c d true (by omega) (by omega) (by omega) (by omega) w)
            by_cases hT : T a b c d true = s
            · have HP := Lib.hid (show RP s (conf a b c d true) true from .inl ⟨a, b, c, d, true, hck, by omega, hT, rfl, rfl⟩)
              rw [hT] at HT
              have hb : ((str s).toList == (str s).toList) = true := beq_self_eq_true _
              clear hck hT
              go_wp2_with fail
              refine (HC.out _).mono ?_
              rintro e w5 ⟨rfl, f5⟩
              have B5 := Lib.hid (tr bU.out f5)
              clear k0 k1 k2 k3 k4
              obtain ⟨k0, k1, k2, k3, k4, -⟩ := (XU.out.below f5).five
              have X5 := Lib.hid (XU.out.below f5)
              clear f5
              go_wp2_with fail
              refine (HT.out _).mono ?_
              rintro e w6 ⟨rfl, f6⟩
              have B6 := Lib.hid (tr B5.out f6)
              clear k0 k1 k2 k3 k4
              obtain ⟨k0, k1, k2, k3, k4, -⟩ := (X5.out.below f6).five
              have Q6 := Lib.hid (Q1.out.below B6.out)
              obtain ⟨p0, p1, p2, p3, p4, pf⟩ := Q6.out.five
              clear f6
              go_wp2_with fail
              exact ret_conf Tryd.results22 (r := .bool true) (by rfl) (by rfl) (set_five Q6.out) rfl ⟨_, _, rfl, HP.out, five_below (tr bw1 B6.out)⟩
            · have hb : ((str (T a b c d true)).toList == (str s).toList) = false := by
                rw [Bool.eq_false_iff]
                intro h1
                apply hT
                have h2 := eq_of_beq h1
                rw [ByteArray.toList_eq, ByteArray.toList_eq] at h2
                exact h2
              have HTR := Lib.hid (show Tried s a b c d 2 from .inr (.inr ⟨rfl, NF.out, (fun h => hT h.2)⟩))
              clear hck hT
              generalize hz : str (T a b c d true) = z at *
              clear hz
              go_wp2_with fail
              refine (HC.out _).mono ?_
              rintro e w5 ⟨rfl, f5⟩
              have B5 := Lib.hid (tr bU.out f5)
              clear k0 k1 k2 k3 k4
              obtain ⟨k0, k1, k2, k3, k4, -⟩ := (XU.out.below f5).five
              have X5 := Lib.hid (XU.out.below f5)
              clear f5
              go_wp2_with fail
              refine (HT.out _).mono ?_
              rintro e w6 ⟨rfl, f6⟩
              have B6 := Lib.hid (tr B5.out f6)
              clear k0 k1 k2 k3 k4 f6
              go_wp2_with fail
              go_roundw
              case rel => exact ⟨2, by omega, by go_num, HTR.out, B6.out⟩
              case measure => simp [intOf]
          · have HC := Lib.hid (fun w => rcheck_any a b c d true w)
            have HTR := Lib.hid (show Tried s a b c d 2 from .inr (.inr ⟨rfl, NF.out, (fun h => hck h.1)⟩))
            generalize ck (a : Int) b c = r at *
            have hr : (r == 0) = false := by rw [beq_eq_false_iff_ne]; exact hck
            clear hck
            go_wp2_with fail
            refine (HC.out _).mono ?_
            rintro e w5 ⟨rfl, f5⟩
            have B5 := Lib.hid (tr bU.out f5)
            clear k0 k1 k2 k3 k4 f5
            go_wp2_with fail
            go_roundw
            case rel => exact ⟨2, by omega, by go_num, HTR.out, B5.out⟩
            case measure => simp [intOf]
        · have HP := Lib.hid (show RP s (conf 0 0 0 0 false) false from .inr ⟨rfl, rfl, fun a' b' c' d' y' hc' hd' ht' => by
            have h := nums_of hc' hd' ht'
            rw [HL.out] at h
            simp only [List.cons.injEq, and_true] at h
            obtain ⟨q1, q2, q3, q4⟩ := h
            obtain rfl : a = a' := by omega
            obtain rfl : b = b' := by omega
            obtain rfl : c = c' := by omega
            obtain rfl : d = d' := by omega
            cases y'
            · exact hNF ⟨hc', ht'⟩
            · exact hNF2 ⟨hc', ht'⟩⟩)
          have Q6 := Lib.hid (Q1.out.below bW)
          obtain ⟨p0, p1, p2, p3, p4, pf⟩ := Q6.out.five
          have B6 := Lib.hid bW
          clear bW
          go_wp2_with fail
          exact ret_conf Tryd.results22 (r := .bool false) (by rfl) (by rfl) (set_five Q6.out) rfl ⟨_, _, rfl, HP.out, five_below (tr bw1 B6.out)⟩
    · have HP := Lib.hid (RP.none_ (s := s) (fun a b c d _ _ h => by rw [h] at h4; exact h4 rfl))
      have h5 : (((nums s).length : Int) == 4) = false := by rw [beq_eq_false_iff_ne]; omega
      have h6 : (((nums s).length : Int) != 4) = true := by rw [bne, h5]; rfl
      obtain ⟨d0, d1, d2, d3, d4, fy⟩ := q1.five
      have Q1 := Lib.hid q1
      clear q1 hN hcell b1 hcap HN HR h4
      generalize (nums s).length = n at *
      go_wp2_with fail
      exact ret_conf Tryd.results22 (r := .bool false) (by rfl) (by rfl) (set_five Q1.out) rfl ⟨_, _, rfl, HP.out, five_below bw1⟩
end Go.Proofs.YtckibgpmncggaaaDoor.Cfg
