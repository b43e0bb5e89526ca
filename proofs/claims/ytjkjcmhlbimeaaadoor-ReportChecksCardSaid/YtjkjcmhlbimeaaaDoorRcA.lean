/-
  Checks of package report (layer 52).
-/
import Derived.Test.YtjkjcmhlbimeaaaDoorRepW
import Derived.Test.YtjkjcmhlbimeaaaDoorLaid
import Derived.Deep.RegionHeld3
import Derived.StillTailTactics
set_option linter.unusedVariables false
set_option linter.unusedSimpArgs false
namespace Go.Proofs.YtjkjcmhlbimeaaaDoor.Num
open Go Go.RowKit Kit Go.Sort
theorem tab_at {P : Program} {W : World} {laid : List (String × DataW Unit)} (h : laidMet P laid W) (i : Nat) {name : String} {k : IntKind} {zs : List Int} {g : Nat} {t e : TypeId} {n : Nat} (hm : laid[i]? = some (name, Lib.tabData k zs))
    (hg : P.globalNamed name = some g) (hty : (P.globals[g]?).map (·.type) = some t) (ht : P.underlying t = some (.array n e)) (he : P.underlying e = some (.int k)) (hce : P.cellsOf e = 1) (hct : P.cellsOf t = n) : Lib.TabIs P W name k zs := by
  obtain ⟨ps, hl, -⟩ := h
  obtain ⟨g', t', cs, fuel, p, e1, e2, hvar, hd⟩ := Ev.laidVars_get hl hm
  obtain rfl := Option.some.inj (hg.symm.trans e1)
  obtain rfl := Option.some.inj (hty.symm.trans e2)
  unfold Lib.TabIs
  rw [hvar, ← Lib.cells_of_tab ht he hce hct hd]
theorem tabs_of {W : World} {laid : List (String × DataW Unit)} (h : laidMet Tryd.prog laid W) (i : Nat) (hm : laid[i]? = some ("internal/strconv.uint64pow10", Lib.tabData .u64 Lib.pow10Tab)) : Tabs W :=
  tab_at h i hm (g := 5) (by kernel_rfl) (t := 194) (by kernel_rfl) (e := 23) (n := 20) (by kernel_rfl) (by kernel_rfl) (by kernel_rfl) (by kernel_rfl)
/-- the cells of a table of strings -/
theorem str_cell {σ : Nat → Value} {g k : Nat} {zs : List (List UInt8)} {W : World} {z : List UInt8} (h : Ev.GR σ (g, zs.map fun z => Value.string ⟨⟨z⟩⟩) W) (hk : zs[k]? = some z) : W.cell? ⟨g, k, none⟩ = some (.string ⟨⟨z⟩⟩) := by
  obtain ⟨c, t, fr, h1, h2⟩ := h
  obtain ⟨v, h3, h4⟩ := h2 k (.string ⟨⟨z⟩⟩) (by simp [hk])
  cases h4
  simp [World.cell?, h1, h3]
def cwords : List (List UInt8) := [[], [116, 105, 109, 101], [101, 118, 101, 110, 116], [101, 120, 112, 105, 114, 121], [118, 105, 99, 116, 105, 109], [98, 117, 100, 103, 101, 116], [114, 101, 97, 100], [99, 117, 114, 115, 111, 114], [101, 114, 114, 111, 114]]
def Cw (W : World) : Prop := 1 < W.heap.size ∧ ∀ (k : Nat) (z : List UInt8), cwords[k]? = some z → W.cell? ⟨1, k, none⟩ = some (.string ⟨⟨z⟩⟩)
theorem Cw.below {W W' : World} (h : Cw W) (hb : Below W.heap.size W W') : Cw W' := ⟨Nat.lt_of_lt_of_le h.1 hb.size, fun k z hk => (hb.cell h.1).trans (h.2 k z hk)⟩
theorem cw_of {W : World} {laid : List (String × DataW Unit)} (h : laidMet Tryd.prog laid W) (i : Nat) (hm : laid[i]? = some ("cubbyhole/report.complaints", .agg (cwords.map fun z => .lit (.string z)))) : Cw W := by
  have g := Ev.gr_strB (σ := fun _ => undef) h i "cubbyhole/report.complaints" 1 cwords hm (by kernel_rfl)
  refine ⟨?_, fun k z hk => str_cell g hk⟩
  obtain ⟨c, t, fr, h1, _⟩ := g
  exact (Array.getElem?_eq_some_iff.1 h1).1
def chk (a : Nat) (z : List UInt8) : ByteArray := ⟨#[114, 101, 115, 117, 108, 116, 32]⟩ ++ dec a ++ ⟨#[58, 32]⟩ ++ ⟨⟨z⟩⟩ ++ ⟨#[10]⟩
theorem cw_len {k : Nat} {z : List UInt8} (h : cwords[k]? = some z) : z.length ≤ 6 := by
  have := List.mem_of_getElem? h
  simp only [cwords, List.mem_cons, List.not_mem_nil, or_false] at this
  rcases this with rfl | rfl | rfl | rfl | rfl | rfl | rfl | rfl | rfl <;> decide
set_option maxRecDepth 100000 in
set_option maxHeartbeats 1000000 in
theorem check_ok {a k : Nat} {z : List UInt8} (ha : a < 9223372036854775808) (hk1 : 1 ≤ k) (hk2 : k ≤ 8) (hz : cwords[k]? = some z) (w : World) (ht : Tabs w) (hc : Cw w) :
    Calls Tryd.prog 33 #[.agg #[.int .i64 (a : Int), .int .i64 (k : Int)]] w fun e w' => e = .returned (.tuple #[.string (chk a z), .int .i64 0]) ∧ Below w.heap.size w w' := by
  have i0 : ¬ (a : Int) < 0 := by omega
  have i1 : ¬ (k : Int) < 1 := by omega
  have i2 : ¬ (8 : Int) < (k : Int) := by omega
  have i3 : ((a : Int) == -1) = false := by rw [beq_eq_false_iff_ne]; omega
  have i4 : (k : Int) < 9 := by omega
  have i5 : (0 : Int) ≤ (k : Int) := by omega
  have HT := Lib.hid (fun (v : World) (hb : Below w.heap.size w v) => itoa_any a ha v (ht.below hb))
  have HC := Lib.hid (fun (v : World) (hb : Below w.heap.size w v) => (hc.below hb).2 k z hz)
  have hzl := cw_len hz
  have hds := dec_size a ha
  have hzs : (⟨⟨z⟩⟩ : ByteArray).size = z.length := rfl
  have HR := Lib.hid (show chk a z = ⟨#[114, 101, 115, 117, 108, 116, 32]⟩ ++ dec a ++ ⟨#[58, 32]⟩ ++ ⟨⟨z⟩⟩ ++ ⟨#[10]⟩ from rfl)
  have HB := Lib.hid (by go_grown : Below w.heap.size w (w.alloc (.cells #[.int .i64 (a : Int), .int .i64 (k : Int)] 66)))
  have hb0 := (MapKept.heap_alloc w (.cells #[.int .i64 (a : Int), .int .i64 (k : Int)] 66)).1
  have hsz : w.heap.size < (w.alloc (.cells #[.int .i64 (a : Int), .int .i64 (k : Int)] 66)).heap.size := by simp
  clear hz ht hc hk1 hk2
  go_enter Tryd.func33, Tryd.ntmps33
  go_wp2_with fail
  obtain ⟨V, hV⟩ : ∃ V, w.alloc (.cells #[.int .i64 (a : Int), .int .i64 (k : Int)] 66) = V := ⟨_, rfl⟩
  rw [hV] at HB hb0 hsz ⊢
  clear hV
  have X := Lib.hid hb0
  have SC := Lib.hid (fun (v : World) (hb : Below V.heap.size V v) => (show v.cell? ⟨w.heap.size, 0, none⟩ = some (.int .i64 (a : Int)) ∧ v.cell? ⟨w.heap.size, 1, none⟩ = some (.int .i64 (k : Int)) ∧ v.cell? ⟨1, k, none⟩ = some (.string ⟨⟨z⟩⟩) ∧ Below V.heap.size V v from by
    have e := (hb.block _ hsz).trans X.out
    exact ⟨by simp [World.cell?, e], by simp [World.cell?, e], HC.out v (HB.out.trans (hb.mono HB.out.size)), hb⟩))
  have HIT := Lib.hid (fun (v : World) (hs : v.cell? ⟨w.heap.size, 0, none⟩ = some (.int .i64 (a : Int)) ∧ v.cell? ⟨w.heap.size, 1, none⟩ = some (.int .i64 (k : Int)) ∧ v.cell? ⟨1, k, none⟩ = some (.string ⟨⟨z⟩⟩) ∧ Below V.heap.size V v) => (HT.out v (HB.out.trans (hs.2.2.2.mono HB.out.size))).mono (fun e v' h => (⟨h.1, SC.out v' (hs.2.2.2.trans (h.2.mono hs.2.2.2.size))⟩ : e = .returned (.string (dec a)) ∧ _)))
  clear hb0 HT HC
  generalize (⟨⟨z⟩⟩ : ByteArray) = zb at *
  generalize dec a = d at *
  have s1 : ¬ 9223372036854775807 < 7 + d.size := by omega
  have s2 : ¬ 9223372036854775807 < 7 + d.size + 2 := by omega
  have s3 : ¬ 9223372036854775807 < 7 + d.size + 2 + zb.size := by omega
  have s4 : ¬ 9223372036854775807 < 7 + d.size + 2 + zb.size + 1 := by omega
  clear hzs
  go_region_held3 (fun v => v.cell? ⟨w.heap.size, 0, none⟩ = some (.int .i64 (a : Int)) ∧ v.cell? ⟨w.heap.size, 1, none⟩ = some (.int .i64 (k : Int)) ∧ v.cell? ⟨1, k, none⟩ = some (.string zb) ∧ Below V.heap.size V v)
    (first
      | (exact SC.out _ (Below.drew (Below.refl _ _)))
      | assumption
      | fail)
    (first
      | (go_at_call 48; refine (HIT.out _ (by assumption)).mono ?_; rintro e w' ⟨rfl, hS⟩; have BS := Lib.hid hS.2.2.2)
      | fail)
  go_wp2_with fail
  go_ret2
  exact ⟨by rw [HR.out]; rfl, HB.out.trans (BS.out.mono HB.out.size)⟩
abbrev cw0 : ByteArray := ⟨#[102, 105, 110, 101, 10]⟩
set_option maxRecDepth 100000 in
theorem check_fine (w : World) :
    Calls Tryd.prog 33 #[.agg #[.int .i64 (-1), .int .i64 0]] w fun e w' => e = .returned (.tuple #[.string cw0, .int .i64 0]) ∧ Below w.heap.size w w' := by
  go_enter Tryd.func33, Tryd.ntmps33
  go_wp2_with fail
  go_ret2
  exact ⟨rfl, by go_grown⟩
set_option maxRecDepth 100000 in
theorem check_bad {a k : Int} (h1 : ¬ (a = -1 ∧ k = 0)) (h2 : a < 0 ∨ k < 1 ∨ 8 < k) (w : World) :
    Calls Tryd.prog 33 #[.agg #[.int .i64 a, .int .i64 k]] w fun e w' => e = .returned (.tuple #[.string ⟨#[]⟩, .int .i64 2]) ∧ Below w.heap.size w w' := by
  have e1 : (a == -1) = true ∧ (k == 0) = false ∨ (a == -1) = false := by
    by_cases h : a = -1
    · exact .inl ⟨by rw [beq_iff_eq]; exact h, by rw [beq_eq_false_iff_ne]; exact fun e => h1 ⟨h, e⟩⟩
    · exact .inr (by rw [beq_eq_false_iff_ne]; exact h)
  have e2 : a < 0 ∨ (¬ a < 0 ∧ k < 1) ∨ (¬ a < 0 ∧ ¬ k < 1 ∧ 8 < k) := by omega
  clear h1 h2
  rcases e1 with ⟨f1, f2⟩ | f1
  all_goals rcases e2 with f3 | ⟨f3, f4⟩ | ⟨f3, f4, f5⟩
  all_goals (
    go_enter Tryd.func33, Tryd.ntmps33
    go_wp2_with fail
    go_ret2
    exact ⟨rfl, by go_grown⟩)
set_option maxRecDepth 100000 in
theorem why_at {j : Nat} {z : List UInt8} (hz : cwords[j + 1]? = some z) (W V : World) (hV : V.heap[W.heap.size]? = some (.cells #[.string ⟨#[116, 105, 109, 101]⟩, .string ⟨#[101, 118, 101, 110, 116]⟩, .string ⟨#[101, 120, 112, 105, 114, 121]⟩, .string ⟨#[118, 105, 99, 116, 105, 109]⟩, .string ⟨#[98, 117, 100, 103, 101, 116]⟩, .string ⟨#[114, 101, 97, 100]⟩, .string ⟨#[99, 117, 114, 115, 111, 114]⟩, .string ⟨#[101, 114, 114, 111, 114]⟩] 9 (0, 0))) : V.cell? ⟨W.heap.size, j, none⟩ = some (.string ⟨⟨z⟩⟩) := by
  have hj : j < 8 := by
    have := (List.getElem?_eq_some_iff.1 hz).1
    simp [cwords] at this
    omega
  have hj8 : j = 0 ∨ j = 1 ∨ j = 2 ∨ j = 3 ∨ j = 4 ∨ j = 5 ∨ j = 6 ∨ j = 7 := by omega
  rcases hj8 with rfl | rfl | rfl | rfl | rfl | rfl | rfl | rfl
  all_goals (
    simp [cwords] at hz
    subst hz
    simp [World.cell?, hV])
set_option maxRecDepth 100000 in
set_option maxHeartbeats 2000000 in
theorem lchecks_ok {n q : Nat} (hn : n < 9223372036854775808) (hq1 : 1 ≤ q) (hq2 : q ≤ 8) (w : World) (ht : Tabs w) (hc : Cw w)
    (HKN : ∀ w1, Below w.heap.size w w1 → Calls Tryd.prog 26 #[] w1 fun e w' => e = .returned (.bool true) ∧ Below w1.heap.size w1 w') :
    Calls Tryd.prog 9 #[.agg #[.int .i64 (n : Int), .int .i64 (q : Int)]] w fun e w' => e = .returned (.bool true) ∧ Below w.heap.size w w' := by
  obtain ⟨j, hj⟩ : ∃ j, q = j + 1 := ⟨q - 1, by omega⟩
  obtain ⟨z, hz⟩ : ∃ z, cwords[j + 1]? = some z := ⟨_, List.getElem?_eq_getElem (by simp [cwords]; omega)⟩
  have HK := Lib.hid HKN
  clear HKN
  have HB := Lib.hid (by go_grown : Below w.heap.size w (w.alloc (.cells #[.int .i64 (n : Int), .int .i64 (q : Int)] 66)))
  have hb0 := (MapKept.heap_alloc w (.cells #[.int .i64 (n : Int), .int .i64 (q : Int)] 66)).1
  have hsz : w.heap.size < (w.alloc (.cells #[.int .i64 (n : Int), .int .i64 (q : Int)] 66)).heap.size := by simp
  have SC0 := Lib.hid (fun (V : World) (X : V.heap[w.heap.size]? = some (.cells #[.int .i64 (n : Int), .int .i64 (q : Int)] 66 (0, 0))) (hsz : w.heap.size < V.heap.size) (v : World) (hb : Below V.heap.size V v) => (show v.cell? ⟨w.heap.size, 0, none⟩ = some (.int .i64 (n : Int)) ∧ v.cell? ⟨w.heap.size, 1, none⟩ = some (.int .i64 (q : Int)) from by
    have e := (hb.block _ hsz).trans X
    exact ⟨by simp [World.cell?, e], by simp [World.cell?, e]⟩))
  have HD := Lib.hid (fun v => decimal_any n hn v)
  have hd := dec_size n hn
  have hzl := cw_len hz
  have i0 : ¬ (n : Int) < 0 := by omega
  have i1 : ¬ (q : Int) < 1 := by omega
  have i2 : ¬ (8 : Int) < (q : Int) := by omega
  have i3 : ((n : Int) == -1) = false := by rw [beq_eq_false_iff_ne]; omega
  have wj : IntKind.i64.wrap ((q : Int) - 1) = (j : Int) := by rw [IntWalk.i64_in _ (by omega)]; omega
  have j0 : (0 : Int) ≤ (j : Int) := by omega
  have j8 : (j : Int) < 8 := by omega
  have HC := Lib.hid (fun (v : World) (hb : Below w.heap.size w v) => check_ok hn hq1 hq2 (show cwords[q]? = some z by rw [hj]; exact hz) v (ht.below hb) (hc.below hb))
  have HW := Lib.hid (fun (W V : World) hV => why_at hz W V hV)
  have HCH := Lib.hid (show chk n z = ⟨#[114, 101, 115, 117, 108, 116, 32]⟩ ++ dec n ++ ⟨#[58, 32]⟩ ++ ⟨⟨z⟩⟩ ++ ⟨#[10]⟩ from rfl)
  have hzs : (⟨⟨z⟩⟩ : ByteArray).size ≤ 6 := hzl
  clear hz ht hc hj hq1 hq2 hzl
  generalize (⟨⟨z⟩⟩ : ByteArray) = zb at *
  generalize chk n z = cz at *
  generalize dec n = d at *
  go_enter Tryd.func9, Tryd.ntmps9
  go_wp2_with fail
  refine (HC.out _ HB.out).mono ?_
  rintro e v1 ⟨rfl, b1⟩
  obtain ⟨x0, x1⟩ := SC0.out _ hb0 hsz v1 b1
  have B1 := Lib.hid (HB.out.trans (b1.mono HB.out.size))
  have XS := Lib.hid (fun (v : World) (hb : Below v1.heap.size v1 v) => SC0.out _ hb0 hsz v (b1.trans (hb.mono b1.size)))
  clear b1 hb0 hsz
  go_wp2_with fail
  have hv0 := (MapKept.heap_alloc v1 (.cells #[.string ⟨#[116, 105, 109, 101]⟩, .string ⟨#[101, 118, 101, 110, 116]⟩, .string ⟨#[101, 120, 112, 105, 114, 121]⟩, .string ⟨#[118, 105, 99, 116, 105, 109]⟩, .string ⟨#[98, 117, 100, 103, 101, 116]⟩, .string ⟨#[114, 101, 97, 100]⟩, .string ⟨#[99, 117, 114, 115, 111, 114]⟩, .string ⟨#[101, 114, 114, 111, 114]⟩] 9)).1
  have hvs : v1.heap.size < (v1.alloc (.cells #[.string ⟨#[116, 105, 109, 101]⟩, .string ⟨#[101, 118, 101, 110, 116]⟩, .string ⟨#[101, 120, 112, 105, 114, 121]⟩, .string ⟨#[118, 105, 99, 116, 105, 109]⟩, .string ⟨#[98, 117, 100, 103, 101, 116]⟩, .string ⟨#[114, 101, 97, 100]⟩, .string ⟨#[99, 117, 114, 115, 111, 114]⟩, .string ⟨#[101, 114, 114, 111, 114]⟩] 9)).heap.size := by simp
  have hvb := (by go_grown : Below v1.heap.size v1 (v1.alloc (.cells #[.string ⟨#[116, 105, 109, 101]⟩, .string ⟨#[101, 118, 101, 110, 116]⟩, .string ⟨#[101, 120, 112, 105, 114, 121]⟩, .string ⟨#[118, 105, 99, 116, 105, 109]⟩, .string ⟨#[98, 117, 100, 103, 101, 116]⟩, .string ⟨#[114, 101, 97, 100]⟩, .string ⟨#[99, 117, 114, 115, 111, 114]⟩, .string ⟨#[101, 114, 114, 111, 114]⟩] 9)))
  obtain ⟨V, hV⟩ : ∃ V, v1.alloc (.cells #[.string ⟨#[116, 105, 109, 101]⟩, .string ⟨#[101, 118, 101, 110, 116]⟩, .string ⟨#[101, 120, 112, 105, 114, 121]⟩, .string ⟨#[118, 105, 99, 116, 105, 109]⟩, .string ⟨#[98, 117, 100, 103, 101, 116]⟩, .string ⟨#[114, 101, 97, 100]⟩, .string ⟨#[99, 117, 114, 115, 111, 114]⟩, .string ⟨#[101, 114, 114, 111, 114]⟩] 9) = V := ⟨_, rfl⟩
  rw [hV] at hv0 hvs hvb ⊢
  clear hV x0 x1
  have BV := Lib.hid (B1.out.trans (hvb.mono B1.out.size))
  have WH := Lib.hid (HW.out v1 V hv0)
  have SC := Lib.hid (fun (v : World) (hb : Below V.heap.size V v) => (show v.cell? ⟨w.heap.size, 0, none⟩ = some (.int .i64 (n : Int)) ∧ v.cell? ⟨w.heap.size, 1, none⟩ = some (.int .i64 (q : Int)) ∧ v.cell? ⟨v1.heap.size, j, none⟩ = some (.string zb) ∧ Below V.heap.size V v from
    ⟨(XS.out v (hvb.trans (hb.mono hvb.size))).1, (XS.out v (hvb.trans (hb.mono hvb.size))).2, (hb.cell hvs).trans WH.out, hb⟩))
  have HDS := Lib.hid (fun (v : World) (hs : v.cell? ⟨w.heap.size, 0, none⟩ = some (.int .i64 (n : Int)) ∧ v.cell? ⟨w.heap.size, 1, none⟩ = some (.int .i64 (q : Int)) ∧ v.cell? ⟨v1.heap.size, j, none⟩ = some (.string zb) ∧ Below V.heap.size V v) => (HD.out v).mono (fun e v' h => (⟨h.1, SC.out v' (hs.2.2.2.trans (h.2.mono hs.2.2.2.size))⟩ : e = .returned (.string d) ∧ _)))
  have HKS := Lib.hid (fun (v : World) (hs : v.cell? ⟨w.heap.size, 0, none⟩ = some (.int .i64 (n : Int)) ∧ v.cell? ⟨w.heap.size, 1, none⟩ = some (.int .i64 (q : Int)) ∧ v.cell? ⟨v1.heap.size, j, none⟩ = some (.string zb) ∧ Below V.heap.size V v) => (HK.out v (BV.out.trans (hs.2.2.2.mono BV.out.size))).mono (fun e v' h => (⟨h.1, SC.out v' (hs.2.2.2.trans (h.2.mono hs.2.2.2.size))⟩ : e = .returned (.bool true) ∧ _)))
  rw [HCH.out]
  clear hv0 hvs hvb HCH HC HW XS SC0
  have s1 : ¬ 9223372036854775807 < 7 + d.size := by omega
  have s2 : ¬ 9223372036854775807 < 7 + d.size + 2 := by omega
  have s3 : ¬ 9223372036854775807 < 7 + d.size + 2 + zb.size := by omega
  have s4 : ¬ 9223372036854775807 < 7 + d.size + 2 + zb.size + 1 := by omega
  go_region_held3 (fun v => v.cell? ⟨w.heap.size, 0, none⟩ = some (.int .i64 (n : Int)) ∧ v.cell? ⟨w.heap.size, 1, none⟩ = some (.int .i64 (q : Int)) ∧ v.cell? ⟨v1.heap.size, j, none⟩ = some (.string zb) ∧ Below V.heap.size V v)
    (first
      | (exact SC.out _ (Below.drew (Below.refl _ _)))
      | assumption
      | fail)
    (first
      | (go_at_call 34; refine (HDS.out _ (by assumption)).mono ?_; rintro e w' ⟨rfl, hS⟩)
      | (go_at_call 26; refine (HKS.out _ (by assumption)).mono ?_; rintro e w' ⟨rfl, hS'⟩; have BS := Lib.hid hS'.2.2.2)
      | fail)
  go_wp2_with fail
  go_ret
  exact ⟨rfl, BV.out.trans (BS.out.mono BV.out.size)⟩
set_option maxRecDepth 100000 in
set_option maxHeartbeats 1000000 in
theorem lchecks_any {a k : Int} (a1 : a < 9223372036854775808) (w : World) (ht : Tabs w) (hc : Cw w)
    (HKN : ∀ w1, Below w.heap.size w w1 → Calls Tryd.prog 26 #[] w1 fun e w' => e = .returned (.bool true) ∧ Below w1.heap.size w1 w') :
    Calls Tryd.prog 9 #[.agg #[.int .i64 a, .int .i64 k]] w fun e w' => e = .returned (.bool true) ∧ Below w.heap.size w w' := by
  have HK := Lib.hid HKN
  clear HKN
  have HB := Lib.hid (by go_grown : Below w.heap.size w (w.alloc (.cells #[.int .i64 a, .int .i64 k] 66)))
  have hb0 := (MapKept.heap_alloc w (.cells #[.int .i64 a, .int .i64 k] 66)).1
  have hsz : w.heap.size < (w.alloc (.cells #[.int .i64 a, .int .i64 k] 66)).heap.size := by simp
  have SC0 := fun (V : World) (X : V.heap[w.heap.size]? = some (.cells #[.int .i64 a, .int .i64 k] 66 (0, 0))) (hsz : w.heap.size < V.heap.size) (v : World) (hb : Below V.heap.size V v) => (show v.cell? ⟨w.heap.size, 0, none⟩ = some (.int .i64 a) ∧ v.cell? ⟨w.heap.size, 1, none⟩ = some (.int .i64 k) from by
    have e := (hb.block _ hsz).trans X
    exact ⟨by simp [World.cell?, e], by simp [World.cell?, e]⟩)
  by_cases h0 : a = -1 ∧ k = 0
  · obtain ⟨rfl, rfl⟩ := h0
    have HC := Lib.hid (fun v => check_fine v)
    clear ht hc
    go_enter Tryd.func9, Tryd.ntmps9
    go_wp2_with fail
    refine (HC.out _).mono ?_
    rintro e v1 ⟨rfl, b1⟩
    obtain ⟨x0, x1⟩ := SC0 _ hb0 hsz v1 b1
    have B1 := Lib.hid (HB.out.trans (b1.mono HB.out.size))
    clear b1 SC0
    go_wp2_with fail
    refine (HK.out _ B1.out).mono ?_
    rintro e v2 ⟨rfl, b2⟩
    have B2 := Lib.hid (B1.out.trans (b2.mono B1.out.size))
    clear b2
    go_wp2_with fail
    go_ret
    exact ⟨rfl, B2.out⟩
  · by_cases h1 : a < 0 ∨ k < 1 ∨ 8 < k
    · have HC := Lib.hid (fun v => check_bad h0 h1 v)
      have e1 : (a == -1) = true ∧ (k == 0) = false ∨ (a == -1) = false := by
        by_cases h : a = -1
        · exact .inl ⟨by rw [beq_iff_eq]; exact h, by rw [beq_eq_false_iff_ne]; exact fun e => h0 ⟨h, e⟩⟩
        · exact .inr (by rw [beq_eq_false_iff_ne]; exact h)
      have e2 : a < 0 ∨ (¬ a < 0 ∧ k < 1) ∨ (¬ a < 0 ∧ ¬ k < 1 ∧ 8 < k) := by omega
      clear h0 h1 ht hc
      rcases e1 with ⟨f1, f2⟩ | f1
      all_goals rcases e2 with f3 | ⟨f3, f4⟩ | ⟨f3, f4, f5⟩
      all_goals (
        go_enter Tryd.func9, Tryd.ntmps9
        go_wp2_with fail
        refine (HC.out _).mono ?_
        rintro e v1 ⟨rfl, b1⟩
        obtain ⟨x0, x1⟩ := SC0 _ hb0 hsz v1 b1
        have B1 := Lib.hid (HB.out.trans (b1.mono HB.out.size))
        clear b1 SC0
        go_wp2_with fail
        refine (HK.out _ B1.out).mono ?_
        rintro e v2 ⟨rfl, b2⟩
        have B2 := Lib.hid (B1.out.trans (b2.mono B1.out.size))
        clear b2
        go_wp2_with fail
        go_ret
        exact ⟨rfl, B2.out⟩)
    · obtain ⟨n, rfl⟩ : ∃ n : Nat, a = (n : Int) := ⟨a.toNat, by omega⟩
      have hn : n < 9223372036854775808 := by omega
      obtain ⟨q, hq, hq1, hq2⟩ : ∃ q : Nat, k = (q : Int) ∧ 1 ≤ q ∧ q ≤ 8 := ⟨k.toNat, by omega, by omega, by omega⟩
      subst hq
      exact lchecks_ok hn hq1 hq2 w ht hc HK.out
end Go.Proofs.YtjkjcmhlbimeaaaDoor.Num
