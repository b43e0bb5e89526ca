/-
  Configurations (layer 23): the text of a configuration.
-/
import Derived.Test.YtckibgpmncggaaaDoorCfgC
import Derived.Test.YtckibgpmncggaaaDoorCfgD
import Derived.Lib.AppendStr
import Derived.Deep.RegionLaw
import Derived.Deep.RegionHeld3
import Derived.OwnWalk
set_option linter.unusedVariables false
set_option linter.unusedSimpArgs false
namespace Go.Proofs.YtckibgpmncggaaaDoor.Cfg
open Go Go.RowKit Kit
/-- the words of the texts -/
def Words (w : World) : Prop := w.cell? ⟨0, 0, none⟩ = some (.string (str w0)) ∧ w.cell? ⟨0, 1, none⟩ = some (.string (str w1)) ∧ w.cell? ⟨0, 2, none⟩ = some (.string (str w2)) ∧ w.cell? ⟨0, 3, none⟩ = some (.string (str w3)) ∧ w.cell? ⟨0, 4, none⟩ = some (.string (str w4))
theorem Words.below {w w' : World} (h : Words w) (hb : Below w.heap.size w w') : Words w' := by
  obtain ⟨h0, h1, h2, h3, h4⟩ := h
  have hl : 0 < w.heap.size := World.block_lt_of_cell? w _ h0
  exact ⟨(hb.cell (p := ⟨_, 0, none⟩) hl).trans h0, (hb.cell (p := ⟨_, 1, none⟩) hl).trans h1, (hb.cell (p := ⟨_, 2, none⟩) hl).trans h2, (hb.cell (p := ⟨_, 3, none⟩) hl).trans h3, (hb.cell (p := ⟨_, 4, none⟩) hl).trans h4⟩
theorem info_u8 : (Tryd.prog.info? 5).map (fun i => (i.size, i.bytes, i.zero)) = some (1, 1, some (.int .u8 0)) := by kernel_rfl
theorem info_parts {t : TypeId} (h : (Tryd.prog.info? t).map (fun i => (i.size, i.bytes, i.zero)) = some (1, 1, some (.int .u8 0))) : ∃ i, Tryd.prog.info? t = some i ∧ i.zero = some (.int .u8 0) ∧ i.size = 1 ∧ i.bytes = 1 := by
  cases hi : Tryd.prog.info? t with
  | none => rw [hi] at h; simp at h
  | some i => rw [hi] at h; simp at h; exact ⟨i, rfl, h.2.2, h.1, h.2.1⟩
/-- a row of bytes of its own -/
def Own (w : World) (B : Nat) (v : Value) (m : List UInt8) : Prop := w.ownsRow B 5 1 v m.length (Lib.byteCells m)
theorem own_below {w w' : World} {B : Nat} {v : Value} {m : List UInt8} (h : Own w B v m) (hb : Below w.heap.size w w') : Own w' B v m := by
  refine ⟨h.1, ?_⟩
  rcases h.2 with h | ⟨g, cap, cur, hv, hg, hh, rest⟩
  · exact .inl h
  · exact .inr ⟨g, cap, cur, hv, hg, (hb.block g (Array.getElem?_eq_some_iff.1 hh).1).trans hh, rest⟩
theorem own_cat {w : World} {B : Nat} {v : Value} {m l : List UInt8} {n : Nat} (hn : n = m.length + l.length) (h : w.ownsRow B 5 1 v n (Lib.byteCells m ++ Lib.byteCells l)) : Own w B v (m ++ l) := by
  unfold Own
  rw [List.length_append, ← hn]
  rw [show Lib.byteCells (m ++ l) = Lib.byteCells m ++ Lib.byteCells l from by simp [Lib.byteCells]]
  exact h
theorem strCells_str (l : List UInt8) : Lib.strCells (str l) = Lib.byteCells l := by simp [Lib.strCells, Lib.byteCells, str]
theorem own_str {w : World} {B : Nat} {v : Value} {m : List UInt8} (hn : m ≠ []) (h : Own w B v m) : (convert 43 9 v).run Tryd.prog w = .ok (.string (str m)) w := by
  rcases own_cases (l := m) (f := fun b : UInt8 => Value.int .u8 (b.toNat : Int)) h with ⟨-, h⟩ | ⟨g, cap, rfl, -, -, -, -, hc⟩
  · exact absurd h hn
  · exact run_convert_bytes_back (P := Tryd.prog) w 43 9 5 ⟨g, 0, none⟩ cap m Tryd.underlying43 Tryd.underlying5 Tryd.underlying9 (fun j hj => by
      rw [Lib.add_plain, Nat.zero_add]; exact hc j hj)
theorem appU (B u : Nat) (hu : u < 18446744073709551616) (v : Value) (m : List UInt8) (hm : m.length ≤ 1000) (w : World) (hown : Own w B v m) (hB : B ≤ w.heap.size) (htab : Tabs w) :
    Calls Tryd.prog 43 #[v, .int .u64 (u : Int), .int .i64 10] w fun e w' => ∃ v', e = .returned v' ∧ Own w' B v' (m ++ Lib.decDigits u) ∧ Below B w w' := by
  have HA := Lib.hid (Tryd.internal_strconv_AppendUint_10 B m.length u hu v (Lib.byteCells m) w hown hB (by omega) htab)
  go_enter Tryd.func43, Tryd.ntmps43
  go_wp2_with fail
  refine HA.out.mono ?_
  rintro e w1 ⟨v', rfl, ho, hb, -⟩
  go_wp2_with fail
  go_ret
  exact ⟨v', rfl, own_cat (by rw [Lib.decDigits_length]) ho, hb⟩
theorem ix4 (w : World) (y1 y2 y3 y4 : Int) :
    (Instr.index 69 (.agg #[.int .u64 y1, .int .u64 y2, .int .u64 y3, .int .u64 y4]) (.int .i64 0)).run Tryd.prog w = .ok (.int .u64 y1) w ∧
    (Instr.index 69 (.agg #[.int .u64 y1, .int .u64 y2, .int .u64 y3, .int .u64 y4]) (.int .i64 1)).run Tryd.prog w = .ok (.int .u64 y2) w ∧
    (Instr.index 69 (.agg #[.int .u64 y1, .int .u64 y2, .int .u64 y3, .int .u64 y4]) (.int .i64 2)).run Tryd.prog w = .ok (.int .u64 y3) w ∧
    (Instr.index 69 (.agg #[.int .u64 y1, .int .u64 y2, .int .u64 y3, .int .u64 y4]) (.int .i64 3)).run Tryd.prog w = .ok (.int .u64 y4) w := by
  refine ⟨?_, ?_, ?_, ?_⟩ <;> simp [Instr.index, run_underlying Tryd.underlying69, part, isAgg, go_sem]
/-- what is written before the j-th number -/
def pc (a b c d : Nat) : Nat → List UInt8
  | 0 => []
  | 1 => w0 ++ Lib.decDigits a
  | 2 => (w0 ++ Lib.decDigits a) ++ w1 ++ Lib.decDigits b
  | 3 => ((w0 ++ Lib.decDigits a) ++ w1 ++ Lib.decDigits b) ++ w2 ++ Lib.decDigits c
  | _ => (((w0 ++ Lib.decDigits a) ++ w1 ++ Lib.decDigits b) ++ w2 ++ Lib.decDigits c) ++ w3 ++ Lib.decDigits d
theorem pc_T (a b c d : Nat) (y : Bool) : pc a b c d 4 ++ w4 ++ (if y then yes else no) = T a b c d y := by
  unfold pc T
  simp only [List.append_assoc]
set_option maxRecDepth 100000 in
set_option maxHeartbeats 2000000 in
theorem text_ok (a b c d : Int) (y : Bool) (hc : ck a b c = 0) (d0 : 0 ≤ d) (d1 : d < 18446744073709551616) (w : World) (htab : Tabs w) (hw : Words w) :
    Calls Tryd.prog 26 #[conf a b c d y] w fun e w' => e = .returned (.tuple #[.string (str (T a.toNat b.toNat c.toNat d.toNat y)), .int .i64 0]) ∧ Below w.heap.size w w' := by
  obtain ⟨i0, hi, hz0, hz1, hz2⟩ := info_parts info_u8
  have HC := Lib.hid (fun w => check_any a b c d y w)
  obtain ⟨q1, q2, q3, q4, q5, q6⟩ := ck_ok hc
  rw [hc] at HC
  clear hc
  obtain ⟨a, rfl⟩ : ∃ n : Nat, a = n := ⟨a.toNat, by omega⟩
  obtain ⟨b, rfl⟩ : ∃ n : Nat, b = n := ⟨b.toNat, by omega⟩
  obtain ⟨c, rfl⟩ : ∃ n : Nat, c = n := ⟨c.toNat, by omega⟩
  obtain ⟨d, rfl⟩ : ∃ n : Nat, d = n := ⟨d.toNat, by omega⟩
  simp only [Int.toNat_natCast]
  have HTT := Lib.hid (pc_T a b c d y)
  have v1 : IntKind.u64.wrap (a : Int) = a := wrap64u _ (by omega) (by omega)
  have v2 : IntKind.u64.wrap (b : Int) = b := wrap64u _ (by omega) (by omega)
  have v3 : IntKind.u64.wrap (c : Int) = c := wrap64u _ (by omega) (by omega)
  have ga := dig_len a (by omega)
  have gb := dig_len b (by omega)
  have gc := dig_len c (by omega)
  have gd := dig_len d (by omega)
  have g4 : (pc a b c d 4).length ≤ 110 := by
    simp only [pc, List.length_append]
    simp only [w0, w1, w2, w3, List.length_cons, List.length_nil]
    omega
  have HTB := Lib.hid htab
  have HWD := Lib.hid hw
  clear htab hw
  go_enter Tryd.func26, Tryd.ntmps26
  go_wp2_with fail
  refine (HC.out _).mono ?_
  rintro e w1 ⟨rfl, b1⟩
  have q0 := BoxA.below (BoxA.new w 32 (cells a b c d y)) b1
  have bw1 : Below w.heap.size w w1 := tr ((Below.refl w.heap.size w).alloc (Nat.le_refl _) _) b1
  obtain ⟨c0, c1, c2, c3, c4, fz⟩ := q0.five
  cases y with
  | true =>
    go_wp2_with fail
    obtain ⟨V, hV⟩ : ∃ V, w1.alloc (.cells #[.int .u64 a, .int .u64 b, .int .u64 c, .int .u64 d] 69) = V := ⟨_, rfl⟩
    rw [hV]
    have bV : Below w.heap.size w V := by rw [← hV]; exact bw1.alloc bw1.size _
    have WV := Lib.hid (fun w' (h : Below V.heap.size V w') => HWD.out.below (tr bV h))
    have TV := Lib.hid (fun w' (h : Below V.heap.size V w') => HTB.out.below (tr bV h))
    have BV := Lib.hid bV
    clear hV bV c0 c1 c2 c3 c4 fz q0 b1 bw1 HC
    go_loopw [7, 8, 9, 30] (fun v7 v8 v9 i wr => ∃ j : Nat, j ≤ 4 ∧ i = .int .i64 j ∧ Own wr V.heap.size v7 (pc a b c d j) ∧ Below V.heap.size V wr) (fun _ _ _ i _ => 4 - (intOf i).toNat)
    case atStart => exact ⟨0, by omega, rfl, World.ownsRow_nil _ _ _ _, Below.refl _ _⟩
    case round =>
      obtain ⟨j, hj, rfl, ho, bW⟩ := hrel
      obtain ⟨k0, k1, k2, k3, k4⟩ := WV.out _ bW
      obtain rfl | rfl | rfl | rfl | rfl : j = 0 ∨ j = 1 ∨ j = 2 ∨ j = 3 ∨ j = 4 := by omega
      · have hix := fun w => (ix4 w (a : Int) b c d).1
        have lp : (pc a b c d 0).length ≤ 90 := by
          simp only [pc, List.length_append]
          simp only [w0, Cfg.w1, w2, w3, List.length_cons, List.length_nil]
          omega
        have lw : (str w0).size = 6 := rfl
        have HO := Lib.hid ho
        clear ho
        go_wp2_with (at_builtin; refine Lib.wpList_append_own_string _ rfl (.tmp 34) (.tmp 37) 43 9 rfl V.heap.size 5 i0 Tryd.underlying43 Tryd.underlying9 hi hz0 hz1 hz2 _ _ _ rfl HO.out (str w0) rfl (by rw [lw]; unfold maxLen; omega) (by rw [lw]; omega) bW.size ?_)
        intro v5 w5 o5 hg5 _
        rw [strCells_str] at o5
        have o6 := Lib.hid (own_cat (by rfl) o5)
        have f5 := bW.trans ((Below.refl _ _).grown hg5 bW.size (fun k hk => (HO.out.lt k hk).1))
        clear o5 hg5
        go_wp2_with fail
        refine (appU V.heap.size a (by omega) v5 _ (by rw [List.length_append, ← str_size w0, lw]; omega) w5 o6.out f5.size (TV.out _ f5)).mono ?_
        rintro e w7 ⟨v7, rfl, o7, e7⟩
        have f7 := f5.trans e7
        have O7 := Lib.hid o7
        clear o7 o6 f5 e7
        go_wp2_with fail
        go_roundw
        case rel => exact ⟨1, by omega, by go_num, O7.out, f7⟩
        case measure => simp [intOf]
      · have hix := fun w => (ix4 w (a : Int) b c d).2.1
        have lp : (pc a b c d 1).length ≤ 90 := by
          simp only [pc, List.length_append]
          simp only [w0, Cfg.w1, w2, w3, List.length_cons, List.length_nil]
          omega
        have lw : (str Cfg.w1).size = 7 := rfl
        have HO := Lib.hid ho
        clear ho
        go_wp2_with (at_builtin; refine Lib.wpList_append_own_string _ rfl (.tmp 34) (.tmp 37) 43 9 rfl V.heap.size 5 i0 Tryd.underlying43 Tryd.underlying9 hi hz0 hz1 hz2 _ _ _ rfl HO.out (str Cfg.w1) rfl (by rw [lw]; unfold maxLen; omega) (by rw [lw]; omega) bW.size ?_)
        intro v5 w5 o5 hg5 _
        rw [strCells_str] at o5
        have o6 := Lib.hid (own_cat (by rfl) o5)
        have f5 := bW.trans ((Below.refl _ _).grown hg5 bW.size (fun k hk => (HO.out.lt k hk).1))
        clear o5 hg5
        go_wp2_with fail
        refine (appU V.heap.size b (by omega) v5 _ (by rw [List.length_append, ← str_size Cfg.w1, lw]; omega) w5 o6.out f5.size (TV.out _ f5)).mono ?_
        rintro e w7 ⟨v7, rfl, o7, e7⟩
        have f7 := f5.trans e7
        have O7 := Lib.hid o7
        clear o7 o6 f5 e7
        go_wp2_with fail
        go_roundw
        case rel => exact ⟨2, by omega, by go_num, O7.out, f7⟩
        case measure => simp [intOf]
      · have hix := fun w => (ix4 w (a : Int) b c d).2.2.1
        have lp : (pc a b c d 2).length ≤ 90 := by
          simp only [pc, List.length_append]
          simp only [w0, Cfg.w1, w2, w3, List.length_cons, List.length_nil]
          omega
        have lw : (str w2).size = 11 := rfl
        have HO := Lib.hid ho
        clear ho
        go_wp2_with (at_builtin; refine Lib.wpList_append_own_string _ rfl (.tmp 34) (.tmp 37) 43 9 rfl V.heap.size 5 i0 Tryd.underlying43 Tryd.underlying9 hi hz0 hz1 hz2 _ _ _ rfl HO.out (str w2) rfl (by rw [lw]; unfold maxLen; omega) (by rw [lw]; omega) bW.size ?_)
        intro v5 w5 o5 hg5 _
        rw [strCells_str] at o5
        have o6 := Lib.hid (own_cat (by rfl) o5)
        have f5 := bW.trans ((Below.refl _ _).grown hg5 bW.size (fun k hk => (HO.out.lt k hk).1))
        clear o5 hg5
        go_wp2_with fail
        refine (appU V.heap.size c (by omega) v5 _ (by rw [List.length_append, ← str_size w2, lw]; omega) w5 o6.out f5.size (TV.out _ f5)).mono ?_
        rintro e w7 ⟨v7, rfl, o7, e7⟩
        have f7 := f5.trans e7
        have O7 := Lib.hid o7
        clear o7 o6 f5 e7
        go_wp2_with fail
        go_roundw
        case rel => exact ⟨3, by omega, by go_num, O7.out, f7⟩
        case measure => simp [intOf]
      · have hix := fun w => (ix4 w (a : Int) b c d).2.2.2
        have lp : (pc a b c d 3).length ≤ 90 := by
          simp only [pc, List.length_append]
          simp only [w0, Cfg.w1, w2, w3, List.length_cons, List.length_nil]
          omega
        have lw : (str w3).size = 6 := rfl
        have HO := Lib.hid ho
        clear ho
        go_wp2_with (at_builtin; refine Lib.wpList_append_own_string _ rfl (.tmp 34) (.tmp 37) 43 9 rfl V.heap.size 5 i0 Tryd.underlying43 Tryd.underlying9 hi hz0 hz1 hz2 _ _ _ rfl HO.out (str w3) rfl (by rw [lw]; unfold maxLen; omega) (by rw [lw]; omega) bW.size ?_)
        intro v5 w5 o5 hg5 _
        rw [strCells_str] at o5
        have o6 := Lib.hid (own_cat (by rfl) o5)
        have f5 := bW.trans ((Below.refl _ _).grown hg5 bW.size (fun k hk => (HO.out.lt k hk).1))
        clear o5 hg5
        go_wp2_with fail
        refine (appU V.heap.size d (by omega) v5 _ (by rw [List.length_append, ← str_size w3, lw]; omega) w5 o6.out f5.size (TV.out _ f5)).mono ?_
        rintro e w7 ⟨v7, rfl, o7, e7⟩
        have f7 := f5.trans e7
        have O7 := Lib.hid o7
        clear o7 o6 f5 e7
        go_wp2_with fail
        go_roundw
        case rel => exact ⟨4, by omega, by go_num, O7.out, f7⟩
        case measure => simp [intOf]
      · have HO := Lib.hid ho
        have hcv := own_str (by unfold pc; simp [w0]) HO.out
        have lw : (str w4).size = 6 := rfl
        have ls : (str (pc a b c d 4)).size ≤ 110 := by rw [str_size]; exact g4
        have HT2 := Lib.hid (show str (T a b c d true) = str (pc a b c d 4) ++ str w4 ++ ⟨#[121, 101, 115]⟩ from by
          rw [← pc_T, str_append, str_append]; rfl)
        clear ho
        generalize str (pc a b c d 4) = z at *
        have g1 : ¬ 9223372036854775807 < z.size + (str w4).size := by rw [lw]; omega
        have g2 : ¬ 9223372036854775807 < z.size + (str w4).size + 3 := by rw [lw]; omega
        go_wp2_with fail
        go_ret2
        exact ⟨by rw [HT2.out]; rfl, BV.out.trans (bW.mono BV.out.size)⟩
  | false =>
    go_wp2_with fail
    obtain ⟨V, hV⟩ : ∃ V, w1.alloc (.cells #[.int .u64 a, .int .u64 b, .int .u64 c, .int .u64 d] 69) = V := ⟨_, rfl⟩
    rw [hV]
    have bV : Below w.heap.size w V := by rw [← hV]; exact bw1.alloc bw1.size _
    have WV := Lib.hid (fun w' (h : Below V.heap.size V w') => HWD.out.below (tr bV h))
    have TV := Lib.hid (fun w' (h : Below V.heap.size V w') => HTB.out.below (tr bV h))
    have BV := Lib.hid bV
    clear hV bV c0 c1 c2 c3 c4 fz q0 b1 bw1 HC
    go_loopw [7, 8, 9, 30] (fun v7 v8 v9 i wr => ∃ j : Nat, j ≤ 4 ∧ i = .int .i64 j ∧ Own wr V.heap.size v7 (pc a b c d j) ∧ Below V.heap.size V wr) (fun _ _ _ i _ => 4 - (intOf i).toNat)
    case atStart => exact ⟨0, by omega, rfl, World.ownsRow_nil _ _ _ _, Below.refl _ _⟩
    case round =>
      obtain ⟨j, hj, rfl, ho, bW⟩ := hrel
      obtain ⟨k0, k1, k2, k3, k4⟩ := WV.out _ bW
      obtain rfl | rfl | rfl | rfl | rfl : j = 0 ∨ j = 1 ∨ j = 2 ∨ j = 3 ∨ j = 4 := by omega
      · have hix := fun w => (ix4 w (a : Int) b c d).1
        have lp : (pc a b c d 0).length ≤ 90 := by
          simp only [pc, List.length_append]
          simp only [w0, Cfg.w1, w2, w3, List.length_cons, List.length_nil]
          omega
        have lw : (str w0).size = 6 := rfl
        have HO := Lib.hid ho
        clear ho
        go_wp2_with (at_builtin; refine Lib.wpList_append_own_string _ rfl (.tmp 34) (.tmp 37) 43 9 rfl V.heap.size 5 i0 Tryd.underlying43 Tryd.underlying9 hi hz0 hz1 hz2 _ _ _ rfl HO.out (str w0) rfl (by rw [lw]; unfold maxLen; omega) (by rw [lw]; omega) bW.size ?_)
        intro v5 w5 o5 hg5 _
        rw [strCells_str] at o5
        have o6 := Lib.hid (own_cat (by rfl) o5)
        have f5 := bW.trans ((Below.refl _ _).grown hg5 bW.size (fun k hk => (HO.out.lt k hk).1))
        clear o5 hg5
        go_wp2_with fail
        refine (appU V.heap.size a (by omega) v5 _ (by rw [List.length_append, ← str_size w0, lw]; omega) w5 o6.out f5.size (TV.out _ f5)).mono ?_
        rintro e w7 ⟨v7, rfl, o7, e7⟩
        have f7 := f5.trans e7
        have O7 := Lib.hid o7
        clear o7 o6 f5 e7
        go_wp2_with fail
        go_roundw
        case rel => exact ⟨1, by omega, by go_num, O7.out, f7⟩
        case measure => simp [intOf]
      · have hix := fun w => (ix4 w (a : Int) b c d).2.1
        have lp : (pc a b c d 1).length ≤ 90 := by
          simp only [pc, List.length_append]
          simp only [w0, Cfg.w1, w2, w3, List.length_cons, List.length_nil]
          omega
        have lw : (str Cfg.w1).size = 7 := rfl
        have HO := Lib.hid ho
        clear ho
        go_wp2_with (at_builtin; refine Lib.wpList_append_own_string _ rfl (.tmp 34) (.tmp 37) 43 9 rfl V.heap.size 5 i0 Tryd.underlying43 Tryd.underlying9 hi hz0 hz1 hz2 _ _ _ rfl HO.out (str Cfg.w1) rfl (by rw [lw]; unfold maxLen; omega) (by rw [lw]; omega) bW.size ?_)
        intro v5 w5 o5 hg5 _
        rw [strCells_str] at o5
        have o6 := Lib.hid (own_cat (by rfl) o5)
        have f5 := bW.trans ((Below.refl _ _).grown hg5 bW.size (fun k hk => (HO.out.lt k hk).1))
        clear o5 hg5
        go_wp2_with fail
        refine (appU V.heap.size b (by omega) v5 _ (by rw [List.length_append, ← str_size Cfg.w1, lw]; omega) w5 o6.out f5.size (TV.out _ f5)).mono ?_
        rintro e w7 ⟨v7, rfl, o7, e7⟩
        have f7 := f5.trans e7
        have O7 := Lib.hid o7
        clear o7 o6 f5 e7
        go_wp2_with fail
        go_roundw
        case rel => exact ⟨2, by omega, by go_num, O7.out, f7⟩
        case measure => simp [intOf]
      · have hix := fun w => (ix4 w (a : Int) b c d).2.2.1
        have lp : (pc a b c d 2).length ≤ 90 := by
          simp only [pc, List.length_append]
          simp only [w0, Cfg.w1, w2, w3, List.length_cons, List.length_nil]
          omega
        have lw : (str w2).size = 11 := rfl
        have HO := Lib.hid ho
        clear ho
        go_wp2_with (at_builtin; refine Lib.wpList_append_own_string _ rfl (.tmp 34) (.tmp 37) 43 9 rfl V.heap.size 5 i0 Tryd.underlying43 Tryd.underlying9 hi hz0 hz1 hz2 _ _ _ rfl HO.out (str w2) rfl (by rw [lw]; unfold maxLen; omega) (by rw [lw]; omega) bW.size ?_)
        intro v5 w5 o5 hg5 _
        rw [strCells_str] at o5
        have o6 := Lib.hid (own_cat (by rfl) o5)
        have f5 := bW.trans ((Below.refl _ _).grown hg5 bW.size (fun k hk => (HO.out.lt k hk).1))
        clear o5 hg5
        go_wp2_with fail
        refine (appU V.heap.size c (by omega) v5 _ (by rw [List.length_append, ← str_size w2, lw]; omega) w5 o6.out f5.size (TV.out _ f5)).mono ?_
        rintro e w7 ⟨v7, rfl, o7, e7⟩
        have f7 := f5.trans e7
        have O7 := Lib.hid o7
        clear o7 o6 f5 e7
        go_wp2_with fail
        go_roundw
        case rel => exact ⟨3, by omega, by go_num, O7.out, f7⟩
        case measure => simp [intOf]
      · have hix := fun w => (ix4 w (a : Int) b c d).2.2.2
        have lp : (pc a b c d 3).length ≤ 90 := by
          simp only [pc, List.length_append]
          simp only [w0, Cfg.w1, w2, w3, List.length_cons, List.length_nil]
          omega
        have lw : (str w3).size = 6 := rfl
        have HO := Lib.hid ho
        clear ho
        go_wp2_with (at_builtin; refine Lib.wpList_append_own_string _ rfl (.tmp 34) (.tmp 37) 43 9 rfl V.heap.size 5 i0 Tryd.underlying43 Tryd.underlying9 hi hz0 hz1 hz2 _ _ _ rfl HO.out (str w3) rfl (by rw [lw]; unfold maxLen; omega) (by rw [lw]; omega) bW.size ?_)
        intro v5 w5 o5 hg5 _
        rw [strCells_str] at o5
        have o6 := Lib.hid (own_cat (by rfl) o5)
        have f5 := bW.trans ((Below.refl _ _).grown hg5 bW.size (fun k hk => (HO.out.lt k hk).1))
        clear o5 hg5
        go_wp2_with fail
        refine (appU V.heap.size d (by omega) v5 _ (by rw [List.length_append, ← str_size w3, lw]; omega) w5 o6.out f5.size (TV.out _ f5)).mono ?_
        rintro e w7 ⟨v7, rfl, o7, e7⟩
        have f7 := f5.trans e7
        have O7 := Lib.hid o7
        clear o7 o6 f5 e7
        go_wp2_with fail
        go_roundw
        case rel => exact ⟨4, by omega, by go_num, O7.out, f7⟩
        case measure => simp [intOf]
      · have HO := Lib.hid ho
        have hcv := own_str (by unfold pc; simp [w0]) HO.out
        have lw : (str w4).size = 6 := rfl
        have ls : (str (pc a b c d 4)).size ≤ 110 := by rw [str_size]; exact g4
        have HT2 := Lib.hid (show str (T a b c d false) = str (pc a b c d 4) ++ str w4 ++ ⟨#[110, 111]⟩ from by
          rw [← pc_T, str_append, str_append]; rfl)
        clear ho
        generalize str (pc a b c d 4) = z at *
        have g1 : ¬ 9223372036854775807 < z.size + (str w4).size := by rw [lw]; omega
        have g2 : ¬ 9223372036854775807 < z.size + (str w4).size + 2 := by rw [lw]; omega
        go_wp2_with fail
        go_ret2
        exact ⟨by rw [HT2.out]; rfl, BV.out.trans (bW.mono BV.out.size)⟩
end Go.Proofs.YtckibgpmncggaaaDoor.Cfg
