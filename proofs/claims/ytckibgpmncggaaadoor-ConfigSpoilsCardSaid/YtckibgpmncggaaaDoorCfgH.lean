/-
  Configurations (layer 23): reading a text, the program's calls.
-/
import Derived.Test.YtckibgpmncggaaaDoorCfgG
set_option linter.unusedVariables false
set_option linter.unusedSimpArgs false
namespace Go.Proofs.YtckibgpmncggaaaDoor.Cfg
open Go Go.RowKit Kit
/-- the variable that strings.Index reads holds some number -/
def Mx (w : World) : Prop := ∃ m, w.cell? ⟨4, 0, none⟩ = some (.int .i64 m)
theorem Mx.below {w w' : World} (h : Mx w) (hb : Below w.heap.size w w') : Mx w' := by
  obtain ⟨m, h⟩ := h
  exact ⟨m, by rw [hb.cell (World.block_lt_of_cell? w _ h)]; exact h⟩
/-- the errors' variables -/
structure Errs (w : World) : Prop where
  syn : ∃ ev, w.cell? ⟨2, 0, none⟩ = some ev ∧ (ev = .nilIface ∨ ∃ te pe, ev = .iface te pe)
  rng : ∃ ev, w.cell? ⟨3, 0, none⟩ = some ev ∧ (ev = .nilIface ∨ ∃ te pe, ev = .iface te pe)
theorem Errs.below {w w' : World} (h : Errs w) (hb : Below w.heap.size w w') : Errs w' := by
  obtain ⟨⟨a, h1, h2⟩, ⟨b, h3, h4⟩⟩ := h
  exact ⟨⟨a, by rw [hb.cell (World.block_lt_of_cell? w _ h1)]; exact h1, h2⟩, ⟨b, by rw [hb.cell (World.block_lt_of_cell? w _ h3)]; exact h3, h4⟩⟩
theorem str_data (l : List UInt8) : (str l).data.toList = l := rfl
theorem cut_any (s x : List UInt8) (hs : s.length ≤ 100000) (w : World) (hm : Mx w) :
    Calls Tryd.prog 47 #[.string (str s), .string (str x)] w fun e w' => e = .returned (.tuple #[.string (str (Lib.cut s x).1), .string (str (Lib.cut s x).2.1), .bool (Lib.cut s x).2.2]) ∧ Below w.heap.size w w' := by
  obtain ⟨m, hm⟩ := hm
  refine (Tryd.strings_Cut (str s) (str x) m w (by rw [str_size]; omega) hm).mono ?_
  rintro e w' ⟨rfl, n, rfl⟩
  exact ⟨rfl, below_drewN (Below.refl _ _) n⟩
theorem bw {w w1 : World} {e : TypeId} {s : ByteArray} (h : w1 = w ∨ w1 = Lib.bytesWorld w e s) : Below w.heap.size w w1 := by
  rcases h with rfl | rfl
  · exact Below.refl _ _
  · exact Go.Joins.below_bytesWorld _ _ _ _ (Nat.le_refl _)
theorem pu_any (l : List UInt8) (hl : l.length ≤ 100000) (w : World) (he : Errs w) :
    Calls Tryd.prog 46 #[.string (str l), .int .i64 10, .int .i64 64] w fun e w' => (∃ er, e = .returned (.tuple #[.int .u64 (val l : Nat), er])) ∧ Below w.heap.size w w' := by
  cases hp : Lib.parseUintB 64 l with
  | ok u =>
    rw [show val l = u from by unfold val; rw [hp]]
    refine (Tryd.strconv_ParseUint_10_at64_ok (str l) (by rw [str_size]; omega) u hp w).mono ?_
    rintro e w1 ⟨rfl, hw1⟩
    exact ⟨⟨_, rfl⟩, bw hw1⟩
  | «syntax» =>
    rw [show val l = 0 from by unfold val; rw [hp]]
    obtain ⟨ev, hv, hev⟩ := he.syn
    refine (Tryd.strconv_ParseUint_10_at64_syntax (str l) (by rw [str_size]; omega) hp ev w hv hev).mono ?_
    rintro e w1 ⟨NN, rfl, hN1, hN2, hb1⟩
    exact ⟨⟨_, rfl⟩, hb1⟩
  | range =>
    rw [show val l = 18446744073709551615 from by unfold val; rw [hp]]
    obtain ⟨ev, hv, hev⟩ := he.rng
    refine (Tryd.strconv_ParseUint_10_at64_range (str l) (by rw [str_size]; omega) hp ev w hv hev).mono ?_
    rintro e w1 ⟨NN, rfl, hN1, hN2, hb1⟩
    exact ⟨⟨_, rfl⟩, hb1⟩
def small (n : Nat) : Int := if 1099511627776 < n then -1 else n
theorem small_any (n : Nat) (hn : n < 18446744073709551616) (w : World) :
    Calls Tryd.prog 48 #[.int .u64 (n : Int)] w fun e w' => e = .returned (.int .i64 (small n)) ∧ w = w' := by
  by_cases h : 1099511627776 < n
  · rw [show small n = -1 from if_pos h]
    have h' : (1099511627776 : Int) < n := by omega
    go_enter Tryd.func48, Tryd.ntmps48
    go_wp2_with fail
    go_ret
    exact ⟨rfl, rfl⟩
  · rw [show small n = n from if_neg h]
    have h' : ¬ (1099511627776 : Int) < n := by omega
    have hw : IntKind.i64.wrap (n : Int) = n := wrap64 _ (by omega) (by omega)
    go_enter Tryd.func48, Tryd.ntmps48
    go_wp2_with fail
    go_ret
    exact ⟨rfl, rfl⟩
/-- at the normal end: one act and one world; else as before -/
def onceQ (Q : Exit → Act → World → Prop) (A : Act) (V : World) : Exit → Act → World → Prop
  | .normal, a, w => a = A ∧ w = V
  | e, a, w => Q e a w
theorem region_once {P : Program} {c : Code} {Q : Exit → Act → World → Prop} {a : Act} {w : World} (A : Act) (V : World) (first : Code.wp P c (onceQ Q A V) a w) (rest : Q .normal A V) : Code.wp P c Q a w :=
  Code.wp_mono (fun e a' w' h => by
    cases e
    case normal => obtain ⟨rfl, rfl⟩ := h; exact rest
    all_goals exact h) first
theorem load_conf {w : World} {q : Nat} {x y z v : Int} {b : Bool} (hc : BoxA w q 32 (cells x y z v b)) : (loadVar 32 ⟨q, 0, none⟩).run Tryd.prog w = .ok (conf x y z v b) w := by
  obtain ⟨c0, c1, c2, c3, c4, -⟩ := hc.five
  simp [go_sem, c0, c1, c2, c3, c4]
theorem results_conf {fn : Func} {t u : Tmp} (h : fn.results = #[.cell t 32, .tmp u]) (tmps : Array Value) {w : World} {q : Nat} {x y z v : Int} {b : Bool} {r : Value} (hq : tmps.getD t undef = .pointer (some ⟨q, 0, none⟩)) (hu : tmps.getD u undef = r) (hc : BoxA w q 32 (cells x y z v b)) :
    (results fn tmps).run Tryd.prog w = .ok (.tuple #[conf x y z v b, r]) w := by
  have hl := load_conf hc
  generalize conf x y z v b = V at *
  unfold results
  rw [h]
  rw [Array.getD_eq_getD_getElem?] at hq hu
  simp [hq, hu, hl, asAddr]
/-- a result that is a configuration in its variable, and an error -/
theorem ret_conf {fn : Func} {t u : Tmp} (h : fn.results = #[.cell t 32, .tmp u]) {a : Act} {w : World} {R : Ending → World → Prop} {q : Nat} {x y z v : Int} {b : Bool} {r : Value} (hq : a.tmps.getD t undef = .pointer (some ⟨q, 0, none⟩)) (hu : a.tmps.getD u undef = r) (hc : BoxA w q 32 (cells x y z v b)) (hd : a.defers = [])
    (hR : R (.returned (.tuple #[conf x y z v b, r])) w) : bodyPost Tryd.prog fn R .ret a w :=
  bodyPost_ret (results_conf h _ hq hu hc) hd hR
theorem set_five {w : World} {q : Nat} {x y z v x' y' z' v' : Int} {b b' : Bool} (hc : BoxA w q 32 (cells x y z v b)) :
    BoxA (((((w.setCell ⟨q, 0, none⟩ (.int .i64 x')).setCell ⟨q, 1, none⟩ (.int .i64 y')).setCell ⟨q, 2, none⟩ (.int .i64 z')).setCell ⟨q, 3, none⟩ (.int .u64 v')).setCell ⟨q, 4, none⟩ (.bool b')) q 32 (cells x' y' z' v' b') :=
  ((((hc.set (j := 0) (by show 0 < 5; omega) (.int .i64 x')).set (j := 1) (by show 1 < 5; omega) (.int .i64 y')).set (j := 2) (by show 2 < 5; omega) (.int .i64 z')).set (j := 3) (by show 3 < 5; omega) (.int .u64 v')).set (j := 4) (by show 4 < 5; omega) (.bool b')
theorem five_below {w W : World} {q : Nat} {a b c d e : Value} (h : Below q W w) : Below q W (((((w.setCell ⟨q, 0, none⟩ a).setCell ⟨q, 1, none⟩ b).setCell ⟨q, 2, none⟩ c).setCell ⟨q, 3, none⟩ d).setCell ⟨q, 4, none⟩ e) :=
  set_below (p := ⟨q, 4, none⟩) (Nat.le_refl q) (set_below (p := ⟨q, 3, none⟩) (Nat.le_refl q) (set_below (p := ⟨q, 2, none⟩) (Nat.le_refl q) (set_below (p := ⟨q, 1, none⟩) (Nat.le_refl q) (set_below (p := ⟨q, 0, none⟩) (Nat.le_refl q) h _) _) _) _) _
/-- the text is that of a configuration that is allowed -/
def good (s : List UInt8) : Prop := ck (small (rd s).a) (small (rd s).b) (small (rd s).c) = 0 ∧ T (small (rd s).a).toNat (small (rd s).b).toNat (small (rd s).c).toNat (rd s).d (rd s).y = s
open Classical in
/-- what Parse gives -/
noncomputable def pres (s : List UInt8) : Value := if good s then .tuple #[conf (small (rd s).a) (small (rd s).b) (small (rd s).c) (rd s).d (rd s).y, .int .i64 0] else .tuple #[conf 0 0 0 0 false, .int .i64 6]
def r1 (s : List UInt8) := (st w0 w1 s).2
def r2 (s : List UInt8) := (st w1 w2 (r1 s)).2
def r3 (s : List UInt8) := (st w2 w3 (r2 s)).2
def r4 (s : List UInt8) := (st w3 w4 (r3 s)).2
def n0 (s : List UInt8) := (st w0 w1 s).1
def n1 (s : List UInt8) := (st w1 w2 (r1 s)).1
def n2 (s : List UInt8) := (st w2 w3 (r2 s)).1
def n3 (s : List UInt8) := (st w3 w4 (r3 s)).1
theorem rd_eq (s : List UInt8) : rd s = ⟨n0 s, n1 s, n2 s, n3 s, Lib.hasSuffix (r4 s) yes⟩ := by
  unfold rd n0 n1 n2 n3 r4 r3 r2 r1
  rfl
theorem st_def (x y s : List UInt8) : st x y s = (val (Lib.cut (Lib.cut s x).2.1 y).1, (Lib.cut s x).2.1.drop (Lib.cut (Lib.cut s x).2.1 y).1.length) := rfl
theorem cut1_le (s x : List UInt8) : (Lib.cut s x).1.length ≤ s.length := by
  unfold Lib.cut
  split
  · simp only [List.length_take]; omega
  · exact Nat.le_refl _
theorem cut2_le (s x : List UInt8) : (Lib.cut s x).2.1.length ≤ s.length := by
  unfold Lib.cut
  split
  · simp only [List.length_drop]; omega
  · simp
theorem st_le (x y s : List UInt8) : (st x y s).2.length ≤ s.length := by
  unfold st
  have := cut2_le s x
  simp only [List.length_drop]
  omega
theorem st_small (x y s : List UInt8) : (st x y s).1 < 18446744073709551616 := by
  have := val_le (Lib.cut (Lib.cut s x).2.1 y).1
  show val _ < _
  omega
theorem str_drop (l : List UInt8) (n : Nat) : (str l).extract n (str l).size = str (l.drop n) := by
  apply ByteArray.ext
  rw [ByteArray.data_extract, str_size]
  show (l.toArray.extract n l.length) = (l.drop n).toArray
  apply Array.ext'
  simp
  exact List.take_of_length_le (by simp)
/-- the boxes of the result and of the four numbers -/
structure Five (W : World) (q : Nat) (a b c d : Int) : Prop where
  res : BoxA W q 32 (cells 0 0 0 0 false)
  b0 : BoxA W (q + 1) 22 #[.int .u64 a]
  b1 : BoxA W (q + 1 + 1) 22 #[.int .u64 b]
  b2 : BoxA W (q + 1 + 1 + 1) 22 #[.int .u64 c]
  b3 : BoxA W (q + 1 + 1 + 1 + 1) 22 #[.int .u64 d]
theorem Five.below {W W' : World} {q : Nat} {a b c d : Int} (h : Five W q a b c d) (hb : Below W.heap.size W W') : Five W' q a b c d := ⟨h.res.below hb, h.b0.below hb, h.b1.below hb, h.b2.below hb, h.b3.below hb⟩
theorem set_box {W : World} {b : Nat} {t : TypeId} {v u : Value} (h : BoxA W b t #[v]) : BoxA (W.setCell ⟨b, 0, none⟩ u) b t #[u] := h.set (j := 0) (by show 0 < 1; omega) u
theorem Five.set0 {W : World} {q : Nat} {a b c d : Int} (h : Five W q a b c d) (x : Int) : Five (W.setCell ⟨q + 1, 0, none⟩ (.int .u64 x)) q x b c d :=
  ⟨h.res.other (by omega) _ _, set_box h.b0, h.b1.other (by omega) _ _, h.b2.other (by omega) _ _, h.b3.other (by omega) _ _⟩
theorem Five.set1 {W : World} {q : Nat} {a b c d : Int} (h : Five W q a b c d) (x : Int) : Five (W.setCell ⟨q + 1 + 1, 0, none⟩ (.int .u64 x)) q a x c d :=
  ⟨h.res.other (by omega) _ _, h.b0.other (by omega) _ _, set_box h.b1, h.b2.other (by omega) _ _, h.b3.other (by omega) _ _⟩
theorem Five.set2 {W : World} {q : Nat} {a b c d : Int} (h : Five W q a b c d) (x : Int) : Five (W.setCell ⟨q + 1 + 1 + 1, 0, none⟩ (.int .u64 x)) q a b x d :=
  ⟨h.res.other (by omega) _ _, h.b0.other (by omega) _ _, h.b1.other (by omega) _ _, set_box h.b2, h.b3.other (by omega) _ _⟩
theorem Five.set3 {W : World} {q : Nat} {a b c d : Int} (h : Five W q a b c d) (x : Int) : Five (W.setCell ⟨q + 1 + 1 + 1 + 1, 0, none⟩ (.int .u64 x)) q a b c x :=
  ⟨h.res.other (by omega) _ _, h.b0.other (by omega) _ _, h.b1.other (by omega) _ _, h.b2.other (by omega) _ _, set_box h.b3⟩
theorem ixp (w : World) (y1 y2 y3 y4 : Option Addr) :
    (Instr.index 80 (.agg #[.pointer y1, .pointer y2, .pointer y3, .pointer y4]) (.int .i64 0)).run Tryd.prog w = .ok (.pointer y1) w ∧
    (Instr.index 80 (.agg #[.pointer y1, .pointer y2, .pointer y3, .pointer y4]) (.int .i64 1)).run Tryd.prog w = .ok (.pointer y2) w ∧
    (Instr.index 80 (.agg #[.pointer y1, .pointer y2, .pointer y3, .pointer y4]) (.int .i64 2)).run Tryd.prog w = .ok (.pointer y3) w ∧
    (Instr.index 80 (.agg #[.pointer y1, .pointer y2, .pointer y3, .pointer y4]) (.int .i64 3)).run Tryd.prog w = .ok (.pointer y4) w := by
  refine ⟨?_, ?_, ?_, ?_⟩ <;> simp [Instr.index, run_underlying Tryd.underlying80, part, isAgg, go_sem]
theorem five_new (w : World) (o : Array Value) (t : TypeId) : Five ((((((w.alloc (.cells (cells 0 0 0 0 false) 32)).alloc (.cells #[.int .u64 0] 22)).alloc (.cells #[.int .u64 0] 22)).alloc (.cells #[.int .u64 0] 22)).alloc (.cells #[.int .u64 0] 22)).alloc (.cells o t)) w.heap.size 0 0 0 0 := by
  refine ⟨(BoxA.new w _ _).below (by go_grown), ?_, ?_, ?_, ?_⟩
  · have h := (BoxA.new (w.alloc (.cells (cells 0 0 0 0 false) 32)) 22 #[.int .u64 0])
    rw [World.size_alloc] at h
    exact h.below (by go_grown)
  · have h := (BoxA.new ((w.alloc (.cells (cells 0 0 0 0 false) 32)).alloc (.cells #[.int .u64 0] 22)) 22 #[.int .u64 0])
    rw [World.size_alloc, World.size_alloc] at h
    exact h.below (by go_grown)
  · have h := (BoxA.new (((w.alloc (.cells (cells 0 0 0 0 false) 32)).alloc (.cells #[.int .u64 0] 22)).alloc (.cells #[.int .u64 0] 22)) 22 #[.int .u64 0])
    rw [World.size_alloc, World.size_alloc, World.size_alloc] at h
    exact h.below (by go_grown)
  · have h := (BoxA.new ((((w.alloc (.cells (cells 0 0 0 0 false) 32)).alloc (.cells #[.int .u64 0] 22)).alloc (.cells #[.int .u64 0] 22)).alloc (.cells #[.int .u64 0] 22)) 22 #[.int .u64 0])
    rw [World.size_alloc, World.size_alloc, World.size_alloc, World.size_alloc] at h
    exact h.below (by go_grown)
/-- what was read before round j -/
def Rn (s : List UInt8) : Nat → List UInt8 → Nat → Nat → Nat → Nat → Prop
  | 0, R, a, b, c, d => R = s ∧ a = 0 ∧ b = 0 ∧ c = 0 ∧ d = 0
  | 1, R, a, b, c, d => R = r1 s ∧ a = n0 s ∧ b = 0 ∧ c = 0 ∧ d = 0
  | 2, R, a, b, c, d => R = r2 s ∧ a = n0 s ∧ b = n1 s ∧ c = 0 ∧ d = 0
  | 3, R, a, b, c, d => R = r3 s ∧ a = n0 s ∧ b = n1 s ∧ c = n2 s ∧ d = 0
  | _ + 4, R, a, b, c, d => R = r4 s ∧ a = n0 s ∧ b = n1 s ∧ c = n2 s ∧ d = n3 s
theorem Rn.s0 {s R : List UInt8} {a b c d : Nat} (h : Rn s 0 R a b c d) {x : Nat} {R' : List UInt8} (hx : st w0 w1 R = (x, R')) : Rn s 1 R' x b c d := by
  unfold Rn at *
  obtain ⟨h0, h1, h2, h3, h4⟩ := h
  rw [h0] at hx
  refine ⟨?_, ?_, h2, h3, h4⟩
  · unfold r1; rw [hx]
  · unfold n0; rw [hx]
theorem Rn.s1 {s R : List UInt8} {a b c d : Nat} (h : Rn s 1 R a b c d) {x : Nat} {R' : List UInt8} (hx : st w1 w2 R = (x, R')) : Rn s 2 R' a x c d := by
  unfold Rn at *
  obtain ⟨h0, h1, h2, h3, h4⟩ := h
  rw [h0] at hx
  refine ⟨?_, h1, ?_, h3, h4⟩
  · unfold r2; rw [hx]
  · unfold n1; rw [hx]
theorem Rn.s2 {s R : List UInt8} {a b c d : Nat} (h : Rn s 2 R a b c d) {x : Nat} {R' : List UInt8} (hx : st w2 w3 R = (x, R')) : Rn s 3 R' a b x d := by
  unfold Rn at *
  obtain ⟨h0, h1, h2, h3, h4⟩ := h
  rw [h0] at hx
  refine ⟨?_, h1, h2, ?_, h4⟩
  · unfold r3; rw [hx]
  · unfold n2; rw [hx]
theorem Rn.s3 {s R : List UInt8} {a b c d : Nat} (h : Rn s 3 R a b c d) {x : Nat} {R' : List UInt8} (hx : st w3 w4 R = (x, R')) : Rn s 4 R' a b c x := by
  unfold Rn at *
  obtain ⟨h0, h1, h2, h3, h4⟩ := h
  rw [h0] at hx
  refine ⟨?_, h1, h2, h3, ?_⟩
  · unfold r4; rw [hx]
  · unfold n3; rw [hx]
theorem Rn.e4 {s R : List UInt8} {a b c d : Nat} (h : Rn s 4 R a b c d) : rd s = ⟨a, b, c, d, Lib.hasSuffix R yes⟩ ∧ a < 18446744073709551616 ∧ b < 18446744073709551616 ∧ c < 18446744073709551616 ∧ d < 18446744073709551616 := by
  unfold Rn at h
  obtain ⟨h0, h1, h2, h3, h4⟩ := h
  rw [h0, h1, h2, h3, h4]
  refine ⟨rd_eq s, ?_, ?_, ?_, ?_⟩
  · unfold n0; exact st_small _ _ _
  · unfold n1; exact st_small _ _ _
  · unfold n2; exact st_small _ _ _
  · unfold n3; exact st_small _ _ _
set_option maxRecDepth 100000 in
set_option maxHeartbeats 8000000 in
theorem parse_any (s : List UInt8) (hs : s.length ≤ 1000) (w : World) (htab : Tabs w) (hw : Words w) (he : Errs w) (hm : Mx w) :
    Calls Tryd.prog 42 #[.string (str s)] w fun e w' => e = .returned (pres s) ∧ Below w.heap.size w w' := by
  obtain ⟨PV, hPV⟩ : ∃ x, pres s = x := ⟨_, rfl⟩
  rw [hPV]
  have HPV := Lib.hid hPV
  clear hPV
  have HTB := Lib.hid (fun w1 (h : Below w.heap.size w w1) => htab.below h)
  have HWD := Lib.hid (fun w1 (h : Below w.heap.size w w1) => hw.below h)
  have HER := Lib.hid (fun w1 (h : Below w.heap.size w w1) => he.below h)
  have HMX := Lib.hid (fun w1 (h : Below w.heap.size w w1) => hm.below h)
  clear htab hw he hm
  go_enter Tryd.func42, Tryd.ntmps42
  go_wp2_with fail
  go_loopw [9, 24] (fun v9 i wr => ∃ j : Nat, ∃ R : List UInt8, ∃ a b c d : Nat, j ≤ 4 ∧ i = .int .i64 j ∧ v9 = .string (str R) ∧ R.length ≤ 1000 ∧ Rn s j R a b c d ∧ Five wr w.heap.size a b c d ∧ Below w.heap.size w wr) (fun _ i _ => 4 - (intOf i).toNat)
  case atStart => exact ⟨0, s, 0, 0, 0, 0, by omega, rfl, rfl, hs, ⟨rfl, rfl, rfl, rfl, rfl⟩, five_new w _ _, by go_grown⟩
  case round =>
    obtain ⟨j, R, a, b, c, d, hj, rfl, rfl, hRL, hRn, hF, bW⟩ := hrel
    obtain rfl | rfl | rfl | rfl | rfl : j = 0 ∨ j = 1 ∨ j = 2 ∨ j = 3 ∨ j = 4 := by omega
    · have hix := fun W => (ixp W (some ⟨w.heap.size + 1, 0, none⟩) (some ⟨w.heap.size + 1 + 1, 0, none⟩) (some ⟨w.heap.size + 1 + 1 + 1, 0, none⟩) (some ⟨w.heap.size + 1 + 1 + 1 + 1, 0, none⟩)).1
      have HF := Lib.hid hF
      have Hr1 := Lib.hid hRn
      clear hF hRn hj
      obtain ⟨k0, k1, k2, k3, k4⟩ := HWD.out _ bW
      go_wp2_with fail
      refine (cut_any R w0 (by omega) _ (HMX.out _ bW)).mono ?_
      rintro e w5 ⟨rfl, e5⟩
      have f5 := tr bW e5
      clear k0 k1 k2 k3 k4
      obtain ⟨k0, k1, k2, k3, k4⟩ := HWD.out _ f5
      have la := cut2_le R w0
      have ln := cut1_le (Lib.cut R w0).2.1 Cfg.w1
      have HQ := Lib.hid (st_def w0 Cfg.w1 R)
      generalize (Lib.cut R w0).1 = x1 at *
      generalize (Lib.cut R w0).2.2 = x2 at *
      generalize (Lib.cut R w0).2.1 = x3 at *
      go_wp2_with fail
      refine (cut_any x3 Cfg.w1 (by omega) _ (HMX.out _ f5)).mono ?_
      rintro e w6 ⟨rfl, e6⟩
      have f6 := tr f5 e6
      generalize (Lib.cut x3 Cfg.w1).2.1 = x4 at *
      generalize (Lib.cut x3 Cfg.w1).2.2 = x5 at *
      generalize (Lib.cut x3 Cfg.w1).1 = x6 at *
      clear k0 k1 k2 k3 k4
      go_wp2_with fail
      refine (pu_any x6 (by omega) _ (HER.out _ f6)).mono ?_
      rintro e w7 ⟨⟨er, rfl⟩, e7⟩
      have f7 := tr f6 e7
      have hF7 := ((HF.out.below e5).below e6).below e7
      have HF7 := Lib.hid hF7
      have z0 := BoxA.cell hF7.b0 0
      have zf := BoxA.frozen hF7.b0 0
      clear hF7 e5 e6 e7
      have hsz : (str x3).size = x3.length := str_size x3
      have hsn : (str x6).size = x6.length := str_size x6
      generalize hvv : val x6 = vv at *
      have Hr1' := Lib.hid (Hr1.out.s0 HQ.out)
      clear hvv
      go_wp2_with fail
      go_roundw
      case rel =>
        refine ⟨1, x3.drop x6.length, vv, b, c, d, by omega, by go_num, by rw [← str_drop, str_size], by rw [List.length_drop]; omega, Hr1'.out, HF7.out.set0 _, set_below (p := ⟨w.heap.size + 1, 0, none⟩) (by show w.heap.size ≤ w.heap.size + 1; omega) f7 _⟩
      case measure => simp [intOf]
    · have hix := fun W => (ixp W (some ⟨w.heap.size + 1, 0, none⟩) (some ⟨w.heap.size + 1 + 1, 0, none⟩) (some ⟨w.heap.size + 1 + 1 + 1, 0, none⟩) (some ⟨w.heap.size + 1 + 1 + 1 + 1, 0, none⟩)).2.1
      have HF := Lib.hid hF
      have Hr2 := Lib.hid hRn
      clear hF hRn hj
      obtain ⟨k0, k1, k2, k3, k4⟩ := HWD.out _ bW
      go_wp2_with fail
      refine (cut_any R Cfg.w1 (by omega) _ (HMX.out _ bW)).mono ?_
      rintro e w5 ⟨rfl, e5⟩
      have f5 := tr bW e5
      clear k0 k1 k2 k3 k4
      obtain ⟨k0, k1, k2, k3, k4⟩ := HWD.out _ f5
      have la := cut2_le R Cfg.w1
      have ln := cut1_le (Lib.cut R Cfg.w1).2.1 w2
      have HQ := Lib.hid (st_def Cfg.w1 w2 R)
      generalize (Lib.cut R Cfg.w1).1 = x1 at *
      generalize (Lib.cut R Cfg.w1).2.2 = x2 at *
      generalize (Lib.cut R Cfg.w1).2.1 = x3 at *
      go_wp2_with fail
      refine (cut_any x3 w2 (by omega) _ (HMX.out _ f5)).mono ?_
      rintro e w6 ⟨rfl, e6⟩
      have f6 := tr f5 e6
      generalize (Lib.cut x3 w2).2.1 = x4 at *
      generalize (Lib.cut x3 w2).2.2 = x5 at *
      generalize (Lib.cut x3 w2).1 = x6 at *
      clear k0 k1 k2 k3 k4
      go_wp2_with fail
      refine (pu_any x6 (by omega) _ (HER.out _ f6)).mono ?_
      rintro e w7 ⟨⟨er, rfl⟩, e7⟩
      have f7 := tr f6 e7
      have hF7 := ((HF.out.below e5).below e6).below e7
      have HF7 := Lib.hid hF7
      have z0 := BoxA.cell hF7.b1 0
      have zf := BoxA.frozen hF7.b1 0
      clear hF7 e5 e6 e7
      have hsz : (str x3).size = x3.length := str_size x3
      have hsn : (str x6).size = x6.length := str_size x6
      generalize hvv : val x6 = vv at *
      have Hr2' := Lib.hid (Hr2.out.s1 HQ.out)
      clear hvv
      go_wp2_with fail
      go_roundw
      case rel =>
        refine ⟨2, x3.drop x6.length, a, vv, c, d, by omega, by go_num, by rw [← str_drop, str_size], by rw [List.length_drop]; omega, Hr2'.out, HF7.out.set1 _, set_below (p := ⟨w.heap.size + 1 + 1, 0, none⟩) (by show w.heap.size ≤ w.heap.size + 1 + 1; omega) f7 _⟩
      case measure => simp [intOf]
    · have hix := fun W => (ixp W (some ⟨w.heap.size + 1, 0, none⟩) (some ⟨w.heap.size + 1 + 1, 0, none⟩) (some ⟨w.heap.size + 1 + 1 + 1, 0, none⟩) (some ⟨w.heap.size + 1 + 1 + 1 + 1, 0, none⟩)).2.2.1
      have HF := Lib.hid hF
      have Hr3 := Lib.hid hRn
      clear hF hRn hj
      obtain ⟨k0, k1, k2, k3, k4⟩ := HWD.out _ bW
      go_wp2_with fail
      refine (cut_any R w2 (by omega) _ (HMX.out _ bW)).mono ?_
      rintro e w5 ⟨rfl, e5⟩
      have f5 := tr bW e5
      clear k0 k1 k2 k3 k4
      obtain ⟨k0, k1, k2, k3, k4⟩ := HWD.out _ f5
      have la := cut2_le R w2
      have ln := cut1_le (Lib.cut R w2).2.1 w3
      have HQ := Lib.hid (st_def w2 w3 R)
      generalize (Lib.cut R w2).1 = x1 at *
      generalize (Lib.cut R w2).2.2 = x2 at *
      generalize (Lib.cut R w2).2.1 = x3 at *
      go_wp2_with fail
      refine (cut_any x3 w3 (by omega) _ (HMX.out _ f5)).mono ?_
      rintro e w6 ⟨rfl, e6⟩
      have f6 := tr f5 e6
      generalize (Lib.cut x3 w3).2.1 = x4 at *
      generalize (Lib.cut x3 w3).2.2 = x5 at *
      generalize (Lib.cut x3 w3).1 = x6 at *
      clear k0 k1 k2 k3 k4
      go_wp2_with fail
      refine (pu_any x6 (by omega) _ (HER.out _ f6)).mono ?_
      rintro e w7 ⟨⟨er, rfl⟩, e7⟩
      have f7 := tr f6 e7
      have hF7 := ((HF.out.below e5).below e6).below e7
      have HF7 := Lib.hid hF7
      have z0 := BoxA.cell hF7.b2 0
      have zf := BoxA.frozen hF7.b2 0
      clear hF7 e5 e6 e7
      have hsz : (str x3).size = x3.length := str_size x3
      have hsn : (str x6).size = x6.length := str_size x6
      generalize hvv : val x6 = vv at *
      have Hr3' := Lib.hid (Hr3.out.s2 HQ.out)
      clear hvv
      go_wp2_with fail
      go_roundw
      case rel =>
        refine ⟨3, x3.drop x6.length, a, b, vv, d, by omega, by go_num, by rw [← str_drop, str_size], by rw [List.length_drop]; omega, Hr3'.out, HF7.out.set2 _, set_below (p := ⟨w.heap.size + 1 + 1 + 1, 0, none⟩) (by show w.heap.size ≤ w.heap.size + 1 + 1 + 1; omega) f7 _⟩
      case measure => simp [intOf]
    · have hix := fun W => (ixp W (some ⟨w.heap.size + 1, 0, none⟩) (some ⟨w.heap.size + 1 + 1, 0, none⟩) (some ⟨w.heap.size + 1 + 1 + 1, 0, none⟩) (some ⟨w.heap.size + 1 + 1 + 1 + 1, 0, none⟩)).2.2.2
      have HF := Lib.hid hF
      have Hr4 := Lib.hid hRn
      clear hF hRn hj
      obtain ⟨k0, k1, k2, k3, k4⟩ := HWD.out _ bW
      go_wp2_with fail
      refine (cut_any R w3 (by omega) _ (HMX.out _ bW)).mono ?_
      rintro e w5 ⟨rfl, e5⟩
      have f5 := tr bW e5
      clear k0 k1 k2 k3 k4
      obtain ⟨k0, k1, k2, k3, k4⟩ := HWD.out _ f5
      have la := cut2_le R w3
      have ln := cut1_le (Lib.cut R w3).2.1 w4
      have HQ := Lib.hid (st_def w3 w4 R)
      generalize (Lib.cut R w3).1 = x1 at *
      generalize (Lib.cut R w3).2.2 = x2 at *
      generalize (Lib.cut R w3).2.1 = x3 at *
      go_wp2_with fail
      refine (cut_any x3 w4 (by omega) _ (HMX.out _ f5)).mono ?_
      rintro e w6 ⟨rfl, e6⟩
      have f6 := tr f5 e6
      generalize (Lib.cut x3 w4).2.1 = x4 at *
      generalize (Lib.cut x3 w4).2.2 = x5 at *
      generalize (Lib.cut x3 w4).1 = x6 at *
      clear k0 k1 k2 k3 k4
      go_wp2_with fail
      refine (pu_any x6 (by omega) _ (HER.out _ f6)).mono ?_
      rintro e w7 ⟨⟨er, rfl⟩, e7⟩
      have f7 := tr f6 e7
      have hF7 := ((HF.out.below e5).below e6).below e7
      have HF7 := Lib.hid hF7
      have z0 := BoxA.cell hF7.b3 0
      have zf := BoxA.frozen hF7.b3 0
      clear hF7 e5 e6 e7
      have hsz : (str x3).size = x3.length := str_size x3
      have hsn : (str x6).size = x6.length := str_size x6
      generalize hvv : val x6 = vv at *
      have Hr4' := Lib.hid (Hr4.out.s3 HQ.out)
      clear hvv
      go_wp2_with fail
      go_roundw
      case rel =>
        refine ⟨4, x3.drop x6.length, a, b, c, vv, by omega, by go_num, by rw [← str_drop, str_size], by rw [List.length_drop]; omega, Hr4'.out, HF7.out.set3 _, set_below (p := ⟨w.heap.size + 1 + 1 + 1 + 1, 0, none⟩) (by show w.heap.size ≤ w.heap.size + 1 + 1 + 1 + 1; omega) f7 _⟩
      case measure => simp [intOf]
    · obtain ⟨hrd, m0, m1, m2, m3⟩ := hRn.e4
      have HRD := Lib.hid hrd
      clear hrd hRn
      obtain ⟨k0, k1, k2, k3, k4⟩ := HWD.out _ bW
      have z0 := BoxA.cell hF.b0 0
      have z1 := BoxA.cell hF.b1 0
      have z2 := BoxA.cell hF.b2 0
      have z3 := BoxA.cell hF.b3 0
      have HF := Lib.hid hF
      clear hF
      have HS := Lib.hid (show ∀ w1, Below wr.heap.size wr w1 → (w1.cell? ⟨w.heap.size + 1, 0, none⟩ = some (.int .u64 (a : Nat)) ∧ w1.cell? ⟨w.heap.size + 1 + 1, 0, none⟩ = some (.int .u64 (b : Nat)) ∧ w1.cell? ⟨w.heap.size + 1 + 1 + 1, 0, none⟩ = some (.int .u64 (c : Nat)) ∧ w1.cell? ⟨w.heap.size + 1 + 1 + 1 + 1, 0, none⟩ = some (.int .u64 (d : Nat)) ∧ Below wr.heap.size wr w1) from fun w1 h => by
        have hF := HF.out.below h
        exact ⟨BoxA.cell hF.b0 0, BoxA.cell hF.b1 0, BoxA.cell hF.b2 0, BoxA.cell hF.b3 0, h⟩)
      obtain ⟨y0, y1, y2, y3, y4, yf⟩ := BoxA.five (BoxA.new wr 32 (cells 0 0 0 0 false))
      go_wp2_with fail
      apply region_once
      case first =>
        go_region_held3 (fun w' => w'.cell? ⟨w.heap.size + 1, 0, none⟩ = some (.int .u64 (a : Nat)) ∧ w'.cell? ⟨w.heap.size + 1 + 1, 0, none⟩ = some (.int .u64 (b : Nat)) ∧ w'.cell? ⟨w.heap.size + 1 + 1 + 1, 0, none⟩ = some (.int .u64 (c : Nat)) ∧ w'.cell? ⟨w.heap.size + 1 + 1 + 1 + 1, 0, none⟩ = some (.int .u64 (d : Nat)) ∧ Below wr.heap.size wr w')
          (first
            | (exact HS.out _ (Below.drew (Below.refl _ _)))
            | assumption
            | (exact HS.out _ (Below.drew ((Below.refl _ _).alloc (Nat.le_refl _) _)))
            | (exact HS.out _ (set_below (Nat.le_refl _) (set_below (Nat.le_refl _) (set_below (Nat.le_refl _) (set_below (Nat.le_refl _) (set_below (Nat.le_refl _) (Below.drew ((Below.refl _ _).alloc (Nat.le_refl _) _)) _) _) _) _) _))
            | fail)
          (first
            | (go_at_call 48; refine (small_any _ (by first | exact m0 | exact m1 | exact m2) _).mono ?_
               rintro e w' ⟨rfl, rfl⟩)
            | (go_at_call 49; refine (Tryd.strings_HasSuffix _ _ _ (by rw [str_size]; omega)).mono ?_; rintro e w' ⟨rfl, rfl⟩)
            | fail)
        all_goals exact ⟨rfl, rfl⟩
      have XU := BoxA.below (BoxA.new wr 32 (cells (small a) (small b) (small c) d (Lib.hasSuffix R yes))) (Below.drew (Below.refl _ _))
      have FU := HF.out.below (Below.drew ((Below.refl wr.heap.size wr).alloc (Nat.le_refl _) (.cells (cells (small a) (small b) (small c) d (Lib.hasSuffix R yes)) 32)))
      have bU := bW.trans ((Below.drew ((Below.refl wr.heap.size wr).alloc (Nat.le_refl _) (.cells (cells (small a) (small b) (small c) d (Lib.hasSuffix R yes)) 32))).mono bW.size)
      clear k0 k1 k2 k3 k4 z0 z1 z2 z3 y0 y1 y2 y3 y4 yf HF HS
      rw [show (str R).data.toList = R from rfl, show ([121, 101, 115] : List UInt8) = yes from rfl]
      generalize (wr.alloc (.cells (cells (small a) (small b) (small c) d (Lib.hasSuffix R yes)) 32)).drew = U at *
      generalize wr.heap.size = q at *
      have hps : (ck (small a) (small b) (small c) = 0 ∧ T (small a).toNat (small b).toNat (small c).toNat d (Lib.hasSuffix R yes) = s → PV = .tuple #[conf (small a) (small b) (small c) d (Lib.hasSuffix R yes), .int .i64 0]) ∧ (¬ (ck (small a) (small b) (small c) = 0 ∧ T (small a).toNat (small b).toNat (small c).toNat d (Lib.hasSuffix R yes) = s) → PV = .tuple #[conf 0 0 0 0 false, .int .i64 6]) := by
        rw [← HPV.out]
        unfold pres good
        rw [HRD.out]
        exact ⟨fun h => if_pos h, fun h => if_neg h⟩
      clear HRD hRL
      generalize Lib.hasSuffix R yes = yb at *
      generalize hS0 : small a = S0 at *
      generalize hS1 : small b = S1 at *
      generalize hS2 : small c = S2 at *
      clear hS0 hS1 hS2 m0 m1 m2
      obtain ⟨k0, k1, k2, k3, k4, -⟩ := XU.five
      have HXU := Lib.hid XU
      have HFU := Lib.hid FU
      have HBU := Lib.hid bU
      clear XU FU bU bW hj
      by_cases hg : ck S0 S1 S2 = 0
      · have HT := Lib.hid (fun W h1 h2 => text_ok S0 S1 S2 (d : Int) yb hg (by omega) (by omega) W h1 h2)
        rw [Int.toNat_natCast] at HT
        by_cases hq : T S0.toNat S1.toNat S2.toNat d yb = s
        · have HPS := Lib.hid (hps.1 ⟨hg, hq⟩)
          have hb : ((str s).toList == (str s).toList) = true := beq_self_eq_true _
          have hb2 : ((str s).toList != (str s).toList) = false := by rw [bne, hb]; rfl
          rw [hq] at HT
          clear hg hq hps
          go_wp2_with fail
          refine (HT.out _ (HTB.out _ HBU.out) (HWD.out _ HBU.out)).mono ?_
          rintro e w8 ⟨rfl, e8⟩
          have f8 := Lib.hid (tr HBU.out e8)
          obtain ⟨k0, k1, k2, k3, k4, -⟩ := (HXU.out.below e8).five
          have HRS := Lib.hid (HFU.out.below e8).res
          obtain ⟨d0, d1, d2, d3, d4, fy⟩ := HRS.out.five
          clear e8
          go_wp2_with fail
          refine ret_conf (r := .int .i64 0) Tryd.results42 (by rfl) (by rfl) (set_five HRS.out) rfl ?_
          refine ⟨by rw [HPS.out], ?_⟩
          exact five_below f8.out
        · have HPS := Lib.hid (hps.2 (fun h => hq h.2))
          clear hps
          have hb : ((str (T S0.toNat S1.toNat S2.toNat d yb)).toList == (str s).toList) = false := by
            rw [Bool.eq_false_iff]
            intro h1
            apply hq
            have h2 := eq_of_beq h1
            rw [ByteArray.toList_eq, ByteArray.toList_eq] at h2
            exact h2
          have hb2 : ((str (T S0.toNat S1.toNat S2.toNat d yb)).toList != (str s).toList) = true := by rw [bne, hb]; rfl
          generalize T S0.toNat S1.toNat S2.toNat d yb = z at *
          clear hg hq
          go_wp2_with fail
          refine (HT.out _ (HTB.out _ HBU.out) (HWD.out _ HBU.out)).mono ?_
          rintro e w8 ⟨rfl, e8⟩
          have f8 := Lib.hid (tr HBU.out e8)
          obtain ⟨k0, k1, k2, k3, k4, -⟩ := (HXU.out.below e8).five
          have HRS := Lib.hid (HFU.out.below e8).res
          obtain ⟨d0, d1, d2, d3, d4, fy⟩ := HRS.out.five
          clear e8
          go_wp2_with fail
          refine ret_conf (r := .int .i64 6) Tryd.results42 (by rfl) (by rfl) (set_five HRS.out) rfl ?_
          refine ⟨by rw [HPS.out], ?_⟩
          exact five_below f8.out
      · have HPS := Lib.hid (hps.2 (fun h => hg h.1))
        clear hps
        have HT := Lib.hid (fun W => text_bad S0 S1 S2 (d : Int) yb hg W)
        generalize ck S0 S1 S2 = r at *
        have hr : (r == 0) = false := by rw [beq_eq_false_iff_ne]; exact hg
        have hr2 : (r != 0) = true := by rw [bne, hr]; rfl
        clear hg
        go_wp2_with fail
        refine (HT.out _).mono ?_
        rintro e w8 ⟨rfl, e8⟩
        have f8 := Lib.hid (tr HBU.out e8)
        have HRS := Lib.hid (HFU.out.below e8).res
        obtain ⟨d0, d1, d2, d3, d4, fy⟩ := HRS.out.five
        clear e8
        go_wp2_with fail
        refine ret_conf (r := .int .i64 6) Tryd.results42 (by rfl) (by rfl) (set_five HRS.out) rfl ?_
        refine ⟨by rw [HPS.out], ?_⟩
        exact five_below f8.out
end Go.Proofs.YtckibgpmncggaaaDoor.Cfg
