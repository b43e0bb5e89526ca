/-
  Adaptive replacement (layer 29), the reference: in, newest, cut.
-/
import Derived.Test.YtggimkfepcgaoaaGhpE
import Derived.Test.YtggimkfepcgaoaaApp
import Derived.Maps.AppendAt
import Derived.Deep.RegionHeld3
set_option linter.unusedVariables false
set_option linter.unusedSimpArgs false
section
namespace Go.Proofs.Ytggimkfepcgaoaa.Arc
open Go Go.RowKit Kit Go.Maps Lnk Gho
/-- append to no row, at a step of a region that draws -/
theorem step_app0 {w : World} {ops : Array Oper} {o : Oper} {a : Act} {K : Act → World → Prop} {Q : Exit → Act → World → Prop} {E : Prop} (hgd : o.guard = none) (s x : Operand)
    (ho : o.op = .call { callee := .builtin .append, args := #[s, x], argTypes := #[39, 39] })
    (base : Nat) (hs : a.eval s = .slice none 0 0) (p : Option Addr) (m c : Nat) (l : List Value) (hx : a.eval x = .slice p m c) (hl : l.length = m) (hr : App.Rg w p l) (h1 : ∀ u ∈ l, u.oneCell' = true) (hn : m ≤ 1000000) (hbase : base ≤ w.heap.size)
    (h : ∀ q kk w', w'.ownsRow base 38 1 (.slice q m kk) m l → Below base w w' → K (a.put o.dst (.slice q m kk)) w') :
    if Region.wanted o (yielded ops a.tmps) = true then Oper.wp Try.prog o a w K Q else E := by
  have hw : Region.wanted o (yielded ops a.tmps) = true := by simp [Region.wanted, hgd]
  rw [if_pos hw]
  obtain ⟨i0, hi0, hz0, hz1, hz2⟩ := u_parts
  have hu : Try.prog.underlying 39 = some (.slice 38) := by kernel_rfl
  have hown : w.ownsRow base 38 1 (.slice none 0 0) 0 [] := World.ownsRow_nil _ _ _ _
  rcases Nat.eq_zero_or_pos m with rfl | hpos
  · obtain rfl : l = [] := List.length_eq_zero_iff.1 hl
    unfold Oper.wp execOp
    simp only [ho, resolve, invoke, builtin, Sem.run_bind, Sem.run_pure, Result.andThen_ok, List.map_toArray, List.map_cons, List.map_nil, hs, hx, App.run_append_zero' w _ o.type _ i0 hu hi0 none 0 0 (fun _ => ⟨rfl, rfl⟩) (Nat.le_refl _) p c]
    exact h none 0 w hown (Below.refl _ _)
  · obtain ⟨y, rfl⟩ : ∃ y, p = some y := by
      obtain ⟨y, hy, -⟩ := hr 0 (l[0]'(by omega)) (List.getElem?_eq_getElem (by omega))
      exact ⟨y, hy⟩
    obtain ⟨v', w', hr2, h2, h3, _, h5⟩ := run_append_own_at (P := Try.prog) w base 39 o.type _ i0 _ 1 4 hu hi0 hz0 hz1 hz2 rfl (by decide) (.slice none 0 0) 0 [] hown y m c l (by rw [hl, Nat.mul_one]) (fun j u hj => by obtain ⟨y', hy', _, hc⟩ := hr j u hj; cases hy'; exact hc) h1 (by unfold maxLen; omega) (by omega) hbase
    rw [Nat.zero_add, List.nil_append] at h2
    obtain ⟨q, kk, rfl, _, _⟩ := App.own_form h2
    unfold Oper.wp execOp
    simp only [ho, resolve, invoke, builtin, Sem.run_bind, Sem.run_pure, Result.andThen_ok, List.map_toArray, List.map_cons, List.map_nil, hs, hx, hr2]
    exact h q kk w' h2 ((Below.refl base w).grown h3 hbase fun k hk => (hown.lt k hk).1)
set_option maxRecDepth 100000 in
theorem rin_any {w : World} {p : Option Addr} {n c : Nat} {l : List Nat} (hl : l.length = n) (hn : n ≤ 1000000) (r : Ru w p (ints l)) (x : Nat) :
    Calls Try.prog 149 #[.slice p n c, .int .u32 (x : Int)] w fun e w' => e = .returned (.bool (decide (x ∈ l))) ∧ Below w.heap.size w w' := by
  have HH := Lib.hid (rhas_any (c := c) 0 hl hn r x)
  obtain ⟨t, ht⟩ : ∃ t, decide (x ∈ l) = t := ⟨_, rfl⟩
  rw [ht] at HH ⊢
  clear hl hn r ht
  go_enter Try.func149, Try.ntmps149
  go_wp2_with fail
  refine HH.out.mono ?_
  rintro e w1 ⟨rfl, b1⟩
  have B1 := Lib.hid b1
  clear b1
  go_wp2_with fail
  exact bodyPost_ret (v := .bool t) (by simp [results, Try.results149, go_sem]) rfl ⟨rfl, B1.out⟩
set_option maxRecDepth 100000 in
set_option maxHeartbeats 2000000 in
theorem rnewest_any {w : World} {p : Option Addr} {n c : Nat} {l : List Nat} (hl : l.length = n) (hn : n ≤ 1000000) (r : Ru w p (ints l)) (x : Nat) :
    Calls Try.prog 148 #[.slice p n c, .int .u32 (x : Int)] w fun e w' => ∃ q k, e = .returned (.slice q (n + 1) k) ∧ w'.ownsRow w.heap.size 38 1 (.slice q (n + 1) k) (n + 1) ((ints (x :: l)).map (Value.int .u32)) ∧ Below w.heap.size w w' := by
  obtain ⟨i0, hi0, hz0, hz1, hz2⟩ := u_parts
  have hb : Below w.heap.size w (w.alloc (.cells #[.int .u32 (x : Int)] 38)) := by go_grown
  have ONE := Lib.hid (App.one_own w (.int .u32 (x : Int)) 38)
  have RG := Lib.hid (ru_app (r.below hb))
  have HL := Lib.hid (show ((ints l).map (Value.int .u32)).length = n by rw [List.length_map, ints_len, hl])
  have HB := Lib.hid (show n ≤ 1000000 ∧ Below w.heap.size w (w.alloc (.cells #[.int .u32 (x : Int)] 38)) from ⟨hn, hb⟩)
  obtain ⟨N, hN⟩ : ∃ N, 1 + n = N := ⟨_, rfl⟩
  have HN := Lib.hid hN
  have hN2 : n + 1 = N := by omega
  rw [hN2]
  clear hl hn r hb hN hN2
  go_enter Try.func148, Try.ntmps148
  go_wp2_with (first
    | (at_builtin; refine App.wpList_appG rfl (.tmp 6) (.tmp 7) 39 rfl w.heap.size 38 i0 (.int .u32 0) 4 Try.underlying39 hi0 hz0 hz1 hz2 rfl _ 1 [.int .u32 (x : Int)] rfl ONE.out p n c _ rfl HL.out RG.out (u32_cell1 _) (by have := HB.out; omega) (by omega) (by simp) ?_; intro v5 w5 o5 b5 s5; rw [HN.out] at o5; obtain ⟨q, kc, rfl, -, -⟩ := App.own_form o5; have X5 := Lib.hid (And.intro o5 (HB.out.2.trans b5)); clear o5 b5 s5)
    | fail)
  exact bodyPost_ret (v := .slice q N kc) (by simp [results, Try.results148, go_sem]) rfl ⟨q, kc, rfl, X5.out.1, X5.out.2⟩
set_option maxRecDepth 100000 in
set_option maxHeartbeats 2000000 in
theorem rcut_any {w : World} {p : Option Addr} {m c : Nat} {T : List Nat} {x : Nat} (hl : T.length = m) (hn : m + 1 ≤ 1000000) (hc : m + 1 ≤ c) (r : Ru w p (ints (T ++ [x]))) :
    Calls Try.prog 151 #[.slice p (m + 1) c] w fun e w' => ∃ q k, e = .returned (.tuple #[.slice q m k, .int .u32 (x : Int)]) ∧ w'.ownsRow w.heap.size 38 1 (.slice q m k) m ((ints T).map (Value.int .u32)) ∧ Below w.heap.size w w' := by
  obtain ⟨n, hnm⟩ : ∃ n, m + 1 = n := ⟨_, rfl⟩
  obtain ⟨y, rfl, -, -⟩ := r 0 _ (by rw [List.getElem?_eq_getElem (by unfold ints; simp)])
  have HN := Lib.hid (show m + 1 = n ∧ n ≤ 1000000 ∧ T.length = m from ⟨hnm, by omega, hl⟩)
  have HS := Lib.hid (fun u (hb : Below w.heap.size w u) => (show u.cell? (y.add m) = some (.int .u32 (x : Int)) ∧ Hid (Below w.heap.size w u) from by
    obtain ⟨y', hy', -, e0⟩ := (r.below hb) m (x : Int) (by unfold ints; rw [List.getElem?_map, List.getElem?_append_right (by omega), hl, Nat.sub_self]; rfl)
    cases hy'
    exact ⟨e0, Lib.hid hb⟩))
  have RT := Lib.hid (fun u (hb : Below w.heap.size w u) => ru_app (show Ru u (some y) (ints T) by
    have h := (r.below hb).take m
    have e : (ints (T ++ [x])).take m = ints T := by unfold ints; rw [List.map_append, List.take_left' (by rw [List.length_map, hl])]
    rwa [e] at h))
  have HLT := Lib.hid (show ((ints T).map (Value.int .u32)).length = m by rw [List.length_map, ints_len, hl])
  rw [hnm]
  have wsub : IntKind.i64.wrap ((n : Int) - 1) = (m : Int) := by rw [IntWalk.i64_in _ (by omega)]; omega
  have i1 : (m : Int) < (n : Int) := by omega
  have i2 : (m : Int) ≤ (n : Int) := by omega
  have i3 : (n : Int) ≤ (c : Int) := by omega
  have i4 : (m : Int) ≤ (c : Int) := by omega
  have i5 : (0 : Int) ≤ (m : Int) := by omega
  clear hl hn hc r hnm
  go_enter Try.func151, Try.ntmps151
  go_wp2_with fail
  have T1 := Lib.hid (Below.drew (Below.refl w.heap.size w))
  have S1 := Lib.hid (HS.out _ T1.out)
  go_region_held3 (fun u => u.cell? (y.add m) = some (.int .u32 (x : Int)) ∧ Hid (Below w.heap.size w u))
    (first
      | with_reducible exact S1.out
      | with_reducible exact S2.out
      | assumption
      | fail)
    (first
      | (refine step_app0 rfl (.const (.slice none 0 0)) (.tmp 8) rfl w.heap.size rfl (some y) m c _ rfl HLT.out (RT.out _ T1.out) (u32_cell1 _) (by have := HN.out; omega) T1.out.size ?_; intro q kc w2 o2 b2; have O2 := Lib.hid o2; have T2 := Lib.hid (T1.out.trans b2); have S2 := Lib.hid (HS.out _ T2.out); clear o2 b2)
      | fail)
  go_wp2_with fail
  exact bodyPost_ret (v := .tuple #[.slice q m kc, .int .u32 (x : Int)]) (by simp [results, Try.results151, go_sem]) rfl ⟨q, kc, rfl, O2.out, T2.out⟩
end Go.Proofs.Ytggimkfepcgaoaa.Arc
end
section
namespace Go.Proofs.Ytggimkfepcgaoaa.Arc
open Go Go.RowKit Kit Go.Maps Lnk Gho
/-- a list of the reference, as a value -/
def Lv (v : World) (l : List Nat) (u : Value) : Prop := ∃ p n c, u = .slice p n c ∧ l.length = n ∧ n ≤ c ∧ Ru v p (ints l) ∧ ∀ y, p = some y → y.block < v.heap.size
/-- the reference's four lists -/
def Rs (v : World) (L : Nat → List Nat) (f : Nat → Value) : Prop := ∀ i, i < 4 → Lv v (L i) (f i)
/-- the reference, as a value -/
def rv29 (s : Nat) (t : Int) (f : Nat → Value) : Value := .agg #[.int .i64 (s : Int), f 0, f 1, f 2, f 3, .int .i64 t]
theorem Lv.below {v v' : World} {l : List Nat} {u : Value} (h : Lv v l u) (hb : Below v.heap.size v v') : Lv v' l u := by
  obtain ⟨p, n, c, h1, h2, h3, h4, h5⟩ := h
  exact ⟨p, n, c, h1, h2, h3, h4.below hb, fun y hy => Nat.lt_of_lt_of_le (h5 y hy) hb.size⟩
theorem Rs.below {v v' : World} {L : Nat → List Nat} {f : Nat → Value} (h : Rs v L f) (hb : Below v.heap.size v v') : Rs v' L f := fun i hi => (h i hi).below hb
theorem Lv.kp {v v' : World} {l : List Nat} {u : Value} {bad : Nat → Prop} (h : Lv v l u) (hk : Kp bad v v') (hb : ∀ p n c, u = .slice p n c → ∀ y, p = some y → ¬ bad y.block) : Lv v' l u := by
  obtain ⟨p, n, c, h1, h2, h3, h4, h5⟩ := h
  refine ⟨p, n, c, h1, h2, h3, fun i x hx => ?_, fun y hy => Nat.lt_of_lt_of_le (h5 y hy) hk.size⟩
  obtain ⟨y, g0, g1, g2⟩ := h4 i x hx
  refine ⟨y, g0, Nat.lt_of_lt_of_le g1 hk.size, (World.cell?_of_block (a := y.add i) ?_).trans g2⟩
  rw [add_block]
  exact hk.block _ g1 (hb p n c h1 y g0)
theorem Lv.of {v v' : World} {n : Nat} {q : Option Addr} {k : Nat} {l : List Nat} (h : v'.ownsRow v.heap.size 38 1 (.slice q n k) n ((ints l).map (Value.int .u32))) (hl : l.length = n) : Lv v' l (.slice q n k) := by
  obtain ⟨_, _, hv, -, hc⟩ := App.own_form h
  cases hv
  refine ⟨q, n, k, rfl, hl, hc, ?_, fun y hy => by subst hy; exact (h.lt y.block rfl).2⟩
  have hl2 : (ints l).length = n := by rw [ints_len]; exact hl
  subst hl2
  rcases own_cases h with ⟨hv, hl⟩ | ⟨g, cap, hv, h1, h2, h3, h4, h5⟩
  · exact fun i x hx => by rw [hl] at hx; simp at hx
  · cases hv
    refine fun i x hx => ?_
    obtain ⟨hi, he⟩ := List.getElem?_eq_some_iff.1 hx
    exact ⟨_, rfl, h2, by rw [add2]; have := h5 i hi; rw [he] at this; exact this⟩
def upd' {α : Type} (L : Nat → α) (i : Nat) (l : α) : Nat → α := fun j => if j = i then l else L j
theorem Lv.upd4 {v : World} {L : Nat → List Nat} {f : Nat → Value} {i : Nat} {l : List Nat} {u : Value} (h : Rs v L f) (hl : Lv v l u) : Rs v (upd' L i l) (upd' f i u) := fun j hj => by
  unfold upd'
  by_cases hji : j = i
  · rw [if_pos hji, if_pos hji]; exact hl
  · rw [if_neg hji, if_neg hji]; exact h j hj
set_option maxRecDepth 100000 in
set_option maxHeartbeats 2000000 in
theorem rhas29_any {w : World} {s : Nat} {t : Int} {L : Nat → List Nat} {f : Nat → Value} (h : Rs w L f) (hn : ∀ i, i < 4 → (L i).length ≤ 1000000) (x : Nat) :
    Calls Try.prog 126 #[rv29 s t f, .int .u32 (x : Int)] w fun e w' => e = .returned (.bool (decide (x ∈ L 0 ∨ x ∈ L 1))) ∧ Below w.heap.size w w' := by
  unfold rv29
  obtain ⟨p0, n0, c0, e0, l0, k0, r0, b0⟩ := h 0 (by omega)
  obtain ⟨p1, n1, c1, e1, l1, k1, r1, b1⟩ := h 1 (by omega)
  rw [e0, e1]
  generalize f 2 = u2
  generalize f 3 = u3
  have hb : Below w.heap.size w (w.alloc (.cells #[.int .i64 (s : Int), .slice p0 n0 c0, .slice p1 n1 c1, u2, u3, .int .i64 t] 97)) := by go_grown
  have hx := (MapKept.heap_alloc w (.cells #[.int .i64 (s : Int), .slice p0 n0 c0, .slice p1 n1 c1, u2, u3, .int .i64 t] 97)).1
  have H0 := Lib.hid (fun u (hb : Below w.heap.size w u) => rin_any (c := c0) l0 (by have := hn 0 (by omega); omega) (r0.below hb) x)
  have H1 := Lib.hid (fun u (hb : Below w.heap.size w u) => rin_any (c := c1) l1 (by have := hn 1 (by omega); omega) (r1.below hb) x)
  have hd : decide (x ∈ L 0 ∨ x ∈ L 1) = (decide (x ∈ L 0) || decide (x ∈ L 1)) := by simp
  rw [hd]
  generalize decide (x ∈ L 0) = t0 at *
  generalize decide (x ∈ L 1) = t1 at *
  clear h hn e0 l0 k0 r0 b0 e1 l1 k1 r1 b1 hd
  cases t0 with
  | true =>
    go_enter Try.func126, Try.ntmps126
    go_wp2_with fail
    refine (H0.out _ hb).mono ?_
    rintro e w1 ⟨rfl, b1⟩
    have B1 := Lib.hid (tr hb b1)
    clear b1
    go_wp2_with fail
    exact bodyPost_ret (v := .bool true) (by simp [results, Try.results126, go_sem]) rfl ⟨by simp, B1.out⟩
  | false =>
    go_enter Try.func126, Try.ntmps126
    go_wp2_with fail
    refine (H0.out _ hb).mono ?_
    rintro e w1 ⟨rfl, b1⟩
    have B1 := Lib.hid (tr hb b1)
    have hx1 := (b1.block w.heap.size (Array.getElem?_eq_some_iff.1 hx).1).trans hx
    have d2 : w1.cell? ⟨w.heap.size, 2, none⟩ = some (.slice p1 n1 c1) := by simp [World.cell?, hx1]
    clear b1 hx1
    go_wp2_with fail
    refine (H1.out _ B1.out).mono ?_
    rintro e w2 ⟨rfl, b2⟩
    have B2 := Lib.hid (tr B1.out b2)
    clear b2
    go_wp2_with fail
    exact bodyPost_ret (v := .bool t1) (by simp [results, Try.results126, go_sem]) rfl ⟨by simp, B2.out⟩
end Go.Proofs.Ytggimkfepcgaoaa.Arc
end
