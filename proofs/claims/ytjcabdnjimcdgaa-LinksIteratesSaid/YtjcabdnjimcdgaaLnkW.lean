/-
  Links (layer 14): the reference's Add.
-/
import Derived.Test.YtjcabdnjimcdgaaLnkT
set_option linter.unusedVariables false
set_option linter.unusedSimpArgs false
namespace Go.Proofs.Ytjcabdnjimcdgaa.Lnk
open Go Go.RowKit Kit
theorem sl_info' : (Try.prog.info? 39).map (fun i => (i.zero, i.size, i.bytes)) = some (some (.slice none 0 0), 1, 24) := by kernel_rfl
theorem sl_parts : ∃ i, Try.prog.info? 39 = some i ∧ i.zero = some (.slice none 0 0) ∧ i.size = 1 ∧ i.bytes = 24 := by
  have h := sl_info'
  cases hi : Try.prog.info? 39 with
  | none => rw [hi] at h; cases h
  | some i => rw [hi] at h; simp at h; exact ⟨i, rfl, h.1, h.2.1, h.2.2⟩
/-- a row of one-cell values that is read -/
def Rg (w : World) (p : Option Addr) (vs : List Value) : Prop := ∀ (i : Nat) (v : Value), vs[i]? = some v → ∃ y, p = some y ∧ y.block < w.heap.size ∧ w.cell? (y.add i) = some v
theorem Ru.rg {w : World} {p : Option Addr} {l : List Int} (h : Ru w p l) : Rg w p (l.map (Value.int .u32)) := fun i v hv => by
  rw [List.getElem?_map] at hv
  cases hx : l[i]? with
  | none => rw [hx] at hv; cases hv
  | some x =>
    rw [hx] at hv
    cases hv
    exact h i x hx
theorem run_append_zero' {P : Program} (w : World) (t ty e : TypeId) (i : TypeInfo) (ht : P.underlying t = some (.slice e)) (hi : P.info? e = some i) (p : Option Addr) (n k : Nat) (hp : p = none → n = 0 ∧ k = 0) (hk : n ≤ k) (a : Option Addr) (c : Nat) :
    (Builtin.append_ #[t, t] ty #[.slice p n k, .slice a 0 c]).run P w = .ok (.slice p n k) w := by
  simp [Builtin.append_, run_underlying ht, Go.sizeOf, typeInfo, hi, Builtin.lenOf, Builtin.firstCells]
  cases a <;> cases p <;> simp_all [Builtin.firstCells, loadCells, loadCellsFrom, storeCells]
theorem own_form {w : World} {B n : Nat} {e : TypeId} {v : Value} {l : List Value} (h : w.ownsRow B e 1 v n l) : ∃ p k, v = .slice p n k ∧ (p = none → n = 0 ∧ k = 0) ∧ n ≤ k := by
  obtain ⟨_, ⟨hv, hn⟩ | ⟨g, cap, cur, hv, hb, hg, hc, hm, hs, ht⟩⟩ := h
  · subst hn
    exact ⟨none, 0, hv, fun _ => ⟨rfl, rfl⟩, Nat.le_refl _⟩
  · exact ⟨_, _, hv, fun h => (by cases h), hc⟩
/-- a row appended to an owned one -/
theorem wpList_appG {w : World} {ops : Array Oper} {rest : List Oper} {o : Oper} {a : Act} {Q : Exit → Act → World → Prop} (hgd : o.guard = none) (s x : Operand) (t : TypeId)
    (ho : o.op = .call { callee := .builtin .append, args := #[s, x], argTypes := #[t, t] })
    (base : Nat) (e : TypeId) (i0 : TypeInfo) (z : Value) (bytes : Nat) (hu : Try.prog.underlying t = some (.slice e)) (hi0 : Try.prog.info? e = some i0) (hz0 : i0.zero = some z) (hz1 : i0.size = 1) (hz2 : i0.bytes = bytes) (hzc : z.cells.size = 1)
    (v : Value) (n0 : Nat) (l0 : List Value) (hs : a.eval s = v) (hown : w.ownsRow base e 1 v n0 l0) (p : Option Addr) (m c : Nat) (l : List Value) (hx : a.eval x = .slice p m c) (hl : l.length = m) (hr : Rg w p l) (h1 : ∀ u ∈ l, u.oneCell' = true)
    (hn : n0 + m ≤ 100000000) (hby : bytes ≤ 100000) (hbase : base ≤ w.heap.size)
    (h : ∀ v' w', w'.ownsRow base e 1 v' (n0 + m) (l0 ++ l) → Below base w w' → w.heap.size ≤ w'.heap.size → wpList Try.prog ops Q rest (a.put o.dst v') w') :
    wpList Try.prog ops Q (o :: rest) a w := by
  rcases Nat.eq_zero_or_pos m with rfl | hpos
  · obtain rfl : l = [] := List.length_eq_zero_iff.1 hl
    obtain ⟨q, k, rfl, h3, h2⟩ := own_form hown
    refine wpList_plain hgd fun _ hK => ?_
    unfold Oper.wp execOp
    simp only [ho, resolve, invoke, builtin, Sem.run_bind, Sem.run_pure, Result.andThen_ok, List.map_toArray, List.map_cons, List.map_nil, hs, hx, run_append_zero' w _ o.type _ i0 hu hi0 q n0 k h3 h2 p c]
    exact hK _ _ (h _ w (by rw [List.append_nil]; exact hown) (Below.refl _ _) (Nat.le_refl _))
  · obtain ⟨y, rfl⟩ : ∃ y, p = some y := by
      obtain ⟨y, hy, -⟩ := hr 0 (l[0]'(by omega)) (List.getElem?_eq_getElem (by omega))
      exact ⟨y, hy⟩
    have hb : (n0 + m) * bytes ≤ 140737488355328 := by
      have := Nat.mul_le_mul hn hby
      omega
    refine wpList_append_own _ hgd s x _ ho base _ i0 _ 1 bytes hu hi0 hz0 hz1 hz2 hzc (by decide) v n0 l0 hs hown y m c l hx (by rw [hl, Nat.mul_one]) (fun j u hj => by obtain ⟨y', hy', _, hc⟩ := hr j u hj; cases hy'; exact hc) h1 (by unfold maxLen; omega) hb hbase ?_
    intro v' w' hown' hgrow _
    exact h v' w' hown' ((Below.refl base w).grown hgrow hbase fun k hk => (hown.lt k hk).1) hgrow.size
theorem Ru.drop {w : World} {p : Option Addr} {l : List Int} (h : Ru w p l) (i : Nat) (y : Addr) (hy : p = some y) : Ru w (some (y.add i)) (l.drop i) := fun j x hx => by
  rw [List.getElem?_drop] at hx
  obtain ⟨y', hy', h1, h2⟩ := h _ x hx
  rw [hy] at hy'
  cases hy'
  refine ⟨_, rfl, by rw [add_block]; exact h1, ?_⟩
  have : (y.add i).add j = y.add (i + j) := by unfold Addr.add; split <;> split <;> split <;> simp_all <;> omega
  rw [this]
  exact h2
theorem Ru.drop2 {w : World} {y : Addr} {l : List Int} (h : Ru w (some y) l) (i cp : Nat) (hl : l.length ≤ cp) : Ru w (if cp = i then some y else some (y.add i)) (l.drop i) := by
  by_cases hc : cp = i
  · rw [List.drop_of_length_le (by omega)]
    exact fun j x hx => by simp at hx
  · rw [if_neg hc]
    exact h.drop i y rfl
theorem one_own (w : World) (u : Value) (e : TypeId) : (w.alloc (.cells #[u] e)).ownsRow w.heap.size e 1 (.slice (some ⟨w.heap.size, 0, none⟩) 1 1) 1 [u] :=
  ⟨rfl, .inr ⟨w.heap.size, 1, #[u], rfl, Nat.le_refl _, one_block w _ _, Nat.le_refl _, by unfold maxLen; omega, rfl, rfl⟩⟩
theorem own_rg {w : World} {B n : Nat} {e : TypeId} {v : Value} {l : List Value} (h : w.ownsRow B e 1 v n l) : ∃ p k, v = .slice p n k ∧ Rg w p l ∧ l.length = n := by
  obtain ⟨h0, ⟨hv, hn⟩ | ⟨g, cap, cur, hv, hb, hg, hc, hm, hs, ht⟩⟩ := h
  · subst hn
    refine ⟨none, 0, hv, fun i u hu => ?_, by omega⟩
    have : l.length = 0 := by omega
    rw [List.length_eq_zero_iff.1 this] at hu
    simp at hu
  · refine ⟨_, cap, hv, fun i u hu => ⟨_, rfl, (Array.getElem?_eq_some_iff.1 hg).1, ?_⟩, by omega⟩
    rw [add2]
    rw [← ht, List.getElem?_take] at hu
    split at hu
    · simpa [World.cell?, hg] using hu
    · cases hu
theorem Rg.below {w w' : World} {p : Option Addr} {vs : List Value} (h : Rg w p vs) (hb : Below w.heap.size w w') : Rg w' p vs := fun i x hx => by
  obtain ⟨y, h0, h1, h2⟩ := h i x hx
  exact ⟨y, h0, Nat.lt_of_lt_of_le h1 hb.size, by rw [hb.cell (by rw [add_block]; exact h1)]; exact h2⟩
theorem u32_one2 (n : Int) (l : List Int) : ∀ u ∈ [Value.int .u32 n] ++ l.map (Value.int .u32), u.oneCell' = true := fun u hu => by
  rcases List.mem_append.1 hu with h | h
  · rw [List.mem_singleton] at h
    subst h
    rfl
  · obtain ⟨x, _, rfl⟩ := List.mem_map.1 h
    rfl
theorem own_lift {w : World} {B C k size : Nat} {e : TypeId} {v : Value} {xs : List Value} (h : w.ownsRow B e size v k xs) (hb : C ≤ B) : w.ownsRow C e size v k xs := by
  obtain ⟨h0, ⟨hv, hn⟩ | ⟨g, cap, cur, hv, hb', hg, hr⟩⟩ := h
  · exact ⟨h0, .inl ⟨hv, hn⟩⟩
  · exact ⟨h0, .inr ⟨g, cap, cur, hv, Nat.le_trans hb hb', hg, hr⟩⟩
theorem u32_one (l : List Int) : ∀ u ∈ l.map (Value.int .u32), u.oneCell' = true := fun u hu => by
  obtain ⟨x, _, rfl⟩ := List.mem_map.1 hu
  rfl
set_option maxRecDepth 100000 in
theorem put_any {w : World} {y : Addr} {m cp i n : Nat} {l : List Nat} (hm : l.length = m) (hr : Ru w (some y) (ints l)) (hi : i ≤ m) (hm2 : m ≤ 1000000) (hcp : m ≤ cp) :
    Calls Try.prog 95 #[.slice (some y) m cp, .int .i64 (i : Int), .int .u32 (n : Int)] w fun e w' => Kl e w' w.heap.size (ints (l.take i ++ n :: l.drop i)) ∧ Below w.heap.size w w' := by
  obtain ⟨i0, hi0, hz0, hz1, hz2⟩ := u_parts
  have c1 : (i : Int) ≤ (m : Int) := by omega
  have c0 : (0 : Int) ≤ (i : Int) := by omega
  have c2 : (m : Int) ≤ (cp : Int) := by omega
  have hln : (ints l).length = m := by rw [ints_len, hm]
  have R1 := Lib.hid ((hr.drop2 i cp (by omega)).below (box_below w #[.int .u32 (n : Int)] 38))
  have R2 := Lib.hid (fun (v : World) (hb : Below w.heap.size w v) => (hr.take i).below hb)
  have O1 := Lib.hid (one_own w (.int .u32 (n : Int)) 38)
  have HLN := Lib.hid hln
  clear hr hln
  go_enter Try.func95, Try.ntmps95
  have HL1 := Lib.hid (show (((ints l).drop i).map (Value.int .u32)).length = m - i from by rw [List.length_map, List.length_drop, HLN.out])
  have HL2 := Lib.hid (show (((ints l).take i).map (Value.int .u32)).length = i from by rw [List.length_map, List.length_take, HLN.out]; omega)
  have B0 := Lib.hid (box_below w #[.int .u32 (n : Int)] 38)
  go_wp2_with (first
    | (at_builtin; refine wpList_appG rfl (.tmp 9) (.tmp 12) 39 rfl w.heap.size 38 i0 (.int .u32 0) 4 Try.underlying39 hi0 hz0 hz1 hz2 rfl _ 1 [.int .u32 (n : Int)] rfl O1.out _ (m - i) (cp - i) _ rfl HL1.out R1.out.rg (u32_one _) (by omega) (by omega) (by simp) ?_; intro v1 w1 o1 b1 s1; obtain ⟨q1, k1, rfl, rg1, len1⟩ := own_rg o1; have B1 := Lib.hid (B0.out.trans b1); have RG1 := Lib.hid rg1; have LEN1 := Lib.hid len1; clear o1 b1 s1 rg1 len1)
    | (at_builtin; refine wpList_appG rfl (.const (.slice none 0 0)) (.tmp 16) 39 rfl w1.heap.size 38 i0 (.int .u32 0) 4 Try.underlying39 hi0 hz0 hz1 hz2 rfl _ 0 [] rfl (World.ownsRow_nil _ _ _ _) _ i cp _ rfl HL2.out (R2.out _ B1.out).rg (u32_one _) (by omega) (by omega) (Nat.le_refl _) ?_; intro v2 w2 o2 b2 s2; rw [Nat.zero_add] at o2; obtain ⟨q2, k2, rfl, _, _⟩ := own_rg o2; have B2 := Lib.hid b2; have O2 := Lib.hid o2; have S2 := Lib.hid s2; clear o2 b2 s2)
    | (at_builtin; refine wpList_appG rfl (.tmp 17) (.tmp 18) 39 rfl w1.heap.size 38 i0 (.int .u32 0) 4 Try.underlying39 hi0 hz0 hz1 hz2 rfl _ _ _ rfl O2.out _ _ k1 _ rfl LEN1.out (RG1.out.below B2.out) (u32_one2 _ _) (by omega) (by omega) S2.out ?_; intro v3 w3 o3 b3 s3; obtain ⟨q3, k3, rfl, _, _⟩ := own_rg o3; have B3 := Lib.hid b3; have O3 := Lib.hid o3; clear o3 b3 s3))
  all_goals (
    go_ret
    have hs1 : w.heap.size ≤ w1.heap.size := B1.out.size
    refine ⟨⟨_, rfl, ?_⟩, tr B1.out (B2.out.trans B3.out)⟩
    have o := own_lift O3.out hs1
    unfold Ks
    have e1 : (ints (l.take i ++ n :: l.drop i)).length = i + (1 + (m - i)) := by rw [ints_len]; simp; omega
    have e2 : (ints (l.take i ++ n :: l.drop i)).map (Value.int .u32) = [] ++ ((ints l).take i).map (Value.int .u32) ++ ([.int .u32 (n : Int)] ++ ((ints l).drop i).map (Value.int .u32)) := by simp [ints, List.map_take, List.map_drop]
    rw [e1, e2]
    exact o)
/-- the reference's lists, with the bounds of their slices -/
def Rf2 (w : World) (p : Option Addr) (Ls : List (List Nat)) : Prop := ∀ (h : Nat) (l : List Nat), Ls[h]? = some l → ∃ y, p = some y ∧ y.block < w.heap.size ∧ ∃ ph ch, w.cell? (y.add h) = some (.slice ph l.length ch) ∧ Ru w ph (ints l) ∧ l.length ≤ ch ∧ (ph = none → ch = 0)
theorem Rf2.rf {w : World} {p : Option Addr} {Ls : List (List Nat)} (h : Rf2 w p Ls) : Rf w p Ls := fun i l hl => by
  obtain ⟨y, h0, h1, ph, ch, h2, h3, -⟩ := h i l hl
  exact ⟨y, h0, h1, ph, ch, h2, h3⟩
theorem Rf2.below {w w' : World} {p : Option Addr} {Ls : List (List Nat)} (h : Rf2 w p Ls) (hb : Below w.heap.size w w') : Rf2 w' p Ls := fun i l hl => by
  obtain ⟨y, h0, h1, ph, ch, h2, h3, h4⟩ := h i l hl
  exact ⟨y, h0, Nat.lt_of_lt_of_le h1 hb.size, ph, ch, by rw [hb.cell (by rw [add_block]; exact h1)]; exact h2, h3.below hb, h4⟩
/-- the reference's lists do not lie in a block -/
def Av (w : World) (p : Option Addr) (Ls : List (List Nat)) (av : Nat) : Prop := ∀ (h : Nat) (l : List Nat), Ls[h]? = some l → ∀ y, p = some y → y.block ≠ av ∧ ∀ ph n ch, w.cell? (y.add h) = some (.slice ph n ch) → l ≠ [] → ∀ z, ph = some z → z.block ≠ av
theorem Rf2.av {w : World} {p : Option Addr} {Ls : List (List Nat)} (R : Rf2 w p Ls) {av : Nat} (h : w.heap.size ≤ av) : Av w p Ls av := fun k l hl y hy => by
  obtain ⟨y', hy', hb, ph', ch', hc, hr, _⟩ := R k l hl
  rw [hy] at hy'
  cases hy'
  refine ⟨by omega, fun ph n ch hc2 hne z hz => ?_⟩
  rw [hc] at hc2
  cases hc2
  cases l with
  | nil => exact absurd rfl hne
  | cons x l =>
    obtain ⟨z', hz', hb', _⟩ := hr 0 _ (ints_at (l := x :: l) (x := x) rfl)
    rw [hz] at hz'
    cases hz'
    omega
theorem Av.below {w w' : World} {p : Option Addr} {Ls : List (List Nat)} {av : Nat} (R : Rf2 w p Ls) (h : Av w p Ls av) (hb : Below w.heap.size w w') : Av w' p Ls av := fun k l hl y hy => by
  obtain ⟨y', hy', hyb, _⟩ := R k l hl
  rw [hy] at hy'
  cases hy'
  have := h k l hl y hy
  refine ⟨this.1, fun ph n ch hc => this.2 ph n ch ?_⟩
  rwa [hb.cell (by rw [add_block]; exact hyb)] at hc
/-- a store into a block that they do not lie in -/
theorem Rf2.put {w w' : World} {p : Option Addr} {Ls : List (List Nat)} {av : Nat} (R : Rf2 w p Ls) (h : Av w p Ls av) (hs : w.heap.size ≤ w'.heap.size) (hw : ∀ b, b < w.heap.size → b ≠ av → w'.heap[b]? = w.heap[b]?) : Rf2 w' p Ls := fun k l hl => by
  obtain ⟨y, hy, hb, ph, ch, hc, hr, hq⟩ := R k l hl
  obtain ⟨a1, a2⟩ := h k l hl y hy
  have cell : ∀ (a : Addr), a.block < w.heap.size → a.block ≠ av → w'.cell? a = w.cell? a := fun a h1 h2 => by
    unfold World.cell?
    rw [hw _ h1 h2]
  refine ⟨y, hy, by omega, ph, ch, by rw [cell _ (by rw [add_block]; exact hb) (by rw [add_block]; exact a1)]; exact hc, fun i x hx => ?_, hq⟩
  obtain ⟨z, hz, hb', hc'⟩ := hr i x hx
  have hne : l ≠ [] := fun h0 => by subst h0; simp [ints] at hx
  exact ⟨z, hz, by omega, by rw [cell _ (by rw [add_block]; exact hb') (by rw [add_block]; exact a2 ph _ ch hc hne z hz)]; exact hc'⟩
set_option maxRecDepth 100000 in
theorem put_nil {w : World} {n : Nat} :
    Calls Try.prog 95 #[.slice none 0 0, .int .i64 0, .int .u32 (n : Int)] w fun e w' => Kl e w' w.heap.size (ints [n]) ∧ Below w.heap.size w w' := by
  obtain ⟨i0, hi0, hz0, hz1, hz2⟩ := u_parts
  have O1 := Lib.hid (one_own w (.int .u32 (n : Int)) 38)
  have B0 := Lib.hid (box_below w #[.int .u32 (n : Int)] 38)
  have NIL := Lib.hid (fun (v : World) => (show Rg v none [] from fun i x hx => by simp at hx))
  go_enter Try.func95, Try.ntmps95
  go_wp2_with (first
    | (at_builtin; refine wpList_appG rfl (.tmp 9) (.tmp 12) 39 rfl w.heap.size 38 i0 (.int .u32 0) 4 Try.underlying39 hi0 hz0 hz1 hz2 rfl _ 1 [.int .u32 (n : Int)] rfl O1.out none 0 0 [] rfl rfl (NIL.out _) (by intro u hu; cases hu) (by omega) (by omega) (by simp) ?_; intro v1 w1 o1 b1 s1; rw [Nat.add_zero, List.append_nil] at o1; obtain ⟨q1, k1, rfl, rg1, len1⟩ := own_rg o1; have B1 := Lib.hid (B0.out.trans b1); have RG1 := Lib.hid rg1; have LEN1 := Lib.hid len1; clear o1 b1 s1 rg1 len1)
    | (at_builtin; refine wpList_appG rfl (.const (.slice none 0 0)) (.tmp 16) 39 rfl w1.heap.size 38 i0 (.int .u32 0) 4 Try.underlying39 hi0 hz0 hz1 hz2 rfl _ 0 [] rfl (World.ownsRow_nil _ _ _ _) none 0 0 [] rfl rfl (NIL.out _) (by intro u hu; cases hu) (by omega) (by omega) (Nat.le_refl _) ?_; intro v2 w2 o2 b2 s2; rw [Nat.zero_add, List.append_nil] at o2; obtain ⟨q2, k2, rfl, _, _⟩ := own_rg o2; have B2 := Lib.hid b2; have O2 := Lib.hid o2; have S2 := Lib.hid s2; clear o2 b2 s2)
    | (at_builtin; refine wpList_appG rfl (.tmp 17) (.tmp 18) 39 rfl w1.heap.size 38 i0 (.int .u32 0) 4 Try.underlying39 hi0 hz0 hz1 hz2 rfl _ 0 [] rfl O2.out _ 1 k1 _ rfl LEN1.out (RG1.out.below B2.out) (by intro u hu; rw [List.mem_singleton] at hu; subst hu; rfl) (by omega) (by omega) S2.out ?_; intro v3 w3 o3 b3 s3; rw [Nat.zero_add, List.nil_append] at o3; obtain ⟨q3, k3, rfl, _, _⟩ := own_rg o3; have B3 := Lib.hid b3; have O3 := Lib.hid o3; clear o3 b3 s3))
  go_ret
  have hs1 : w.heap.size ≤ w1.heap.size := B1.out.size
  exact ⟨⟨_, rfl, own_lift O3.out hs1⟩, tr B1.out (B2.out.trans B3.out)⟩
theorem rf_vals {w : World} {p : Option Addr} {Ls : List (List Nat)} (R : Rf2 w p Ls) : ∃ vs : List Value, vs.length = Ls.length ∧ Rg w p vs ∧ (∀ u ∈ vs, u.oneCell' = true) ∧ ∀ (h : Nat) (l : List Nat), Ls[h]? = some l → ∃ ph ch, vs[h]? = some (.slice ph l.length ch) ∧ Ru w ph (ints l) ∧ l.length ≤ ch ∧ (ph = none → ch = 0) := by
  have key : ∀ n, n ≤ Ls.length → ∃ vs : List Value, vs.length = n ∧ ∀ (h : Nat) (l : List Nat), h < n → Ls[h]? = some l → ∃ y ph ch, p = some y ∧ y.block < w.heap.size ∧ vs[h]? = some (.slice ph l.length ch) ∧ w.cell? (y.add h) = some (.slice ph l.length ch) ∧ Ru w ph (ints l) ∧ l.length ≤ ch ∧ (ph = none → ch = 0) := by
    intro n
    induction n with
    | zero => exact fun _ => ⟨[], rfl, fun h l hh => by omega⟩
    | succ n ih =>
      intro hn
      obtain ⟨vs, h1, h2⟩ := ih (by omega)
      obtain ⟨y, hy, hb, ph, ch, hc, hr⟩ := R n (Ls[n]'(by omega)) (List.getElem?_eq_getElem _)
      refine ⟨vs ++ [.slice ph (Ls[n]'(by omega)).length ch], by simp [h1], fun h l hh hl => ?_⟩
      rcases Nat.lt_or_ge h n with hlt | hge
      · obtain ⟨y', ph', ch', a1, a2, a3, a4, a5⟩ := h2 h l hlt hl
        exact ⟨y', ph', ch', a1, a2, by rw [List.getElem?_append_left (by omega)]; exact a3, a4, a5⟩
      · obtain rfl : h = n := by omega
        obtain ⟨_, hle⟩ := List.getElem?_eq_some_iff.1 hl
        subst hle
        exact ⟨y, ph, ch, hy, hb, by rw [List.getElem?_append_right (by omega)]; simp [h1], hc, hr⟩
  obtain ⟨vs, h1, h2⟩ := key _ (Nat.le_refl _)
  have at_ : ∀ (i : Nat) (v : Value), vs[i]? = some v → ∃ y ph n ch, p = some y ∧ y.block < w.heap.size ∧ v = .slice ph n ch ∧ w.cell? (y.add i) = some v := by
    intro i v hv
    have hi : i < Ls.length := by rw [← h1]; exact (List.getElem?_eq_some_iff.1 hv).1
    obtain ⟨y, ph, ch, a1, a2, a3, a4, _⟩ := h2 i _ hi (List.getElem?_eq_getElem hi)
    rw [a3] at hv
    cases hv
    exact ⟨y, ph, _, ch, a1, a2, rfl, a4⟩
  refine ⟨vs, h1, fun i v hv => ?_, fun u hu => ?_, fun h l hl => ?_⟩
  · obtain ⟨y, _, _, _, a1, a2, _, a4⟩ := at_ i v hv
    exact ⟨y, a1, a2, a4⟩
  · obtain ⟨i, hi⟩ := List.mem_iff_getElem?.1 hu
    obtain ⟨_, _, _, _, _, _, rfl, _⟩ := at_ i u hi
    rfl
  · obtain ⟨_, ph, ch, _, _, a3, _, a5⟩ := h2 h l (List.getElem?_eq_some_iff.1 hl).1 hl
    exact ⟨ph, ch, a3, a5⟩
theorem own_some {w : World} {B n : Nat} {e : TypeId} {v : Value} {l : List Value} (h : w.ownsRow B e 1 v n l) (hn : 0 < n) : ∃ g cap cur, v = .slice (some ⟨g, 0, none⟩) n cap ∧ B ≤ g ∧ g < w.heap.size ∧ w.heap[g]? = some (.cells cur e (0, 0)) ∧ ∀ (k : Nat) (u : Value), l[k]? = some u → cur[k]? = some u := by
  obtain ⟨h0, ⟨hv, hn'⟩ | ⟨g, cap, cur, hv, hb, hg, hc, hm, hs, ht⟩⟩ := h
  · omega
  · refine ⟨g, cap, cur, hv, hb, (Array.getElem?_eq_some_iff.1 hg).1, hg, fun k u hu => ?_⟩
    rw [← ht, List.getElem?_take] at hu
    split at hu
    · simpa using hu
    · cases hu
set_option maxRecDepth 100000 in
theorem with_any {w : World} {p pl : Option Addr} {N H cp cl m h : Nat} {Ls : List (List Nat)} {l : List Nat} (R : Rf2 w p Ls) (hH : Ls.length = H) (hH2 : H ≤ 4096) (hh : h < H) (hm : l.length = m) (hl : Ru w pl (ints l)) (hcl : m ≤ cl) (hpl : pl = none → cl = 0) :
    Calls Try.prog 94 #[fv N p H cp, .int .i64 (h : Int), .slice pl m cl] w fun e w' => (∃ p' cp', e = .returned (fv N p' H cp') ∧ Rf2 w' p' (Ls.set h l) ∧ ∀ av, av < w.heap.size → Av w p Ls av → (l ≠ [] → ∀ z, pl = some z → z.block ≠ av) → Av w' p' (Ls.set h l) av) ∧ Below w.heap.size w w' := by
  obtain ⟨vs, hv1, hv2, hv3, hv4⟩ := rf_vals R
  rw [hH] at hv1
  obtain ⟨y, hpy⟩ : ∃ y, p = some y := by
    obtain ⟨y, h, -⟩ := R h (Ls[h]'(by omega)) (List.getElem?_eq_getElem _)
    exact ⟨y, h⟩
  subst hpy
  obtain ⟨i0, hi0, hz0, hz1, hz2⟩ := sl_parts
  have c1 : (h : Int) < (H : Int) := by omega
  have c0 : (0 : Int) ≤ (h : Int) := by omega
  unfold fv
  have B0 := Lib.hid (show Below w.heap.size w ((w.alloc (.cells #[.int .i64 (N : Int), .slice (some y) H cp] 24)).alloc (.cells #[.int .i64 0, .slice none 0 0] 24)) from by go_grown)
  have RG := Lib.hid (hv2.below B0.out)
  have HV1 := Lib.hid hv1
  have HV3 := Lib.hid hv3
  have hx : ((w.alloc (.cells #[.int .i64 (N : Int), .slice (some y) H cp] 24)).alloc (.cells #[.int .i64 0, .slice none 0 0] 24)).heap[w.heap.size]? = some (.cells #[.int .i64 (N : Int), .slice (some y) H cp] 24 (0, 0)) := (Below.heap_alloc _ _ w.heap.size (by simp)).trans (MapKept.heap_alloc w (Obj.cells #[.int .i64 (N : Int), .slice (some y) H cp] 24)).1
  have hx2 : ((w.alloc (.cells #[.int .i64 (N : Int), .slice (some y) H cp] 24)).alloc (.cells #[.int .i64 0, .slice none 0 0] 24)).heap[w.heap.size + 1]? = some (.cells #[.int .i64 0, .slice none 0 0] 24 (0, 0)) := by
    have := (MapKept.heap_alloc (w.alloc (.cells #[.int .i64 (N : Int), .slice (some y) H cp] 24)) (.cells #[.int .i64 0, .slice none 0 0] 24)).1
    simpa using this
  have hsz : ((w.alloc (.cells #[.int .i64 (N : Int), .slice (some y) H cp] 24)).alloc (.cells #[.int .i64 0, .slice none 0 0] 24)).heap.size = w.heap.size + 2 := by simp
  have HX := Lib.hid hx
  have HX2 := Lib.hid hx2
  have HSZ := Lib.hid hsz
  have HLR := Lib.hid hl
  have HRG := Lib.hid hv2
  have HV4 := Lib.hid hv4
  have HHL := Lib.hid hH
  clear R hl hv1 hv2 hv3 hv4 hx hx2 hsz hH
  go_enter Try.func94, Try.ntmps94
  go_wp2_with (
      at_builtin
      refine wpList_appG rfl (.const (.slice none 0 0)) (.tmp 9) 22 rfl (w.heap.size + 2) 39 i0 (.slice none 0 0) 24 Try.underlying22 hi0 hz0 hz1 hz2 rfl _ 0 [] rfl (World.ownsRow_nil _ _ _ _) _ H cp vs rfl HV1.out RG.out HV3.out (by omega) (by omega) (by have := HSZ.out; omega) ?_
      intro v1 w1 o1 b1 s1
      rw [Nat.zero_add, List.nil_append] at o1
      obtain ⟨g, k1, cur, rfl, hg1, hg2, hg3, hg4⟩ := own_some o1 (by omega)
      have hx1 := (b1.block w.heap.size (by omega)).trans HX.out
      have hx2 := (b1.block (w.heap.size + 1) (by omega)).trans HX2.out
      have x0 := (two_of hx1).1
      have x1 := (two_of hx1).2
      have x2 := (two_of hx2).1
      have x3 := (two_of hx2).2
      have f2 : w1.frozen? ⟨w.heap.size + 1, 0, none⟩ = false := by simp [World.frozen?, hx2]
      have f3 : w1.frozen? ⟨w.heap.size + 1, 1, none⟩ = false := by simp [World.frozen?, hx2]
      have fg : w1.frozen? ⟨g, h, none⟩ = false := by simp [World.frozen?, hg3]
      obtain ⟨u0, hu0⟩ : ∃ u0, vs[h]? = some u0 := ⟨vs[h]'(by have := HV1.out; omega), List.getElem?_eq_getElem _⟩
      have xg : w1.cell? ⟨g, h, none⟩ = some u0 := by have := hg4 h u0 hu0; simp [World.cell?, hg3, this]
      have ne1 : ¬ w.heap.size = g := by omega
      have ne2 : ¬ g = w.heap.size := by omega
      have ne3 : ¬ w.heap.size + 1 = g := by omega
      have ne4 : ¬ g = w.heap.size + 1 := by omega
      have HG3 := Lib.hid hg3
      have HG4 := Lib.hid hg4
      have HB1 := Lib.hid b1
      have HXA := Lib.hid hx1
      have HXB := Lib.hid hx2
      clear o1 b1 hg3 hg4 hx1 hx2 hu0)
  have hw1 : Below w.heap.size w w1 := B0.out.trans (HB1.out.mono (by omega))
  have a1 := (Below.heap_setCell w1 ⟨g, h, none⟩ (.slice pl m cl) (w.heap.size + 1) (by show w.heap.size + 1 ≠ g; omega)).trans HXB.out
  have a2 := heap_set (j := 0) a1 (.int .i64 (N : Int))
  have a3 := heap_set (j := 1) a2 (.slice (some ⟨g, 0, none⟩) H k1)
  obtain ⟨f0, f1⟩ := two_of a3
  have b1 := heap_set (j := h) HG3.out (.slice pl m cl)
  have b2 := (Below.heap_setCell (w1.setCell ⟨g, h, none⟩ (.slice pl m cl)) ⟨w.heap.size + 1, 0, none⟩ (.int .i64 (N : Int)) g (by show g ≠ w.heap.size + 1; omega)).trans b1
  have b3 := (Below.heap_setCell ((w1.setCell ⟨g, h, none⟩ (.slice pl m cl)).setCell ⟨w.heap.size + 1, 0, none⟩ (.int .i64 (N : Int))) ⟨w.heap.size + 1, 1, none⟩ (.slice (some ⟨g, 0, none⟩) H k1) g (by show g ≠ w.heap.size + 1; omega)).trans b2
  have hb : Below w.heap.size w (((w1.setCell ⟨g, h, none⟩ (.slice pl m cl)).setCell ⟨w.heap.size + 1, 0, none⟩ (.int .i64 (N : Int))).setCell ⟨w.heap.size + 1, 1, none⟩ (.slice (some ⟨g, 0, none⟩) H k1)) :=
    ((hw1.setCell (p := ⟨g, h, none⟩) (by show w.heap.size ≤ g; omega) _).setCell (p := ⟨w.heap.size + 1, 0, none⟩) (Nat.le_succ _) _).setCell (p := ⟨w.heap.size + 1, 1, none⟩) (Nat.le_succ _) _
  have hg9 : g < (((w1.setCell ⟨g, h, none⟩ (.slice pl m cl)).setCell ⟨w.heap.size + 1, 0, none⟩ (.int .i64 (N : Int))).setCell ⟨w.heap.size + 1, 1, none⟩ (.slice (some ⟨g, 0, none⟩) H k1)).heap.size := (Array.getElem?_eq_some_iff.1 b3).1
  refine bodyPost_ret (v := .agg #[.int .i64 (N : Int), .slice (some ⟨g, 0, none⟩) H k1]) (by simp [results, Try.results94, go_sem, f0, f1]) rfl ?_
  refine ⟨⟨some ⟨g, 0, none⟩, k1, rfl, fun k l' hk => ⟨_, rfl, hg9, ?_⟩, fun av hav hA hpz k l' hk y' hy' => ?_⟩, hb⟩
  case refine_2 =>
    cases hy'
    refine ⟨by show g ≠ av; omega, fun ph n ch hc hne z hz => ?_⟩
    rw [add2] at hc
    by_cases hkh : k = h
    · subst hkh
      rw [List.getElem?_set_self (by rw [HHL.out]; exact hh)] at hk
      cases hk
      have : cur.size > k := (Array.getElem?_eq_some_iff.1 (HG4.out k (vs[k]'(by have := HV1.out; omega)) (List.getElem?_eq_getElem _))).1
      simp [World.cell?, b3, this] at hc
      exact hpz hne z (by rw [hc.1]; exact hz)
    · rw [List.getElem?_set_ne (by omega)] at hk
      obtain ⟨ph', ch', q1, q2, q3⟩ := HV4.out k l' hk
      have h4 := HG4.out k _ q1
      have hc' : w.cell? (y.add k) = some (.slice ph' l'.length ch') := by
        obtain ⟨y9, hy9, _, hc9⟩ := HRG.out k _ q1
        cases hy9
        exact hc9
      have h5 : (cur.setIfInBounds h (.slice pl m cl))[k]? = some (.slice ph' l'.length ch') := by rw [Array.getElem?_setIfInBounds, if_neg (by omega)]; exact h4
      simp [World.cell?, b3, h5] at hc
      exact (hA k l' hk y rfl).2 ph' _ ch' hc' hne z (by rw [hc.1]; exact hz)
  by_cases hkh : k = h
  · subst hkh
    rw [List.getElem?_set_self (by rw [HHL.out]; exact hh)] at hk
    cases hk
    refine ⟨pl, cl, ?_, HLR.out.below hb, by omega, hpl⟩
    rw [add2, hm]
    have : cur.size > k := (Array.getElem?_eq_some_iff.1 (HG4.out k (vs[k]'(by have := HV1.out; omega)) (List.getElem?_eq_getElem _))).1
    simp [World.cell?, b3, this]
  · rw [List.getElem?_set_ne (by omega)] at hk
    obtain ⟨ph, ch, q1, q2, q3⟩ := HV4.out k l' hk
    refine ⟨ph, ch, ?_, q2.below hb, q3⟩
    rw [add2]
    have := HG4.out k _ q1
    simp [World.cell?, b3, Array.getElem?_setIfInBounds, this]
    omega
end Go.Proofs.Ytjcabdnjimcdgaa.Lnk
