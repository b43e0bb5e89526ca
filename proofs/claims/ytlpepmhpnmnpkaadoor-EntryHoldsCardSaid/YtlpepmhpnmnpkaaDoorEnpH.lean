/-
  Entries (layer 4): the reference's Parse.
-/
import Derived.Test.YtlpepmhpnmnpkaaDoorEnpG
set_option linter.unusedVariables false
set_option linter.unusedSimpArgs false
namespace Go.Proofs.YtlpepmhpnmnpkaaDoor.Ent
open Go Go.RowKit Kit
theorem rbytes2 (s : List UInt8) (hl : s.length ≤ 1000) (W : World) :
    Calls Tryd.prog 52 #[.string (str s)] W fun e w' => ∃ p c, e = .returned (.tuple #[.slice p ((rdr s).getD []).length c, .bool (rdr s).isSome]) ∧ Ev.BytesOf w' p ((rdr s).getD []).length ((rdr s).getD []) ∧ (∀ a, p = some a → W.heap.size ≤ a.block) ∧ Below W.heap.size W w' := by
  refine (rbytes_any s hl W).mono ?_
  rintro e w1 ⟨h1, h2⟩
  cases hr : rdr s with
  | none =>
    rw [hr] at h1
    exact ⟨none, 0, h1, BytesOf.nothing w1, fun a h => (by cases h), h2⟩
  | some zs =>
    rw [hr] at h1
    obtain ⟨v, rfl, ho⟩ := h1
    have hz : (∀ n ∈ zs, 0 ≤ n ∧ n < 256) := (rdr_spec hr).2
    have hll : zs.length ≤ 100000 := by
      unfold rdr at hr
      split at hr
      · cases hr; simp
      · split at hr
        · cases hr
        · have := unhex_len hr; omega
    obtain ⟨p, c, rfl, hb, hf⟩ := own_bytes ho rfl hz (by unfold maxLen; omega)
    exact ⟨p, c, rfl, hb, fun a h => (hf a h).1, h2⟩
set_option maxRecDepth 100000 in
theorem rvalidE_any (k : ByteArray) (p : Option Addr) (l c : Nat) (d b : Int) (w : World) :
    Calls Tryd.prog 53 #[ent k p l c d b] w fun e w' => e = .returned (.bool (decide (chk k l b = 0))) ∧ Below w.heap.size w w' := by
  have HC := Lib.hid (rcheck_any k p l c b)
  generalize chk k l b = r at HC
  go_enter Tryd.func53, Tryd.ntmps53
  go_wp2_with fail
  refine (HC.out _).mono ?_
  rintro e w1 ⟨rfl, b1⟩
  go_wp2_with fail
  go_ret
  refine ⟨ret_bool ?_, tr (by go_grown) b1⟩
  first | rfl | (rw [Bool.eq_iff_iff]; simp)
/-- a variable that holds an entry -/
def BoxE (w : World) (q : Nat) (k : ByteArray) (p : Option Addr) (l c : Nat) (d b : Int) : Prop := w.heap[q]? = some (.cells #[.string k, .slice p l c, .int .u64 d, .int .u64 b] 33 (0, 0))
theorem BoxE.is {w : World} {q : Nat} {k : ByteArray} {p : Option Addr} {l c : Nat} {d b : Int} (h : BoxE w q k p l c d b) : w.heap[q]? = some (.cells #[.string k, .slice p l c, .int .u64 d, .int .u64 b] 33 (0, 0)) := h
theorem BoxE.all {w : World} {q : Nat} {k : ByteArray} {p : Option Addr} {l c : Nat} {d b : Int} (h : BoxE w q k p l c d b) : w.cell? ⟨q, 0, none⟩ = some (.string k) ∧ w.cell? ⟨q, 1, none⟩ = some (.slice p l c) ∧ w.cell? ⟨q, 2, none⟩ = some (.int .u64 d) ∧ w.cell? ⟨q, 3, none⟩ = some (.int .u64 b) ∧ ∀ j, w.frozen? ⟨q, j, none⟩ = false := by
  have h := h.is
  refine ⟨?_, ?_, ?_, ?_, fun j => ?_⟩ <;> simp [World.cell?, World.frozen?, h]
theorem BoxE.lt {w : World} {q : Nat} {k : ByteArray} {p : Option Addr} {l c : Nat} {d b : Int} (h : BoxE w q k p l c d b) : q < w.heap.size := (Array.getElem?_eq_some_iff.1 h.is).1
theorem BoxE.below {w w' : World} {q : Nat} {k : ByteArray} {p : Option Addr} {l c : Nat} {d b : Int} (h : BoxE w q k p l c d b) (hb : Below w.heap.size w w') : BoxE w' q k p l c d b := by
  unfold BoxE
  exact (hb.block q (BoxE.lt h)).trans h.is
theorem BoxE.new (w : World) (k : ByteArray) (p : Option Addr) (l c : Nat) (d b : Int) : BoxE (w.alloc (.cells #[.string k, .slice p l c, .int .u64 d, .int .u64 b] 33)) w.heap.size k p l c d b := by
  unfold BoxE
  exact (MapKept.heap_alloc w _).1
theorem heap_set {W : World} {q j : Nat} {cs : Array Value} {t : TypeId} (hh : W.heap[q]? = some (.cells cs t (0, 0))) (u : Value) : (W.setCell ⟨q, j, none⟩ u).heap[q]? = some (.cells (cs.setIfInBounds j u) t (0, 0)) := by
  obtain ⟨hlt, hk⟩ := Array.getElem?_eq_some_iff.1 hh
  show (W.heap.modify q _)[q]? = _
  rw [Array.getElem?_eq_getElem (by rw [Array.size_modify]; exact hlt), Array.getElem_modify_self, hk]
  simp
theorem BoxE.set4 {w : World} {q : Nat} {k k' : ByteArray} {p p' : Option Addr} {l c l' c' : Nat} {d b d' b' : Int} (h : BoxE w q k p l c d b) : BoxE ((((w.setCell ⟨q, 0, none⟩ (.string k')).setCell ⟨q, 1, none⟩ (.slice p' l' c')).setCell ⟨q, 2, none⟩ (.int .u64 d')).setCell ⟨q, 3, none⟩ (.int .u64 b')) q k' p' l' c' d' b' := by
  have h1 := heap_set (j := 3) (heap_set (j := 2) (heap_set (j := 1) (heap_set (j := 0) h.is (.string k')) (.slice p' l' c')) (.int .u64 d')) (.int .u64 b')
  unfold BoxE
  simpa using h1
theorem load_ent {w : World} {q : Nat} {k : ByteArray} {p : Option Addr} {l c : Nat} {d b : Int} (h : BoxE w q k p l c d b) : (loadVar 33 ⟨q, 0, none⟩).run Tryd.prog w = .ok (ent k p l c d b) w := by
  obtain ⟨c0, c1, c2, c3, -⟩ := BoxE.all h
  simp [go_sem, c0, c1, c2, c3]
theorem results_ent {fn : Func} {t u : Tmp} (h : fn.results = #[.cell t 33, .tmp u]) (tmps : Array Value) {w : World} {q : Nat} {k : ByteArray} {p : Option Addr} {l c : Nat} {d b : Int} {r : Value} (hq : tmps.getD t undef = .pointer (some ⟨q, 0, none⟩)) (hu : tmps.getD u undef = r) (hc : BoxE w q k p l c d b) :
    (results fn tmps).run Tryd.prog w = .ok (.tuple #[ent k p l c d b, r]) w := by
  have hl := load_ent hc
  generalize ent k p l c d b = V at *
  unfold results
  rw [h]
  rw [Array.getD_eq_getD_getElem?] at hq hu
  simp [hq, hu, hl, asAddr]
theorem ret_ent {fn : Func} {t u : Tmp} (h : fn.results = #[.cell t 33, .tmp u]) {a : Act} {w : World} {R : Ending → World → Prop} {q : Nat} {k : ByteArray} {p : Option Addr} {l c : Nat} {d b : Int} {r : Value} (hq : a.tmps.getD t undef = .pointer (some ⟨q, 0, none⟩)) (hu : a.tmps.getD u undef = r) (hc : BoxE w q k p l c d b) (hd' : a.defers = [])
    (hR : R (.returned (.tuple #[ent k p l c d b, r])) w) : bodyPost Tryd.prog fn R .ret a w :=
  bodyPost_ret (results_ent h _ hq hu hc) hd' hR
/-- four stores into a variable at or past B -/
theorem set4_below {W w : World} {q : Nat} {x y z u : Value} (h : Below W.heap.size W w) (hq : W.heap.size ≤ q) : Below W.heap.size W ((((w.setCell ⟨q, 0, none⟩ x).setCell ⟨q, 1, none⟩ y).setCell ⟨q, 2, none⟩ z).setCell ⟨q, 3, none⟩ u) :=
  (((h.setCell (p := ⟨q, 0, none⟩) hq _).setCell (p := ⟨q, 1, none⟩) hq _).setCell (p := ⟨q, 2, none⟩) hq _).setCell (p := ⟨q, 3, none⟩) hq _
theorem set4_bytes {w : World} {q : Nat} {x y z u : Value} {p : Option Addr} {l : Nat} {zs : List Int} (h : Ev.BytesOf w p l zs) (hne : ∀ a, p = some a → a.block ≠ q) : Ev.BytesOf ((((w.setCell ⟨q, 0, none⟩ x).setCell ⟨q, 1, none⟩ y).setCell ⟨q, 2, none⟩ z).setCell ⟨q, 3, none⟩ u) p l zs :=
  (((h.set hne).set hne).set hne).set hne
def rpR (W w' : World) (e : Ending) : Option En → Prop
  | some x => ∃ p c, e = .returned (.tuple #[ent x.k p x.zs.length c x.d x.b, .bool true]) ∧ Ev.BytesOf w' p x.zs.length x.zs ∧ ∀ a, p = some a → W.heap.size ≤ a.block
  | none => e = .returned (.tuple #[ent0, .bool false])
set_option maxRecDepth 100000 in
set_option maxHeartbeats 4000000 in
theorem rparse4_any (s : List UInt8) (hl : s.length ≤ 1000) (W : World) :
    Calls Tryd.prog 27 #[.string (str s)] W fun e w' => rpR W w' e (rparse s) ∧ Below W.heap.size W w' := by
  have HSP := Lib.hid (fun w => rsplit_any s hl w)
  have hjl := joinS_fold s [[]] (by simp)
  have hwp := (words_len s [[]] (by simp)).1
  go_enter Tryd.func27, Tryd.ntmps27
  go_wp2_with fail
  refine (HSP.out _).mono ?_
  rintro e w1 ⟨v, rfl, hws, b1⟩
  have bW : Below W.heap.size W (W.alloc (.cells #[.string ⟨#[]⟩, .slice none 0 0, .int .u64 0, .int .u64 0] 33)) := by go_grown
  have RB1 : BoxE w1 W.heap.size ⟨#[]⟩ none 0 0 0 0 := (BoxE.new W ⟨#[]⟩ none 0 0 0 0).below b1
  have B1 := tr bW b1
  have hs1 := b1.size
  simp only [World.size_alloc] at hs1
  have HRP := Lib.hid (show rparse s = match wordsOf s with
    | [a0, a1, a2, a3] =>
      if (birthOf a0).2 = true ∧ (Num.rpres (str a1)).2 = true ∧ (rdr a2).isSome = true ∧ (rdr a3).isSome = true ∧ chk (strOfNums ((rdr a2).getD [])) ((rdr a3).getD []).length (birthOf a0).1 = 0 then
        some ⟨strOfNums ((rdr a2).getD []), (rdr a3).getD [], (Num.rpres (str a1)).1, (birthOf a0).1⟩ else none
    | _ => none from rfl)
  unfold Ws at hws
  rw [show s.foldl spl [[]] = wordsOf s from rfl] at hjl hwp
  generalize wordsOf s = L at *
  rcases own_cases hws with ⟨rfl, rfl⟩ | ⟨g, cap, rfl, hbg, hg, -, -, hc⟩
  · simp at hwp
  by_cases h4 : L.length = 4
  · obtain ⟨a0, a1, a2, a3, rfl⟩ : ∃ a0 a1 a2 a3, L = [a0, a1, a2, a3] := by
      match L, h4 with
      | [a0, a1, a2, a3], _ => exact ⟨a0, a1, a2, a3, rfl⟩
    replace HRP := Lib.hid (show rparse s = if (birthOf a0).2 = true ∧ (Num.rpres (str a1)).2 = true ∧ (rdr a2).isSome = true ∧ (rdr a3).isSome = true ∧ chk (strOfNums ((rdr a2).getD [])) ((rdr a3).getD []).length (birthOf a0).1 = 0 then some ⟨strOfNums ((rdr a2).getD []), (rdr a3).getD [], (Num.rpres (str a1)).1, (birthOf a0).1⟩ else none from HRP.out)
    have hlj := congrArg List.length hjl
    simp [joinS] at hlj
    have c0 : w1.cell? ⟨g, 0, none⟩ = some (.string (str a0)) := hc 0 (by simp)
    have c1 : w1.cell? ⟨g, 1, none⟩ = some (.string (str a1)) := hc 1 (by simp)
    have c2 : w1.cell? ⟨g, 2, none⟩ = some (.string (str a2)) := hc 2 (by simp)
    have c3 : w1.cell? ⟨g, 3, none⟩ = some (.string (str a3)) := hc 3 (by simp)
    have HP0 := Lib.hid (fun w => Num.rparse_any (str a0) (by rw [str_size]; omega) w)
    have HP1 := Lib.hid (fun w => Num.rparse_any (str a1) (by rw [str_size]; omega) w)
    have HB2 := Lib.hid (fun w => rbytes2 a2 (by omega) w)
    have HB3 := Lib.hid (fun w => rbytes2 a3 (by omega) w)
    have hR0 := rpres_spec (str a0)
    have hR1 := rpres_spec (str a1)
    have hq1 : ((str a0).toList == maxL) = decide (a0 = maxL) := beq_str a0 maxL
    have hq2 : ((str a0).toList == neverL) = decide (a0 = neverL) := beq_str a0 neverL
    have HBO := Lib.hid (show birthOf a0 = if a0 = maxL then (18446744073709551615, true) else if a0 = neverL then ((Num.rpres (str a0)).1, false) else Num.rpres (str a0) from rfl)
    obtain ⟨b0, f0, hx0⟩ : ∃ b f, Num.rpres (str a0) = (b, f) := ⟨_, _, rfl⟩
    obtain ⟨d1, f1, hx1⟩ : ∃ b f, Num.rpres (str a1) = (b, f) := ⟨_, _, rfl⟩
    rw [hx0] at hR0 HP0 HBO
    rw [hx1] at hR1 HP1 HRP
    simp only at hR0 hR1 HP0 HP1 HBO HRP
    generalize birthOf a0 = BO at *
    generalize (rdr a2).isSome = f2 at *
    generalize (rdr a3).isSome = f3 at *
    generalize (rdr a2).getD [] = z2 at *
    generalize (rdr a3).getD [] = z3 at *
    have wb0 : IntKind.u64.wrap b0 = b0 := IntWalk.u64_in b0 (by omega)
    have RB1' := Lib.hid RB1
    have B1' := Lib.hid B1
    clear hjl hws hc hlj hx0 hx1 hR0 RB1 B1 b1 bW
    have hm : (∃ bx, BO = (bx, false) ∧ ((a0 = maxL ∧ False) ∨ (¬ a0 = maxL ∧ a0 = neverL ∧ bx = b0) ∨ (¬ a0 = maxL ∧ ¬ a0 = neverL ∧ bx = b0 ∧ f0 = false))) ∨ (∃ bx, BO = (bx, true) ∧ ((a0 = maxL ∧ bx = 18446744073709551615) ∨ (¬ a0 = maxL ∧ ¬ a0 = neverL ∧ bx = b0 ∧ f0 = true))) := by
      have hBO := HBO.out
      by_cases e1 : a0 = maxL
      · rw [if_pos e1] at hBO
        exact .inr ⟨_, hBO, .inl ⟨e1, rfl⟩⟩
      · rw [if_neg e1] at hBO
        by_cases e2 : a0 = neverL
        · rw [if_pos e2] at hBO
          exact .inl ⟨_, hBO, .inr (.inl ⟨e1, e2, rfl⟩)⟩
        · rw [if_neg e2] at hBO
          cases f0 with
          | true => exact .inr ⟨_, hBO, .inr ⟨e1, e2, rfl, rfl⟩⟩
          | false => exact .inl ⟨_, hBO, .inr (.inr ⟨e1, e2, rfl, rfl⟩)⟩
    clear HBO
    go_wp2_with fail
    refine (HP0.out _).mono ?_
    rintro e w2 ⟨rfl, rfl⟩
    rcases hm with ⟨bx, rfl, hm⟩ | ⟨bx, rfl, hm⟩
    · have HN := Lib.hid (show rparse s = none from by rw [HRP.out]; simp)
      rcases hm with ⟨e1, hf⟩ | ⟨e1, e2, rfl⟩ | ⟨e1, e2, rfl, rfl⟩
      · exact absurd hf id
      all_goals
        have hq3 : ((str a0).toList == [49, 56, 52, 52, 54, 55, 52, 52, 48, 55, 51, 55, 48, 57, 53, 53, 49, 54, 49, 53]) = false := hq1.trans (decide_eq_false e1)
        first
          | have hq4 : ((str a0).toList == [110, 101, 118, 101, 114]) = true := hq2.trans (decide_eq_true e2)
          | have hq4 : ((str a0).toList == [110, 101, 118, 101, 114]) = false := hq2.trans (decide_eq_false e2)
        clear e1 e2 hq1 hq2
        go_wp2_with fail
        refine (HP1.out _).mono ?_
        rintro e w3 ⟨rfl, rfl⟩
        go_wp2_with fail
        refine (HB2.out _).mono ?_
        rintro e w4 ⟨p4, k4, rfl, by4, fr4, b4⟩
        have c3' : w4.cell? ⟨g, 3, none⟩ = some (.string (str a3)) := (b4.cell (p := ⟨g, 3, none⟩) hg).trans c3
        have RB4 := Lib.hid (BoxE.below RB1'.out b4)
        have B4 := Lib.hid (tr B1'.out b4)
        have BY4 := Lib.hid by4
        have hs4 := b4.size
        clear c0 c1 c2 c3 b4 by4
        go_wp2_with fail
        refine (HB3.out _).mono ?_
        rintro e w5 ⟨p5, k5, rfl, by5, fr5, b5⟩
        have RB5 := Lib.hid (BoxE.below RB4.out b5)
        have B5 := Lib.hid (tr B4.out b5)
        have BY5 := Lib.hid by5
        have hcv := (BY4.out.below b5).str (P := Tryd.prog) k4 (src := 31) (e := 5) (dst := 9) Tryd.underlying31 (by kernel_rfl) Tryd.underlying9
        have hs5 := b5.size
        clear c3' b5 by5
        obtain ⟨r0, r1, r2, r3, rf⟩ := BoxE.all RB5.out
        have hrl : W.heap.size < w5.heap.size := by omega
        go_wp2_with fail
        refine ret_ent rfl rfl rfl (BoxE.below (BoxE.set4 RB5.out) (by go_grown)) rfl ?_
        exact ⟨by rw [HN.out]; rfl, tr (set4_below B5.out (Nat.le_refl _)) (by go_grown)⟩
    · have HN := Lib.hid (show rparse s = if f1 = true ∧ f2 = true ∧ f3 = true ∧ chk (strOfNums z2) z3.length bx = 0 then some ⟨strOfNums z2, z3, d1, bx⟩ else none from by rw [HRP.out]; simp)
      rcases hm with ⟨e1, rfl⟩ | ⟨e1, e2, rfl, rfl⟩
      · have hq3 : ((str a0).toList == [49, 56, 52, 52, 54, 55, 52, 52, 48, 55, 51, 55, 48, 57, 53, 53, 49, 54, 49, 53]) = true := hq1.trans (decide_eq_true e1)
        clear e1 hq1 hq2
        as_aux_lemma =>
          go_wp2_with fail
          refine (HP1.out _).mono ?_
          rintro e w3 ⟨rfl, rfl⟩
          go_wp2_with fail
          refine (HB2.out _).mono ?_
          rintro e w4 ⟨p4, k4, rfl, by4, fr4, b4⟩
          have c3' : w4.cell? ⟨g, 3, none⟩ = some (.string (str a3)) := (b4.cell (p := ⟨g, 3, none⟩) hg).trans c3
          have RB4 := Lib.hid (BoxE.below RB1'.out b4)
          have B4 := Lib.hid (tr B1'.out b4)
          have BY4 := Lib.hid by4
          have hs4 := b4.size
          clear c0 c1 c2 c3 b4 by4
          go_wp2_with fail
          refine (HB3.out _).mono ?_
          rintro e w5 ⟨p5, k5, rfl, by5, fr5, b5⟩
          have RB5 := Lib.hid (BoxE.below RB4.out b5)
          have B5 := Lib.hid (tr B4.out b5)
          have BY5 := Lib.hid by5
          have hcv := (BY4.out.below b5).str (P := Tryd.prog) k4 (src := 31) (e := 5) (dst := 9) Tryd.underlying31 (by kernel_rfl) Tryd.underlying9
          have hs5 := b5.size
          clear c3' b5 by5
          have hcs : (f1 = false ∧ True) ∨ (f1 = true ∧ f2 = false) ∨ (f1 = true ∧ f2 = true ∧ f3 = false) ∨ (f1 = true ∧ f2 = true ∧ f3 = true) := by
            cases f1 <;> cases f2 <;> cases f3 <;> simp
          rcases hcs with ⟨rfl, -⟩ | ⟨rfl, rfl⟩ | ⟨rfl, rfl, rfl⟩ | ⟨rfl, rfl, rfl⟩
          · replace HN := Lib.hid (show rparse s = none from by rw [HN.out]; simp)
            obtain ⟨r0, r1, r2, r3, rf⟩ := BoxE.all RB5.out
            have hrl : W.heap.size < w5.heap.size := by omega
            go_wp2_with fail
            refine ret_ent rfl rfl rfl (BoxE.below (BoxE.set4 RB5.out) (by go_grown)) rfl ?_
            exact ⟨by rw [HN.out]; rfl, tr (set4_below B5.out (Nat.le_refl _)) (by go_grown)⟩
          · replace HN := Lib.hid (show rparse s = none from by rw [HN.out]; simp)
            obtain ⟨r0, r1, r2, r3, rf⟩ := BoxE.all RB5.out
            have hrl : W.heap.size < w5.heap.size := by omega
            go_wp2_with fail
            refine ret_ent rfl rfl rfl (BoxE.below (BoxE.set4 RB5.out) (by go_grown)) rfl ?_
            exact ⟨by rw [HN.out]; rfl, tr (set4_below B5.out (Nat.le_refl _)) (by go_grown)⟩
          · replace HN := Lib.hid (show rparse s = none from by rw [HN.out]; simp)
            obtain ⟨r0, r1, r2, r3, rf⟩ := BoxE.all RB5.out
            have hrl : W.heap.size < w5.heap.size := by omega
            go_wp2_with fail
            refine ret_ent rfl rfl rfl (BoxE.below (BoxE.set4 RB5.out) (by go_grown)) rfl ?_
            exact ⟨by rw [HN.out]; rfl, tr (set4_below B5.out (Nat.le_refl _)) (by go_grown)⟩
          · have HVE := Lib.hid (fun w => rvalidE_any (strOfNums z2) p5 z3.length k5 d1 18446744073709551615 w)
            obtain ⟨r0, r1, r2, r3, rf⟩ := BoxE.all RB5.out
            have hrl : W.heap.size < w5.heap.size := by omega
            by_cases hch : chk (strOfNums z2) z3.length 18446744073709551615 = 0
            · replace HN := Lib.hid (show rparse s = some ⟨strOfNums z2, z3, d1, 18446744073709551615⟩ from by rw [HN.out]; simp [hch])
              rw [decide_eq_true hch] at HVE
              clear hch
              go_wp2_with fail
              refine (HVE.out _).mono ?_
              rintro e w6 ⟨rfl, b6⟩
              have EB6 := BoxE.all ((BoxE.new w5 (strOfNums z2) p5 z3.length k5 d1 18446744073709551615).below b6)
              have b56 : Below w5.heap.size w5 (w5.alloc (.cells #[.string (strOfNums z2), .slice p5 z3.length k5, .int .u64 d1, .int .u64 18446744073709551615] 33)) := by go_grown
              have RB6 := Lib.hid (BoxE.below (BoxE.below RB5.out b56) b6)
              have BY6 := Lib.hid ((BY5.out.below b56).below b6)
              have B6 := Lib.hid (tr (tr B5.out b56) b6)
              have hs6 := b6.size
              simp only [World.size_alloc] at hs6
              clear b6 b56 r0 r1 r2 r3 rf
              obtain ⟨r0, r1, r2, r3, rf⟩ := BoxE.all RB6.out
              obtain ⟨e0, e1', e2', e3, ef⟩ := EB6
              go_wp2_with fail
              refine ret_ent rfl rfl rfl (BoxE.set4 RB6.out) rfl ?_
              rw [HN.out]
              exact ⟨⟨p5, k5, rfl, set4_bytes BY6.out (fun a h => by have := fr5 a h; omega), fun a h => by have := fr5 a h; omega⟩, set4_below B6.out (Nat.le_refl _)⟩
            · replace HN := Lib.hid (show rparse s = none from by rw [HN.out]; simp [hch])
              rw [decide_eq_false hch] at HVE
              clear hch
              go_wp2_with fail
              refine (HVE.out _).mono ?_
              rintro e w6 ⟨rfl, b6⟩
              have EB6 := BoxE.all ((BoxE.new w5 (strOfNums z2) p5 z3.length k5 d1 18446744073709551615).below b6)
              have b56 : Below w5.heap.size w5 (w5.alloc (.cells #[.string (strOfNums z2), .slice p5 z3.length k5, .int .u64 d1, .int .u64 18446744073709551615] 33)) := by go_grown
              have RB6 := Lib.hid (BoxE.below (BoxE.below RB5.out b56) b6)
              have BY6 := Lib.hid ((BY5.out.below b56).below b6)
              have B6 := Lib.hid (tr (tr B5.out b56) b6)
              have hs6 := b6.size
              simp only [World.size_alloc] at hs6
              clear b6 b56 r0 r1 r2 r3 rf
              obtain ⟨r0, r1, r2, r3, rf⟩ := BoxE.all RB6.out
              obtain ⟨e0, e1', e2', e3, ef⟩ := EB6
              go_wp2_with fail
              refine ret_ent rfl rfl rfl (BoxE.set4 RB6.out) rfl ?_
              exact ⟨by rw [HN.out]; rfl, set4_below B6.out (Nat.le_refl _)⟩
      · have hq3 : ((str a0).toList == [49, 56, 52, 52, 54, 55, 52, 52, 48, 55, 51, 55, 48, 57, 53, 53, 49, 54, 49, 53]) = false := hq1.trans (decide_eq_false e1)
        have hq4 : ((str a0).toList == [110, 101, 118, 101, 114]) = false := hq2.trans (decide_eq_false e2)
        clear e1 e2 hq1 hq2
        as_aux_lemma =>
          go_wp2_with fail
          refine (HP1.out _).mono ?_
          rintro e w3 ⟨rfl, rfl⟩
          go_wp2_with fail
          refine (HB2.out _).mono ?_
          rintro e w4 ⟨p4, k4, rfl, by4, fr4, b4⟩
          have c3' : w4.cell? ⟨g, 3, none⟩ = some (.string (str a3)) := (b4.cell (p := ⟨g, 3, none⟩) hg).trans c3
          have RB4 := Lib.hid (BoxE.below RB1'.out b4)
          have B4 := Lib.hid (tr B1'.out b4)
          have BY4 := Lib.hid by4
          have hs4 := b4.size
          clear c0 c1 c2 c3 b4 by4
          go_wp2_with fail
          refine (HB3.out _).mono ?_
          rintro e w5 ⟨p5, k5, rfl, by5, fr5, b5⟩
          have RB5 := Lib.hid (BoxE.below RB4.out b5)
          have B5 := Lib.hid (tr B4.out b5)
          have BY5 := Lib.hid by5
          have hcv := (BY4.out.below b5).str (P := Tryd.prog) k4 (src := 31) (e := 5) (dst := 9) Tryd.underlying31 (by kernel_rfl) Tryd.underlying9
          have hs5 := b5.size
          clear c3' b5 by5
          have hcs : (f1 = false ∧ True) ∨ (f1 = true ∧ f2 = false) ∨ (f1 = true ∧ f2 = true ∧ f3 = false) ∨ (f1 = true ∧ f2 = true ∧ f3 = true) := by
            cases f1 <;> cases f2 <;> cases f3 <;> simp
          rcases hcs with ⟨rfl, -⟩ | ⟨rfl, rfl⟩ | ⟨rfl, rfl, rfl⟩ | ⟨rfl, rfl, rfl⟩
          · replace HN := Lib.hid (show rparse s = none from by rw [HN.out]; simp)
            obtain ⟨r0, r1, r2, r3, rf⟩ := BoxE.all RB5.out
            have hrl : W.heap.size < w5.heap.size := by omega
            go_wp2_with fail
            refine ret_ent rfl rfl rfl (BoxE.below (BoxE.set4 RB5.out) (by go_grown)) rfl ?_
            exact ⟨by rw [HN.out]; rfl, tr (set4_below B5.out (Nat.le_refl _)) (by go_grown)⟩
          · replace HN := Lib.hid (show rparse s = none from by rw [HN.out]; simp)
            obtain ⟨r0, r1, r2, r3, rf⟩ := BoxE.all RB5.out
            have hrl : W.heap.size < w5.heap.size := by omega
            go_wp2_with fail
            refine ret_ent rfl rfl rfl (BoxE.below (BoxE.set4 RB5.out) (by go_grown)) rfl ?_
            exact ⟨by rw [HN.out]; rfl, tr (set4_below B5.out (Nat.le_refl _)) (by go_grown)⟩
          · replace HN := Lib.hid (show rparse s = none from by rw [HN.out]; simp)
            obtain ⟨r0, r1, r2, r3, rf⟩ := BoxE.all RB5.out
            have hrl : W.heap.size < w5.heap.size := by omega
            go_wp2_with fail
            refine ret_ent rfl rfl rfl (BoxE.below (BoxE.set4 RB5.out) (by go_grown)) rfl ?_
            exact ⟨by rw [HN.out]; rfl, tr (set4_below B5.out (Nat.le_refl _)) (by go_grown)⟩
          · have HVE := Lib.hid (fun w => rvalidE_any (strOfNums z2) p5 z3.length k5 d1 bx w)
            obtain ⟨r0, r1, r2, r3, rf⟩ := BoxE.all RB5.out
            have hrl : W.heap.size < w5.heap.size := by omega
            by_cases hch : chk (strOfNums z2) z3.length bx = 0
            · replace HN := Lib.hid (show rparse s = some ⟨strOfNums z2, z3, d1, bx⟩ from by rw [HN.out]; simp [hch])
              rw [decide_eq_true hch] at HVE
              clear hch
              go_wp2_with fail
              refine (HVE.out _).mono ?_
              rintro e w6 ⟨rfl, b6⟩
              have EB6 := BoxE.all ((BoxE.new w5 (strOfNums z2) p5 z3.length k5 d1 bx).below b6)
              have b56 : Below w5.heap.size w5 (w5.alloc (.cells #[.string (strOfNums z2), .slice p5 z3.length k5, .int .u64 d1, .int .u64 bx] 33)) := by go_grown
              have RB6 := Lib.hid (BoxE.below (BoxE.below RB5.out b56) b6)
              have BY6 := Lib.hid ((BY5.out.below b56).below b6)
              have B6 := Lib.hid (tr (tr B5.out b56) b6)
              have hs6 := b6.size
              simp only [World.size_alloc] at hs6
              clear b6 b56 r0 r1 r2 r3 rf
              obtain ⟨r0, r1, r2, r3, rf⟩ := BoxE.all RB6.out
              obtain ⟨e0, e1', e2', e3, ef⟩ := EB6
              go_wp2_with fail
              refine ret_ent rfl rfl rfl (BoxE.set4 RB6.out) rfl ?_
              rw [HN.out]
              exact ⟨⟨p5, k5, rfl, set4_bytes BY6.out (fun a h => by have := fr5 a h; omega), fun a h => by have := fr5 a h; omega⟩, set4_below B6.out (Nat.le_refl _)⟩
            · replace HN := Lib.hid (show rparse s = none from by rw [HN.out]; simp [hch])
              rw [decide_eq_false hch] at HVE
              clear hch
              go_wp2_with fail
              refine (HVE.out _).mono ?_
              rintro e w6 ⟨rfl, b6⟩
              have EB6 := BoxE.all ((BoxE.new w5 (strOfNums z2) p5 z3.length k5 d1 bx).below b6)
              have b56 : Below w5.heap.size w5 (w5.alloc (.cells #[.string (strOfNums z2), .slice p5 z3.length k5, .int .u64 d1, .int .u64 bx] 33)) := by go_grown
              have RB6 := Lib.hid (BoxE.below (BoxE.below RB5.out b56) b6)
              have BY6 := Lib.hid ((BY5.out.below b56).below b6)
              have B6 := Lib.hid (tr (tr B5.out b56) b6)
              have hs6 := b6.size
              simp only [World.size_alloc] at hs6
              clear b6 b56 r0 r1 r2 r3 rf
              obtain ⟨r0, r1, r2, r3, rf⟩ := BoxE.all RB6.out
              obtain ⟨e0, e1', e2', e3, ef⟩ := EB6
              go_wp2_with fail
              refine ret_ent rfl rfl rfl (BoxE.set4 RB6.out) rfl ?_
              exact ⟨by rw [HN.out]; rfl, set4_below B6.out (Nat.le_refl _)⟩
  · have h4' : (((L.length : Nat) : Int) != 4) = true := by simp; omega
    have HN := Lib.hid (show rparse s = none from by
      rw [HRP.out]
      split
      · next h => exact absurd rfl h4
      · rfl)
    obtain ⟨r0, r1, r2, r3, rf⟩ := BoxE.all RB1
    have RB1' := Lib.hid RB1
    have B1' := Lib.hid B1
    clear hc hws hjl RB1 B1 b1
    generalize L.length = n at *
    go_wp2_with fail
    refine ret_ent rfl rfl rfl (BoxE.set4 RB1'.out) rfl ?_
    exact ⟨by rw [HN.out]; rfl, set4_below B1'.out (Nat.le_refl _)⟩
end Go.Proofs.YtlpepmhpnmnpkaaDoor.Ent
