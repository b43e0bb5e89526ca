/-
  Victims (layer 18): Find; few; own.
-/
import Derived.Test.YtlokilkhlhhjgaaVicU
set_option linter.unusedVariables false
set_option linter.unusedSimpArgs false
namespace Go.Proofs.Ytlokilkhlhhjgaa.Vic
open Go Go.RowKit Kit Go.Maps
set_option maxRecDepth 100000 in
theorem find_any {w : World} {p : Option Addr} {n c : Nat} {l : List Int} (k : Int) (h : l.length = n) (r : Ru w p l) (hn : n ≤ 1000000) :
    Calls Try.prog 30 #[.slice p n c, .int .u32 k] w fun e w' => (∃ r, e = .returned (.int .i64 r) ∧ (r < 0 ↔ k ∉ l)) ∧ Below w.heap.size w w' := by
  have H := Lib.hid h
  have R := Lib.hid (fun w' (hb : Below w.heap.size w w') => r.below hb)
  clear r h
  go_enter Try.func30, Try.ntmps30
  go_wp2_with fail
  go_loopw [5] (fun i wr => ∃ j : Nat, j ≤ n ∧ i = .int .i64 j ∧ (∀ m x, m < j → l[m]? = some x → x ≠ k) ∧ Below w.heap.size w wr) (fun i _ => n - (intOf i).toNat)
  case atStart => exact ⟨0, by omega, rfl, fun m x hm => by omega, Below.refl _ _⟩
  case round =>
    obtain ⟨j, hj, rfl, hN, bW⟩ := hrel
    have BW := Lib.hid bW
    have HN := Lib.hid hN
    clear bW hN
    have j0 : (0 : Int) ≤ (j : Int) := by omega
    by_cases hjn : j = n
    · subst hjn
      go_wp2_with fail
      go_ret
      refine ⟨⟨-1, rfl, fun _ hk => ?_, fun _ => by decide⟩, BW.out⟩
      obtain ⟨m, hm⟩ := List.getElem?_of_mem hk
      exact HN.out m k (by have := (List.getElem?_eq_some_iff.1 hm).1; have := H.out; omega) hm rfl
    · have hlt : j < n := by omega
      have hlt' : (j : Int) < (n : Int) := by omega
      obtain ⟨z, hz⟩ : ∃ p, l[j]? = some p := ⟨l[j]'(by rw [H.out]; omega), List.getElem?_eq_getElem _⟩
      obtain ⟨y, rfl, _, x1⟩ := R.out _ BW.out j z hz
      have Z := Lib.hid hz
      clear hz
      by_cases he : z = k
      · subst he
        go_wp2_with fail
        go_ret
        exact ⟨⟨j, rfl, fun h => by omega, fun h => absurd (List.mem_of_getElem? Z.out) h⟩, BW.out⟩
      · have hb : (z == k) = false := by rw [beq_eq_false_iff_ne]; exact he
        have HE := Lib.hid he
        clear he
        go_wp2_with fail
        go_roundw
        case rel =>
          refine ⟨j + 1, by omega, by go_num, fun m x hm hx => ?_, BW.out⟩
          rcases Nat.lt_or_ge m j with h | h
          · exact HN.out m x h hx
          · obtain rfl : m = j := by omega
            rw [Z.out] at hx
            cases hx
            exact HE.out
        case measure => simp [intOf]; omega
abbrev ents (p1 : Option Addr) (m1 c1 : Nat) (p2 : Option Addr) (m2 c2 : Nat) : Value := .agg #[.slice p1 m1 c1, .slice p2 m2 c2]
theorem few_yes {m1 c1 m2 c2 : Nat} {p1 p2 : Option Addr} (h1 : m1 ≤ 60) (h2 : m2 ≤ 60) (w : World) : Calls Try.prog 7 #[ents p1 m1 c1 p2 m2 c2] w fun e w' => e = .returned (.bool true) ∧ Below w.heap.size w w' := by
  have a1 : (m1 : Int) ≤ 60 := by omega
  have a2 : (m2 : Int) ≤ 60 := by omega
  go_enter Try.func7, Try.ntmps7
  go_wp2_with fail
  go_ret
  exact ⟨rfl, by go_grown⟩
theorem few_no {m1 c1 m2 c2 : Nat} {p1 p2 : Option Addr} (h : ¬ (m1 ≤ 60 ∧ m2 ≤ 60)) (w : World) : Calls Try.prog 7 #[ents p1 m1 c1 p2 m2 c2] w fun e w' => e = .returned (.bool false) ∧ Below w.heap.size w w' := by
  by_cases h1 : m1 ≤ 60
  · have a1 : (m1 : Int) ≤ 60 := by omega
    have a2 : ¬ (m2 : Int) ≤ 60 := by omega
    clear h
    go_enter Try.func7, Try.ntmps7
    go_wp2_with fail
    go_ret
    exact ⟨rfl, by go_grown⟩
  · have a1 : ¬ (m1 : Int) ≤ 60 := by omega
    clear h
    go_enter Try.func7, Try.ntmps7
    go_wp2_with fail
    go_ret
    exact ⟨rfl, by go_grown⟩
/-- 'append([]T(nil), l...)' at a step of a region that draws -/
theorem step_appN {w : World} {ops : Array Oper} {o : Oper} {a : Act} {K : Act → World → Prop} {Q : Exit → Act → World → Prop} {E : Prop} (hgd : o.guard = none) (s x : Operand)
    (ho : o.op = .call { callee := .builtin .append, args := #[s, x], argTypes := #[22, 22] })
    (base : Nat) (hs : a.eval s = .slice none 0 0) (p : Option Addr) (m c : Nat) (l : List Wg) (hx : a.eval x = .slice p m c) (hl : l.length = m) (hr : Rd w p l) (hn : m ≤ 1000000) (hbase : base ≤ w.heap.size)
    (h : ∀ q kk w', Ow w' base (.slice q m kk) l → Below w.heap.size w w' → K (a.put o.dst (.slice q m kk)) w') :
    if Region.wanted o (yielded ops a.tmps) = true then Oper.wp Try.prog o a w K Q else E := by
  have hw : Region.wanted o (yielded ops a.tmps) = true := by simp [Region.wanted, hgd]
  rw [if_pos hw]
  obtain ⟨i0, hi0, hz0, hz1, hz2⟩ := w_parts
  have hu : Try.prog.underlying 22 = some (.slice 34) := by kernel_rfl
  rcases Nat.eq_zero_or_pos m with rfl | hpos
  · obtain rfl : l = [] := List.length_eq_zero_iff.1 hl
    unfold Oper.wp execOp
    simp only [ho, resolve, invoke, builtin, Sem.run_bind, Sem.run_pure, Result.andThen_ok, List.map_toArray, List.map_cons, List.map_nil, hs, hx, run_append_zero' w _ o.type _ i0 hu hi0 none 0 0 (fun _ => ⟨rfl, rfl⟩) (Nat.le_refl _) p c]
    exact h none 0 w (World.ownsRow_nil _ _ _ _) (Below.refl _ _)
  · obtain ⟨y, rfl⟩ : ∃ y, p = some y := by
      obtain ⟨y, hy, -⟩ := hr 0 (l[0]'(by omega)) (List.getElem?_eq_getElem (by omega))
      exact ⟨y, hy⟩
    obtain ⟨v', w', hr2, h2, h3, _, h5⟩ := run_append_own_at (P := Try.prog) w base 22 o.type _ i0 _ 2 16 hu hi0 hz0 hz1 hz2 rfl (by decide) (.slice none 0 0) 0 [] (World.ownsRow_nil _ _ _ _) y m c (cellsW l) (by rw [cellsW_len, hl]) (fun j u hj => hr.news j u hj) (cellsW_one l) (by unfold maxLen; omega) (by omega) hbase
    have h2' : Ow w' base v' l := by
      unfold Ow
      rw [hl]
      simpa using h2
    obtain ⟨q, nn, kk, rfl, hnn, -, -⟩ := h2'.form
    rw [hl] at hnn
    subst hnn
    unfold Oper.wp execOp
    simp only [ho, resolve, invoke, builtin, Sem.run_bind, Sem.run_pure, Result.andThen_ok, List.map_toArray, List.map_cons, List.map_nil, hs, hx, hr2]
    exact h q kk w' h2' ((Below.refl w.heap.size w).grown h3 (Nat.le_refl _) fun k hk => by cases hk)
/-- the box of the result -/
def RB (W w' : World) : Prop := W.heap.size + 2 ≤ w'.heap.size ∧ ∃ a b, w'.heap[W.heap.size + 1]? = some (.cells #[a, b] 24 (0, 0))
theorem RB.facts {W w' : World} (h : RB W w') : ∃ a b, w'.cell? ⟨W.heap.size + 1, 0, none⟩ = some a ∧ w'.cell? ⟨W.heap.size + 1, 1, none⟩ = some b ∧ w'.frozen? ⟨W.heap.size + 1, 0, none⟩ = false ∧ w'.frozen? ⟨W.heap.size + 1, 1, none⟩ = false := by
  obtain ⟨_, a, b, h⟩ := h
  refine ⟨a, b, ?_, ?_, ?_, ?_⟩ <;> simp [World.cell?, World.frozen?, h]
theorem RB.keep {W v w' : World} (hb : Below v.heap.size v w') (h : RB W v) : RB W w' := by
  obtain ⟨h0, a, b, h⟩ := h
  exact ⟨Nat.le_trans h0 hb.size, a, b, (hb.block _ (by omega)).trans h⟩
theorem heap_set2 {w : World} {b j : Nat} {v : Array Value} {t : TypeId} (h : w.heap[b]? = some (.cells v t (0, 0))) (x : Value) : (w.setCell ⟨b, j, none⟩ x).heap[b]? = some (.cells (v.setIfInBounds j x) t (0, 0)) := by
  obtain ⟨hlt, hk⟩ := Array.getElem?_eq_some_iff.1 h
  show (w.heap.modify b _)[b]? = _
  rw [Array.getElem?_eq_getElem (by rw [Array.size_modify]; exact hlt), Array.getElem_modify_self, hk]
  simp
theorem RB.set {W v : World} (h : RB W v) (x y : Value) : ((v.setCell ⟨W.heap.size + 1, 0, none⟩ x).setCell ⟨W.heap.size + 1, 1, none⟩ y).heap[W.heap.size + 1]? = some (.cells #[x, y] 24 (0, 0)) := by
  obtain ⟨h0, a, b, h⟩ := h
  have := heap_set2 (j := 1) (heap_set2 (j := 0) h x) y
  simpa using this
theorem ow_of {w w' : World} {B : Nat} {v : Value} {l : List Wg} (h : Ow w B v l) (hw : ∀ g, B ≤ g → g < w.heap.size → w'.heap[g]? = w.heap[g]?) : Ow w' B v l := by
  obtain ⟨h0, ⟨hv, hn⟩ | ⟨g, cap, cur, hv, hb', hg, hr⟩⟩ := h
  · exact ⟨h0, .inl ⟨hv, hn⟩⟩
  · exact ⟨h0, .inr ⟨g, cap, cur, hv, hb', (hw g hb' (Array.getElem?_eq_some_iff.1 hg).1).trans hg, hr⟩⟩
theorem far2 {W v : World} (x y : Value) (g : Nat) (hg : W.heap.size + 2 ≤ g) (_ : g < v.heap.size) : ((v.setCell ⟨W.heap.size + 1, 0, none⟩ x).setCell ⟨W.heap.size + 1, 1, none⟩ y).heap[g]? = v.heap[g]? :=
  (Below.heap_setCell _ _ _ g (by show g ≠ W.heap.size + 1; omega)).trans (Below.heap_setCell _ _ _ g (by show g ≠ W.heap.size + 1; omega))
theorem owS_start (W : World) (p1 : Option Addr) (m1 c1 : Nat) (p2 : Option Addr) (m2 c2 : Nat) (w' : World) (h : w' = (W.alloc (.cells #[.slice p1 m1 c1, .slice p2 m2 c2] 24)).alloc (.cells #[.slice none 0 0, .slice none 0 0] 24)) : w'.cell? ⟨W.heap.size, 0, none⟩ = some (.slice p1 m1 c1) ∧ w'.cell? ⟨W.heap.size, 1, none⟩ = some (.slice p2 m2 c2) ∧ RB W w' ∧ Below W.heap.size W w' := by
  subst h
  refine ⟨?_, ?_, ⟨by simp, .slice none 0 0, .slice none 0 0, ?_⟩, ?_⟩
  · simp [go_sem]
  · simp [go_sem]
  · have := (MapKept.heap_alloc (W.alloc (.cells #[.slice p1 m1 c1, .slice p2 m2 c2] 24)) (.cells #[.slice none 0 0, .slice none 0 0] 24)).1
    rw [World.size_alloc] at this
    exact this
  · go_grown
theorem owS_keep {W : World} {p1 : Option Addr} {m1 c1 : Nat} {p2 : Option Addr} {m2 c2 : Nat} {v w' : World} (hb : Below v.heap.size v w') (h : v.cell? ⟨W.heap.size, 0, none⟩ = some (.slice p1 m1 c1) ∧ v.cell? ⟨W.heap.size, 1, none⟩ = some (.slice p2 m2 c2) ∧ RB W v ∧ Below W.heap.size W v) : w'.cell? ⟨W.heap.size, 0, none⟩ = some (.slice p1 m1 c1) ∧ w'.cell? ⟨W.heap.size, 1, none⟩ = some (.slice p2 m2 c2) ∧ RB W w' ∧ Below W.heap.size W w' := by
  obtain ⟨h0, h1, h2, h3⟩ := h
  have h4 := h2.1
  exact ⟨(hb.cell (p := ⟨W.heap.size, 0, none⟩) (by show W.heap.size < _; omega)).trans h0, (hb.cell (p := ⟨W.heap.size, 1, none⟩) (by show W.heap.size < _; omega)).trans h1, h2.keep hb, tr h3 hb⟩
theorem owS_store {W : World} {p1 : Option Addr} {m1 c1 : Nat} {p2 : Option Addr} {m2 c2 : Nat} {v w' : World} (x y : Value) (hw : w' = (v.setCell ⟨W.heap.size + 1, 0, none⟩ x).setCell ⟨W.heap.size + 1, 1, none⟩ y) (h : v.cell? ⟨W.heap.size, 0, none⟩ = some (.slice p1 m1 c1) ∧ v.cell? ⟨W.heap.size, 1, none⟩ = some (.slice p2 m2 c2) ∧ RB W v ∧ Below W.heap.size W v) : w'.cell? ⟨W.heap.size, 0, none⟩ = some (.slice p1 m1 c1) ∧ w'.cell? ⟨W.heap.size, 1, none⟩ = some (.slice p2 m2 c2) ∧ RB W w' ∧ Below W.heap.size W w' := by
  obtain ⟨h0, h1, h2, h3⟩ := h
  subst hw
  have hb : Below (W.heap.size + 1) v ((v.setCell ⟨W.heap.size + 1, 0, none⟩ x).setCell ⟨W.heap.size + 1, 1, none⟩ y) := ((Below.refl (W.heap.size + 1) v).setCell (p := ⟨W.heap.size + 1, 0, none⟩) (Nat.le_refl _) x).setCell (p := ⟨W.heap.size + 1, 1, none⟩) (Nat.le_refl _) y
  exact ⟨(hb.cell (p := ⟨W.heap.size, 0, none⟩) (Nat.lt_succ_self _)).trans h0, (hb.cell (p := ⟨W.heap.size, 1, none⟩) (Nat.lt_succ_self _)).trans h1, ⟨Nat.le_trans h2.1 hb.size, x, y, h2.set x y⟩, h3.trans (hb.mono (Nat.le_succ _))⟩
set_option maxRecDepth 100000 in
set_option maxHeartbeats 1000000 in
theorem own_any {W : World} {m1 c1 m2 c2 : Nat} {p1 p2 : Option Addr} {l1 l2 : List Wg} (h1 : l1.length = m1) (h2 : l2.length = m2) (r1 : Rd W p1 l1) (r2 : Rd W p2 l2) (hb1 : m1 ≤ 100) (hb2 : m2 ≤ 100) :
    Calls Try.prog 9 #[ents p1 m1 c1 p2 m2 c2] W fun e w' => (∃ q1 k1 q2 k2, e = .returned (ents q1 m1 k1 q2 m2 k2) ∧ Rd w' q1 l1 ∧ Rd w' q2 l2) ∧ Below W.heap.size W w' := by
  have R1 := Lib.hid (fun (v : World) (hb : v.cell? ⟨W.heap.size, 0, none⟩ = some (.slice p1 m1 c1) ∧ v.cell? ⟨W.heap.size, 1, none⟩ = some (.slice p2 m2 c2) ∧ RB W v ∧ Below W.heap.size W v) => r1.below hb.2.2.2)
  have R2 := Lib.hid (fun (v : World) (hb : v.cell? ⟨W.heap.size, 0, none⟩ = some (.slice p1 m1 c1) ∧ v.cell? ⟨W.heap.size, 1, none⟩ = some (.slice p2 m2 c2) ∧ RB W v ∧ Below W.heap.size W v) => r2.below hb.2.2.2)
  have H1 := Lib.hid h1
  have H2 := Lib.hid h2
  clear r1 r2
  go_enter Try.func9, Try.ntmps9
  clear h1 h2
  go_wp2_with fail
  have ST := Lib.hid (owS_start W p1 m1 c1 p2 m2 c2 _ rfl)
  generalize (W.alloc (.cells #[.slice p1 m1 c1, .slice p2 m2 c2] 24)).alloc (.cells #[.slice none 0 0, .slice none 0 0] 24) = V at *
  have RBX := Lib.hid (fun (v x : World) (hb : Below v.heap.size v x) (h : v.cell? ⟨W.heap.size, 0, none⟩ = some (.slice p1 m1 c1) ∧ v.cell? ⟨W.heap.size, 1, none⟩ = some (.slice p2 m2 c2) ∧ RB W v ∧ Below W.heap.size W v) => (h.2.2.1.keep hb).facts)
  have BLX := Lib.hid (fun (v x : World) (hb : Below v.heap.size v x) (h : v.cell? ⟨W.heap.size, 0, none⟩ = some (.slice p1 m1 c1) ∧ v.cell? ⟨W.heap.size, 1, none⟩ = some (.slice p2 m2 c2) ∧ RB W v ∧ Below W.heap.size W v) => tr h.2.2.2 hb)
  have SZX := Lib.hid (fun (v : World) (h : v.cell? ⟨W.heap.size, 0, none⟩ = some (.slice p1 m1 c1) ∧ v.cell? ⟨W.heap.size, 1, none⟩ = some (.slice p2 m2 c2) ∧ RB W v ∧ Below W.heap.size W v) => h.2.2.1.1)
  go_region_held3 (fun w' => w'.cell? ⟨W.heap.size, 0, none⟩ = some (.slice p1 m1 c1) ∧ w'.cell? ⟨W.heap.size, 1, none⟩ = some (.slice p2 m2 c2) ∧ RB W w' ∧ Below W.heap.size W w')
    (first
      | (exact owS_keep (Below.drew (Below.refl _ _)) ST.out)
      | (exact owS_keep bN (by assumption))
      | (exact owS_store _ _ rfl (by assumption))
      | assumption
      | fail)
    (first
      | (refine step_appN (by rfl) (.const (.slice none 0 0)) (.tmp 4) (by rfl) (W.heap.size + 2) (by rfl) p1 m1 c1 l1 (by rfl) H1.out (R1.out _ (by assumption)) (by omega) (SZX.out _ (by assumption)) ?_; intro qA kA xA oA bN; obtain ⟨fa, fb, fc, fd, fe, ff⟩ := RBX.out _ _ bN (by assumption); have bX := Lib.hid (BLX.out _ _ bN (by assumption)))
      | (refine step_appN (by rfl) (.const (.slice none 0 0)) (.tmp 7) (by rfl) (W.heap.size + 2) (by rfl) p2 m2 c2 l2 (by rfl) H2.out (R2.out _ (by assumption)) (by omega) (SZX.out _ (by assumption)) ?_; intro qB kB xB oB bN; obtain ⟨fa, fb, fc, fd, fe, ff⟩ := RBX.out _ _ bN (by assumption); have bX := Lib.hid (BLX.out _ _ bN (by assumption)))
      | fail)
  all_goals (go_wp2_with fail)
  all_goals (refine bodyPost_ret (v := ents qA m1 kA qB m2 kB) (by simp [results, Try.results9, go_sem, fc, fd]) rfl ?_)
  exact ⟨⟨_, _, _, _, rfl, rd_ow (ow_of (ow_below oA bN) (far2 _ _)), rd_ow (ow_of oB (far2 _ _))⟩, (bX.out.setCell (p := ⟨W.heap.size + 1, 0, none⟩) (Nat.le_succ _) _).setCell (p := ⟨W.heap.size + 1, 1, none⟩) (Nat.le_succ _) _⟩
end Go.Proofs.Ytlokilkhlhhjgaa.Vic
