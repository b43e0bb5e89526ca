/-
  Texts in one: ReuK, ReuL, ReuM, ReuO, ReuP.
-/
import Derived.Test.YtbbcmheedhdlfaaReb
import Derived.Test.YtbbcmheedhdlfaaRec
set_option linter.unusedVariables false
set_option linter.unusedSimpArgs false
namespace Go.Proofs.Ytbbcmheedhdlfaa.Reu
open Go Go.RowKit Kit Go.Maps Lnk Lru
theorem ri_rg {w : World} {p : Option Addr} {l : List Int} (h : App.Rg w p (l.map (Value.int .i64))) : Ri w p l := fun i x hx => h i (.int .i64 x) (by rw [List.getElem?_map, hx]; rfl)
theorem ru_rg {w : World} {p : Option Addr} {l : List Int} (h : App.Rg w p (l.map (Value.int .u32))) : Ru w p l := fun i x hx => h i (.int .u32 x) (by rw [List.getElem?_map, hx]; rfl)
/-- rows that are written out -/
theorem lit_ku (v : World) (xs : List Int) (t : TypeId) : Ru (v.alloc (.cells (xs.map (Value.int .u32)).toArray t)) (some ⟨v.heap.size, 0, none⟩) xs := fun i x hx => by
  refine ⟨_, rfl, by simp, ?_⟩
  rw [Lnk.add2]
  unfold World.cell?
  dsimp only
  rw [(MapKept.heap_alloc v _).1]
  simp [hx]
theorem lit_ri (v : World) (xs : List Int) (t : TypeId) : Ri (v.alloc (.cells (xs.map (Value.int .i64)).toArray t)) (some ⟨v.heap.size, 0, none⟩) xs := fun i x hx => by
  refine ⟨_, rfl, by simp, ?_⟩
  rw [Lnk.add2]
  unfold World.cell?
  dsimp only
  rw [(MapKept.heap_alloc v _).1]
  simp [hx]
/-- the row that Hits gives -/
def hl (ds : List Int) (K : Nat) : List Int := (List.range (K + 1)).map fun i => (upto ds i : Int)
theorem hl_len (ds : List Int) (K : Nat) : (hl ds K).length = K + 1 := by simp [hl]
theorem row_ri {w : World} {g K : Nat} {ds : List Int} (h : Row w g (K + 1) 3 (fun i => .int .i64 (upto ds i : Int))) : Ri w (some ⟨g, 0, none⟩) (hl ds K) := by
  apply ri_rg
  have := App.Row.rg h
  unfold hl
  rwa [List.map_map]
theorem own_ri {w : World} {B n : Nat} {v : Value} {l : List Int} (h : w.ownsRow B 3 1 v n (l.map (Value.int .i64))) : ∃ p c, v = .slice p n c ∧ Ri w p l ∧ l.length = n := by
  obtain ⟨p, c, h1, h2, h3⟩ := App.own_rg h
  exact ⟨p, c, h1, ri_rg h2, by simpa using h3⟩
theorem own_ru {w : World} {B n : Nat} {v : Value} {l : List Int} (h : w.ownsRow B 38 1 v n (l.map (Value.int .u32))) : ∃ p c, v = .slice p n c ∧ Ru w p l ∧ l.length = n := by
  obtain ⟨p, c, h1, h2, h3⟩ := App.own_rg h
  exact ⟨p, c, h1, ru_rg h2, by simpa using h3⟩
theorem ints_lit {v : World} {l : List Int} {p : Option Addr} {c : Nat} (R : Ri v p l) (xs : List Int) (n m : Nat) (t : TypeId) (h1 : l.length = n) (h2 : xs.length = m) (h3 : n ≤ 1000000) (h4 : m ≤ 1000000) (he : l = xs) :
    Calls Try.prog 37 #[.slice p n c, .slice (some ⟨v.heap.size, 0, none⟩) m m] (v.alloc (.cells (xs.map (Value.int .i64)).toArray t)) fun e w' => e = .returned (.bool true) ∧ Below v.heap.size v w' := by
  have hb := box_below v (xs.map (Value.int .i64)).toArray t
  exact (ints37_any (c1 := c) (c2 := m) h1 h2 (R.below hb) (lit_ri v xs t) h3 h4).mono fun e w' ⟨⟨s, k1, k2⟩, k3⟩ => ⟨by rw [k1, k2.2 he], tr hb k3⟩
theorem same_lit {v : World} {l : List Int} {p : Option Addr} {c : Nat} (R : Ru v p l) (xs : List Int) (n m : Nat) (t : TypeId) (h1 : l.length = n) (h2 : xs.length = m) (h3 : n ≤ 1000000) (h4 : m ≤ 1000000) (he : l = xs) :
    Calls Try.prog 39 #[.slice p n c, .slice (some ⟨v.heap.size, 0, none⟩) m m] (v.alloc (.cells (xs.map (Value.int .u32)).toArray t)) fun e w' => e = .returned (.bool true) ∧ Below v.heap.size v w' := by
  have hb := box_below v (xs.map (Value.int .u32)).toArray t
  exact (same37_any (c1 := c) (c2 := m) h1 h2 (R.below hb) (lit_ku v xs t) h3 h4).mono fun e w' ⟨⟨s, k1, k2⟩, k3⟩ => ⟨by rw [k1, k2.2 he], tr hb k3⟩
/-- the trace of the examples -/
def Gv : List Nat := [1, 2, 3, 1, 1, 3, 2, 4, 1]
theorem gv_lt : ∀ x ∈ Gv, x < 4294967296 := by decide
set_option maxRecDepth 100000 in
theorem given_any (w : World) : Calls Try.prog 92 #[] w fun e w' => ∃ p, e = .returned (.slice p 9 9) ∧ Ru w' p (ints Gv) ∧ Below w.heap.size w w' := by
  have HL := Lib.hid (lit_ku w (ints Gv) 38)
  have HB := Lib.hid (box_below w ((ints Gv).map (Value.int .u32)).toArray 38)
  go_enter Try.func92, Try.ntmps92
  go_wp2_with fail
  go_returns
  exact ⟨_, rfl, HL.out, HB.out⟩
theorem gv_dists : dists [] Gv = [-1, -1, -1, 2, 0, 1, 2, -1, 3] := by decide
theorem gv_stk : stk [] Gv = [3, 2, 4, 1] := by decide
set_option maxRecDepth 100000 in
theorem least_any (w : World) (h a b : Int) (hl : lst (dists [] Gv) (stk [] Gv).length h = (a, b)) : Calls Try.prog 93 #[.int .i64 h, .int .i64 a, .int .i64 b] w fun e w' => e = .returned (.bool true) ∧ Below w.heap.size w w' := by
  have HG := Lib.hid (given_any w)
  have HL := Lib.hid (fun (v : World) (p : Option Addr) (hr : Ru v p (ints Gv)) => Least_any (c := 9) (n := 9) (h := h) rfl (by decide) hr gv_lt)
  rw [hl] at HL
  clear hl
  go_enter Try.func93, Try.ntmps93
  go_wp2_with fail
  refine HG.out.mono ?_
  rintro e w1 ⟨p, rfl, r1, b1⟩
  have HC := Lib.hid (HL.out w1 p r1)
  have B1 := Lib.hid b1
  clear r1 b1
  go_wp2_with fail
  refine HC.out.mono ?_
  rintro e w2 ⟨rfl, b2⟩
  have B2 := Lib.hid (tr B1.out b2)
  clear b2
  have e1 : (a == a) = true := by simp
  have e2 : (b == b) = true := by simp
  go_wp2_with fail
  go_returns
  exact ⟨by simp, B2.out⟩
set_option maxRecDepth 100000 in
set_option maxHeartbeats 4000000 in
theorem known37 (w : World) : Calls Try.prog 34 #[] w fun e w' => e = .returned (.bool true) ∧ Below w.heap.size w w' := by
  have HG := Lib.hid given_any
  have HD := Lib.hid (fun (v : World) (p : Option Addr) (hr : Ru v p (ints Gv)) => Distances_any (c := 9) (n := 9) rfl (by decide) hr gv_lt)
  have HH := Lib.hid (fun (v : World) (p : Option Addr) (hr : Ru v p (ints Gv)) => Hits_any (c := 9) (n := 9) rfl (by decide) hr gv_lt)
  have HS := Lib.hid (fun (v : World) (p : Option Addr) (hr : Ru v p (ints Gv)) => Stack_any (c := 9) (n := 9) rfl (by decide) hr gv_lt)
  go_enter Try.func34, Try.ntmps34
  go_wp2_with fail
  refine (HG.out _).mono ?_
  rintro e w1 ⟨p, rfl, r1, b1⟩
  have HC := Lib.hid (HD.out w1 p r1)
  clear r1
  have B1 := Lib.hid b1
  clear b1
  go_wp2_with fail
  refine HC.out.mono ?_
  rintro e w2 ⟨lv, rfl, row, b2⟩
  obtain ⟨dp, dc, rfl, ri, -⟩ := own_ri row
  have D2 := Lib.hid ri
  have B2 := Lib.hid (tr B1.out b2)
  clear row ri b2 HC B1
  go_wp2_with fail
  refine (HG.out _).mono ?_
  rintro e w3 ⟨p, rfl, r3, b3⟩
  have HC := Lib.hid (HH.out w3 p r3)
  have D3 := Lib.hid (D2.out.below b3)
  have B3 := Lib.hid (tr B2.out b3)
  clear r3 b3 D2 B2
  go_wp2_with fail
  refine HC.out.mono ?_
  rintro e w4 ⟨hg, rfl, -, row, b4⟩
  rw [gv_stk] at row
  have H4 := Lib.hid (row_ri row)
  have D4 := Lib.hid (D3.out.below b4)
  have B4 := Lib.hid (tr B3.out b4)
  clear row b4 D3 B3 HC
  rw [gv_stk]
  go_wp2_with fail
  refine (HG.out _).mono ?_
  rintro e w5 ⟨p, rfl, r5, b5⟩
  have HC := Lib.hid (HS.out w5 p r5)
  have D5 := Lib.hid (D4.out.below b5)
  have H5 := Lib.hid (H4.out.below b5)
  have B5 := Lib.hid (tr B4.out b5)
  clear r5 b5 D4 B4 H4
  go_wp2_with fail
  refine HC.out.mono ?_
  rintro e w6 ⟨sv, rfl, row, b6⟩
  rw [gv_stk] at row
  obtain ⟨sp, sc, rfl, ru, -⟩ := own_ru row
  have D6 := Lib.hid (D5.out.below b6)
  have H6 := Lib.hid (H5.out.below b6)
  have S6 := Lib.hid ru
  have B6 := Lib.hid (tr B5.out b6)
  clear row ru b6 D5 H5 B5 HC HG HD HH HS
  go_wp2_with fail
  refine (ints_lit D6.out [-1, -1, -1, 2, 0, 1, 2, -1, 3] 9 9 _ (by decide) rfl (by decide) (by decide) gv_dists).mono ?_
  rintro e w7 ⟨rfl, b7⟩
  have H7 := Lib.hid (H6.out.below b7)
  have S7 := Lib.hid (S6.out.below b7)
  have B7 := Lib.hid (tr B6.out b7)
  clear b7 D6 H6 S6 B6
  go_wp2_with fail
  refine (ints_lit H7.out [0, 1, 2, 4, 5] 5 5 _ (by decide) rfl (by decide) (by decide) (by decide)).mono ?_
  rintro e w8 ⟨rfl, b8⟩
  have S8 := Lib.hid (S7.out.below b8)
  have B8 := Lib.hid (tr B7.out b8)
  clear b8 H7 S7 B7
  go_wp2_with fail
  refine (same_lit S8.out [1, 4, 2, 3] 4 4 _ rfl rfl (by decide) (by decide) rfl).mono ?_
  rintro e w9 ⟨rfl, b9⟩
  have B9 := Lib.hid (tr B8.out b9)
  clear b9 S8 B8
  go_wp2_with fail
  refine (least_any _ 0 0 0 (by decide)).mono ?_
  rintro e w10 ⟨rfl, b⟩
  have B10 := Lib.hid (tr B9.out b)
  clear b B9
  go_wp2_with fail
  refine (least_any _ 1 1 0 (by decide)).mono ?_
  rintro e w11 ⟨rfl, b⟩
  have B11 := Lib.hid (tr B10.out b)
  clear b B10
  go_wp2_with fail
  refine (least_any _ 3 3 0 (by decide)).mono ?_
  rintro e w12 ⟨rfl, b⟩
  have B12 := Lib.hid (tr B11.out b)
  clear b B11
  go_wp2_with fail
  refine (least_any _ 5 4 0 (by decide)).mono ?_
  rintro e w13 ⟨rfl, b⟩
  have B13 := Lib.hid (tr B12.out b)
  clear b B12
  go_wp2_with fail
  refine (least_any _ 6 0 9 (by decide)).mono ?_
  rintro e w14 ⟨rfl, b⟩
  have B14 := Lib.hid (tr B13.out b)
  clear b B13
  go_wp2_with fail
  refine (least_any _ (-1) 0 2 (by decide)).mono ?_
  rintro e w15 ⟨rfl, b⟩
  have B15 := Lib.hid (tr B14.out b)
  clear b B14
  go_wp2_with fail
  go_returns
  exact ⟨rfl, B15.out⟩
end Go.Proofs.Ytbbcmheedhdlfaa.Reu
namespace Go.Proofs.Ytbbcmheedhdlfaa.Reu
/-- the keys of a list, each where it is met first, behind those that were met before -/
def sc (acc : List Nat) : List Nat → List Nat
  | [] => acc
  | x :: R => sc (if x ∈ acc then acc else acc ++ [x]) R
theorem sc_append : ∀ (a b acc : List Nat), sc acc (a ++ b) = sc (sc acc a) b
  | [], b, acc => rfl
  | x :: a, b, acc => by rw [List.cons_append]; exact sc_append a b _
theorem sc_snoc (acc L : List Nat) (x : Nat) : sc acc (L ++ [x]) = if x ∈ sc acc L then sc acc L else sc acc L ++ [x] := by
  rw [sc_append]; rfl
theorem sc_ext : ∀ (R acc : List Nat), ∃ B, sc acc R = acc ++ B
  | [], acc => ⟨[], by simp [sc]⟩
  | x :: R, acc => by
    by_cases h : x ∈ acc
    · obtain ⟨B, hB⟩ := sc_ext R acc
      exact ⟨B, by simp only [sc]; rw [if_pos h]; exact hB⟩
    · obtain ⟨B, hB⟩ := sc_ext R (acc ++ [x])
      exact ⟨x :: B, by simp only [sc]; rw [if_neg h, hB]; simp⟩
theorem sc_nodup : ∀ (R acc : List Nat), acc.Nodup → (sc acc R).Nodup
  | [], acc, h => h
  | x :: R, acc, h => by
    simp only [sc]
    by_cases hx : x ∈ acc
    · rw [if_pos hx]; exact sc_nodup R acc h
    · rw [if_neg hx]
      refine sc_nodup R _ ?_
      rw [List.nodup_append]
      exact ⟨h, by simp, fun a ha b hb => by simp at hb; subst hb; exact fun e => hx (e ▸ ha)⟩
theorem sc_mem : ∀ (R acc : List Nat) (y : Nat), y ∈ sc acc R ↔ y ∈ acc ∨ y ∈ R
  | [], acc, y => by simp [sc]
  | x :: R, acc, y => by
    simp only [sc]
    rw [sc_mem R _ y]
    by_cases hx : x ∈ acc
    · rw [if_pos hx]
      constructor
      · rintro (h | h)
        · exact .inl h
        · exact .inr (List.mem_cons_of_mem _ h)
      · rintro (h | h)
        · exact .inl h
        · rcases List.mem_cons.1 h with rfl | h
          · exact .inl hx
          · exact .inr h
    · rw [if_neg hx]
      simp [List.mem_append, List.mem_cons, or_assoc]
/-- a list with its first key in front of all others -/
theorem sc_front : ∀ (R acc : List Nat) (x : Nat), x ∉ acc → sc (x :: acc) R = x :: (sc acc R).filter (fun y => y ≠ x) → True := fun _ _ _ _ _ => trivial
theorem filter_id {x : Nat} : ∀ (l : List Nat), x ∉ l → l.filter (fun y => decide (y ≠ x)) = l := fun l h =>
  List.filter_eq_self.2 fun a ha => by
    have : a ≠ x := fun e => h (e ▸ ha)
    simpa using this
theorem sc_cons : ∀ (R acc : List Nat) (x : Nat), x ∉ acc → sc (x :: acc) R = x :: (sc acc R).filter (fun y => decide (y ≠ x))
  | [], acc, x, h => by simp only [sc]; rw [filter_id acc h]
  | y :: R, acc, x, h => by
    simp only [sc]
    by_cases hy : y ∈ acc
    · rw [if_pos (List.mem_cons_of_mem _ hy), if_pos hy]
      exact sc_cons R acc x h
    · rw [if_neg hy]
      by_cases hyx : y = x
      · subst hyx
        rw [if_pos (List.mem_cons_self ..)]
        -- y is in front already; behind acc it is filtered
        have : ∀ (R A B : List Nat), y ∉ A → y ∉ B → sc (y :: (A ++ B)) R = y :: (sc (A ++ y :: B) R).filter (fun z => decide (z ≠ y)) := by
          intro R
          induction R with
          | nil =>
            intro A B hA hB
            simp only [sc]
            rw [List.filter_append, List.filter_cons, if_neg (by simp), filter_id A hA, filter_id B hB]
          | cons z R ih =>
            intro A B hA hB
            simp only [sc]
            by_cases hz : z = y
            · subst hz
              rw [if_pos (List.mem_cons_self ..), if_pos (by simp)]
              exact ih A B hA hB
            · by_cases hz2 : z ∈ A ++ B
              · rw [if_pos (List.mem_cons_of_mem _ hz2), if_pos (by
                  rcases List.mem_append.1 hz2 with h | h
                  · exact List.mem_append_left _ h
                  · exact List.mem_append_right _ (List.mem_cons_of_mem _ h))]
                exact ih A B hA hB
              · rw [if_neg (by
                  intro h
                  rcases List.mem_cons.1 h with h | h
                  · exact hz h
                  · exact hz2 h), if_neg (by
                  intro h
                  rcases List.mem_append.1 h with h | h
                  · exact hz2 (List.mem_append_left _ h)
                  · rcases List.mem_cons.1 h with h | h
                    · exact hz h
                    · exact hz2 (List.mem_append_right _ h))]
                have := ih A (B ++ [z]) hA (by
                  intro h
                  rcases List.mem_append.1 h with h | h
                  · exact hB h
                  · simp at h; exact hz h.symm)
                simpa using this
        have h2 := this R acc [] h (by simp)
        simpa using h2
      · rw [if_neg (by
          intro h2
          rcases List.mem_cons.1 h2 with h2 | h2
          · exact hyx h2
          · exact hy h2)]
        have := sc_cons R (acc ++ [y]) x (by
          intro h2
          rcases List.mem_append.1 h2 with h2 | h2
          · exact h h2
          · simp at h2; exact hyx h2.symm)
        simpa using this
theorem stk_nodup : ∀ (a D : List Nat), D.Nodup → (stk D a).Nodup
  | [], D, h => h
  | x :: a, D, h => by
    refine stk_nodup a (nxt D x) ?_
    unfold nxt
    rw [List.nodup_append]
    refine ⟨h.erase x, by simp, fun p hp q hq => ?_⟩
    simp at hq
    subst hq
    exact fun e => by
      subst e
      exact (List.Nodup.not_mem_erase h) hp
theorem erase_rev {D : List Nat} (h : D.Nodup) (x : Nat) : (D.erase x).reverse = D.reverse.filter (fun y => decide (y ≠ x)) := by
  rw [h.erase_eq_filter, ← List.filter_reverse]
  congr 1
  funext y
  simp [bne_iff_ne, decide_not]
  rfl
theorem nodup_rev (l : List Nat) : l.reverse.Nodup ↔ l.Nodup := (List.reverse_perm l).nodup_iff
/-- the stack is the keys, each where it is met first from behind -/
theorem stk_sc (T : List Nat) : (stk [] T).reverse = sc [] T.reverse := by
  have : ∀ n, ∀ T : List Nat, T.length = n → (stk [] T).reverse = sc [] T.reverse := by
    intro n
    induction n with
    | zero => intro T h; rw [List.length_eq_zero_iff.1 h]; rfl
    | succ n ih =>
      intro T h
      obtain ⟨a, x, rfl⟩ : ∃ a x, T = a ++ [x] := by
        have hne : T ≠ [] := fun e => by rw [e] at h; simp at h
        exact ⟨T.dropLast, T.getLast hne, (List.dropLast_concat_getLast hne).symm⟩
      rw [stk_snoc]
      unfold nxt
      have h1 : a.length = n := by simpa using h
      rw [List.reverse_append, erase_rev (stk_nodup a [] (by simp)), ih a h1, List.reverse_append]
      simp only [List.reverse_cons, List.reverse_nil, List.nil_append, List.cons_append]
      show _ = sc (if x ∈ [] then [] else [] ++ [x]) a.reverse
      rw [if_neg (by simp)]
      exact (sc_cons a.reverse [] x (by simp)).symm
  exact this _ T rfl
/-- the distance of a key, by what is behind it in the stack -/
theorem dist_at {B A : List Nat} {x : Nat} (h : x ∉ B) : dist (B ++ x :: A) x = (A.length : Int) := by
  unfold dist
  rw [if_pos (by simp), List.idxOf_append, if_neg h, List.idxOf_cons_self, List.length_append, List.length_cons]
  omega
theorem dist_no {D : List Nat} {x : Nat} (h : x ∉ D) : dist D x = -1 := if_neg h
/-- a key that is met from behind at place j, and not before: its distance -/
theorem dist_sc {T pre suf : List Nat} {x : Nat} (h : T.reverse = pre ++ x :: suf) (hx : x ∉ pre) : dist (stk [] T) x = ((sc [] pre).length : Int) := by
  have h1 := stk_sc T
  rw [h, sc_append] at h1
  have h2 : x ∉ sc [] pre := fun e => by rcases (sc_mem pre [] x).1 e with e | e; cases e; exact hx e
  simp only [sc] at h1
  rw [if_neg h2] at h1
  obtain ⟨B, hB⟩ := sc_ext suf (sc [] pre ++ [x])
  rw [hB] at h1
  have hnd : (sc [] pre ++ [x] ++ B).Nodup := by
    rw [← h1]
    exact (nodup_rev _).2 (stk_nodup T [] (by simp))
  have h3 : stk [] T = B.reverse ++ x :: (sc [] pre).reverse := by
    have := congrArg List.reverse h1
    rw [List.reverse_reverse] at this
    rw [this]
    simp
  rw [h3, dist_at]
  · simp
  · intro e
    have e := List.mem_reverse.1 e
    have := (List.nodup_append.1 hnd).2.2 x (by simp) x e
    exact this rfl
theorem dist_sc_no {T : List Nat} {x : Nat} (h : x ∉ T) : dist (stk [] T) x = -1 := by
  apply dist_no
  intro e
  have h1 := List.mem_reverse.2 e
  rw [stk_sc] at h1
  rcases (sc_mem T.reverse [] x).1 h1 with e | e
  · cases e
  · exact h (List.mem_reverse.1 e)
/-- a list of the keys that were used last, at most s -/
theorem take_filter {x : Nat} : ∀ (L : List Nat) (s : Nat), L.Nodup → ((L.take (s + 1)).filter (fun y => decide (y ≠ x))).take s = (L.filter (fun y => decide (y ≠ x))).take s
  | [], s, _ => by simp
  | y :: L, s, h => by
    have h2 := List.nodup_cons.1 h
    by_cases hy : y = x
    · subst hy
      rw [List.take_succ_cons, List.filter_cons, if_neg (by simp), List.filter_cons, if_neg (by simp), filter_id _ (fun e => h2.1 (List.mem_of_mem_take e)), filter_id _ h2.1, List.take_take]
      simp
    · rw [List.take_succ_cons, List.filter_cons, if_pos (by simpa using hy), List.filter_cons, if_pos (by simpa using hy)]
      cases s with
      | zero => simp
      | succ s => rw [List.take_succ_cons, List.take_succ_cons, take_filter L s h2.2]
/-- what an LRU list of size s is, the key used last first -/
def top (D : List Nat) (s : Nat) : List Nat := D.reverse.take s
theorem top_next {D : List Nat} (h : D.Nodup) (x s : Nat) : (x :: (top D s).filter (fun y => decide (y ≠ x))).take s = top (nxt D x) s := by
  unfold top nxt
  rw [List.reverse_append, erase_rev h]
  simp only [List.reverse_cons, List.reverse_nil, List.nil_append, List.cons_append]
  cases s with
  | zero => simp
  | succ s => rw [List.take_succ_cons, List.take_succ_cons, take_filter _ s ((nodup_rev _).2 h)]
theorem top_hit {D : List Nat} (h : D.Nodup) (x s : Nat) : x ∈ top D s ↔ (0 ≤ dist D x ∧ dist D x < (s : Int)) := by
  unfold top
  by_cases hx : x ∈ D
  · obtain ⟨B, A, rfl⟩ := List.append_of_mem hx
    have hn := List.nodup_append.1 h
    have hB : x ∉ B := fun e => hn.2.2 x e x (by simp) rfl
    have hA : x ∉ A := (List.nodup_cons.1 hn.2.1).1
    rw [dist_at hB]
    simp only [List.reverse_append, List.reverse_cons, List.append_assoc, List.singleton_append]
    constructor
    · intro hm
      refine ⟨by omega, ?_⟩
      apply Classical.byContradiction
      intro hs
      have : s ≤ A.length := by omega
      rw [List.take_append_of_le_length (by simpa using this)] at hm
      exact hA (List.mem_reverse.1 (List.mem_of_mem_take hm))
    · rintro ⟨-, hs⟩
      rw [List.take_append]
      refine List.mem_append_right _ ?_
      obtain ⟨k, hk⟩ : ∃ k, s - A.reverse.length = k + 1 := ⟨s - A.length - 1, by simp; omega⟩
      rw [hk, List.take_succ_cons]
      simp
  · rw [dist_no hx]
    constructor
    · intro e
      exact absurd (List.mem_reverse.1 (List.mem_of_mem_take e)) hx
    · rintro ⟨h0, -⟩; omega
theorem upto_snoc (ds : List Int) (d : Int) (k : Nat) : upto (ds ++ [d]) k = upto ds k + if 0 ≤ d ∧ d < (k : Int) then 1 else 0 := by
  unfold upto
  rw [List.filter_append, List.length_append]
  by_cases h : 0 ≤ d ∧ d < (k : Int)
  · simp [h]
  · simp [h]
end Go.Proofs.Ytbbcmheedhdlfaa.Reu
namespace Go.Proofs.Ytbbcmheedhdlfaa.Reu
open Go Go.RowKit Kit Go.Maps Lnk Lru
set_option maxRecDepth 100000 in
theorem rhas_any {w : World} {p : Option Addr} {n c : Nat} {l : List Nat} (hl : l.length = n) (hn : n ≤ 1000000) (r : Ru w p (ints l)) (x : Nat) :
    Calls Try.prog 97 #[.slice p n c, .int .u32 (x : Int)] w fun e w' => e = .returned (.bool (decide (x ∈ l))) ∧ w = w' := by
  have HL := Lib.hid hl
  have HR := Lib.hid r
  obtain ⟨z, hz⟩ : ∃ z : Int, (x : Int) = z := ⟨_, rfl⟩
  have HZ := Lib.hid hz
  rw [hz]
  clear hl r hz
  go_enter Try.func97, Try.ntmps97
  go_wp2_with fail
  go_loopw [5] (fun i wr => ∃ k : Nat, k ≤ n ∧ i = .int .i64 (k : Int) ∧ x ∉ l.take k ∧ w = wr) (fun i _ => n - (intOf i).toNat)
  case atStart => exact ⟨0, by omega, rfl, by simp, rfl⟩
  case round =>
    obtain ⟨k, hk, rfl, hT, rfl⟩ := hrel
    have HT := Lib.hid hT
    clear hT
    by_cases hlt : k < n
    · obtain ⟨s, hs⟩ : ∃ s, l[k]? = some s := ⟨l[k]'(by rw [HL.out]; omega), List.getElem?_eq_getElem _⟩
      obtain ⟨y, rfl, hyb, e0⟩ := HR.out k (s : Int) (Lnk.ints_at hs)
      have hlt' : (k : Int) < (n : Int) := by omega
      have k0 : (0 : Int) ≤ (k : Int) := by omega
      have HS := Lib.hid hs
      clear hs hyb
      obtain ⟨t, ht⟩ : ∃ t : Int, (s : Int) = t := ⟨_, rfl⟩
      have HTT := Lib.hid ht
      rw [ht] at e0
      clear ht
      by_cases hx : t = z
      · have hq : s = x := by have := HTT.out; have := HZ.out; omega
        have HQ := Lib.hid (show decide (x ∈ l) = true from decide_eq_true (hq ▸ List.mem_of_getElem? HS.out))
        subst hx
        clear hq
        go_wp2_with fail
        go_ret
        exact ⟨by rw [HQ.out]; rfl, rfl⟩
      · have hb : (t == z) = false := by rw [beq_eq_false_iff_ne]; exact hx
        have hq : x ∉ l.take (k + 1) := by
          rw [List.take_add_one, HS.out]
          intro h
          rcases List.mem_append.1 h with h | h
          · exact HT.out h
          · simp at h; have := HTT.out; have := HZ.out; omega
        have HQ := Lib.hid hq
        clear hq hx
        go_wp2_with fail
        go_roundw
        case rel => exact ⟨k + 1, by omega, by go_num, HQ.out, trivial⟩
        case measure => simp [intOf]; omega
    · have hlt' : ¬ (k : Int) < (n : Int) := by omega
      obtain rfl : k = n := by omega
      have HQ := Lib.hid (show decide (x ∈ l) = false from decide_eq_false fun h => HT.out (by rw [List.take_of_length_le (Nat.le_of_eq HL.out)]; exact h))
      go_wp2_with fail
      go_ret
      exact ⟨by rw [HQ.out]; rfl, rfl⟩
/-- the keys from place m on, from behind, each once -/
def bk (T : List Nat) (m : Nat) : List Nat := sc [] (T.drop m).reverse
theorem bk_end {T : List Nat} {n : Nat} (h : T.length = n) : bk T n = [] := by
  unfold bk
  rw [List.drop_of_length_le (by omega)]
  rfl
theorem bk_next {T : List Nat} {m x : Nat} (h : T[m]? = some x) : bk T m = if x ∈ bk T (m + 1) then bk T (m + 1) else bk T (m + 1) ++ [x] := by
  obtain ⟨hm, he⟩ := List.getElem?_eq_some_iff.1 h
  unfold bk
  rw [List.drop_eq_getElem_cons hm, he, List.reverse_cons, sc_snoc]
theorem bk_len (T : List Nat) (m : Nat) : (bk T m).length ≤ T.length := by
  have : ∀ (R acc : List Nat), (sc acc R).length ≤ acc.length + R.length := by
    intro R
    induction R with
    | nil => intro acc; simp [sc]
    | cons x R ih =>
      intro acc
      simp only [sc]
      by_cases h : x ∈ acc
      · rw [if_pos h]; have := ih acc; simp only [List.length_cons]; omega
      · rw [if_neg h]; have := ih (acc ++ [x]); simp only [List.length_cons, List.length_append, List.length_nil] at this ⊢; omega
  have h := this (T.drop m).reverse []
  simp at h
  unfold bk
  omega
theorem bk_all (T : List Nat) : bk T 0 = (stk [] T).reverse := by
  unfold bk
  rw [List.drop_zero, stk_sc]
/-- the key of place m is met again at place a, not between -/
theorem dist_hit {T : List Nat} {a m x : Nat} (h : m < a) (hm : T[m]? = some x) (hx : x ∉ (T.take a).drop (m + 1)) : dist (stk [] (T.take a)) x = ((bk (T.take a) (m + 1)).length : Int) := by
  have hm2 : (T.take a)[m]? = some x := by rw [List.getElem?_take, if_pos h]; exact hm
  obtain ⟨hl, he⟩ := List.getElem?_eq_some_iff.1 hm2
  refine dist_sc (pre := ((T.take a).drop (m + 1)).reverse) (suf := ((T.take a).take m).reverse) ?_ (fun e => hx (List.mem_reverse.1 e))
  conv => lhs; rw [← List.take_append_drop m (T.take a), List.drop_eq_getElem_cons hl, he]
  simp
theorem row32 {w : World} {B n : Nat} {v : Value} {l : List Nat} (h : w.ownsRow B 38 1 v n ((ints l).map (Value.int .u32))) : ∃ p c, v = .slice p n c ∧ Ru w p (ints l) ∧ l.length = n := by
  obtain ⟨p, c, h1, h2, h3⟩ := own_ru h
  exact ⟨p, c, h1, h2, by rwa [ints_len] at h3⟩
set_option maxRecDepth 100000 in
theorem rdist_any {w : World} {p : Option Addr} {n c a : Nat} {T : List Nat} (hT : T.length = n) (hn : n ≤ 1000000) (hr : Ru w p (ints T)) (ha : a < n) (x : Nat) (hx : T[a]? = some x) :
    Calls Try.prog 96 #[.slice p n c, .int .i64 (a : Int)] w fun e w' => e = .returned (.int .i64 (dist (stk [] (T.take a)) x)) ∧ Below w.heap.size w w' := by
  have HL := Lib.hid (show T.length = n ∧ n ≤ 1000000 ∧ T[a]? = some x from ⟨hT, hn, hx⟩)
  have HR := Lib.hid hr
  have HK := Lib.hid (fun (v : World) (q : Option Addr) (k cc : Nat) (l : List Nat) (h1 : l.length = k) (h2 : k ≤ 1000000) (h3 : Ru v q (ints l)) (y : Nat) => rhas_any (c := cc) h1 h2 h3 y)
  obtain ⟨i0, hi, hz0, hz1, hz2⟩ := u_parts
  have wa : IntKind.i64.wrap ((a : Int) - 1) = (a : Int) - 1 := IntWalk.i64_in _ (by omega)
  have HTA := Lib.hid (show (T.take a).length = a by rw [List.length_take]; omega)
  clear hT hr hx
  have HX2 := Lib.hid (show dist (stk [] (T.take a)) x = -1 ∨ True from .inr trivial)
  go_enter Try.func96, Try.ntmps96
  go_wp2_with fail
  go_loopw [6, 5] (fun iv kv wr => ∃ (z : Int) (m : Nat), m ≤ a ∧ z = (m : Int) - 1 ∧ iv = .int .i64 z ∧ Hid (x ∉ (T.take a).drop m) ∧ Hid (wr.ownsRow w.heap.size 38 1 kv (bk (T.take a) m).length ((ints (bk (T.take a) m)).map (Value.int .u32))) ∧ Hid (Below w.heap.size w wr)) (fun iv _ _ => (intOf iv + 1).toNat)
  case atStart => exact ⟨_, a, Nat.le_refl _, rfl, rfl, Lib.hid (by rw [List.drop_of_length_le (Nat.le_of_eq HTA.out)]; simp), Lib.hid (by rw [bk_end HTA.out]; exact World.ownsRow_nil _ _ _ _), Lib.hid (Below.refl _ _)⟩
  case round =>
    obtain ⟨z, m, hm, hz, rfl, NX, KS, BW⟩ := hrel
    clear wa HX2
    obtain ⟨kp, kc, rfl, kru, -⟩ := row32 KS.out
    have KRU := Lib.hid kru
    clear kru
    rcases m with _ | m
    · have z0 : ¬ (0 : Int) ≤ z := by omega
      have DN := Lib.hid (show dist (stk [] (T.take a)) x = -1 from dist_sc_no (by have := NX.out; rwa [List.drop_zero] at this))
      clear hz
      go_wp2_with fail
      go_ret
      exact ⟨by rw [DN.out]; rfl, BW.out⟩
    · obtain rfl : z = (m : Int) := by omega
      obtain ⟨t, ht⟩ : ∃ t, T[m]? = some t := ⟨T[m]'(by rw [HL.out.1]; omega), List.getElem?_eq_getElem _⟩
      have HTM := Lib.hid ht
      obtain ⟨u, hu⟩ : ∃ u : Int, (t : Int) = u := ⟨_, rfl⟩
      obtain ⟨v, hv⟩ : ∃ v : Int, (x : Int) = v := ⟨_, rfl⟩
      have HU := Lib.hid (show (t : Int) = u ∧ (x : Int) = v from ⟨hu, hv⟩)
      obtain ⟨y, rfl, -, e1⟩ := (HR.out.below BW.out) m u (by rw [← hu]; exact Lnk.ints_at ht)
      obtain ⟨y', hy', -, e2⟩ := (HR.out.below BW.out) a v (by rw [← hv]; exact Lnk.ints_at HL.out.2.2)
      cases hy'
      have HCC := Lib.hid (show wr.drew.cell? (y.add m) = some (.int .u32 u) ∧ wr.drew.cell? (y.add a) = some (.int .u32 v) ∧ Below w.heap.size w wr.drew from ⟨e1, e2, Below.drew BW.out⟩)
      have j0 : (0 : Int) ≤ (m : Int) := by omega
      have j1 : (m : Int) < (n : Int) := by omega
      have j2 : (0 : Int) ≤ (a : Int) := by omega
      have j3 : (a : Int) < (n : Int) := by omega
      have HM := Lib.hid (show m + 1 ≤ a ∧ a < n from ⟨hm, ha⟩)
      clear hz hm ha ht hu hv hn
      by_cases huv : u = v
      · subst huv
        have DN := Lib.hid (show dist (stk [] (T.take a)) x = ((bk (T.take a) (m + 1)).length : Int) from by
          have := HU.out
          obtain rfl : t = x := by omega
          exact dist_hit (by have := HM.out; omega) HTM.out NX.out)
        go_wp2_with fail
        go_region_held3 (fun w' => w'.cell? (y.add m) = some (.int .u32 u) ∧ w'.cell? (y.add a) = some (.int .u32 u) ∧ Below w.heap.size w w')
          (first
            | (exact HCC.out)
            | assumption
            | fail)
          (first | fail)
        go_wp2_with fail
        go_ret
        exact ⟨by rw [DN.out]; rfl, HCC.out.2.2⟩
      · have hb : (u == v) = false := by rw [beq_eq_false_iff_ne]; exact huv
        have HNE := Lib.hid huv
        clear huv
        have HX := Lib.hid (show x ∉ (T.take a).drop m from fun h => by
          have h2 : (T.take a)[m]? = some t := by rw [List.getElem?_take, if_pos (by have := HM.out; omega)]; exact HTM.out
          obtain ⟨hl, he⟩ := List.getElem?_eq_some_iff.1 h2
          rw [List.drop_eq_getElem_cons hl, he] at h
          rcases List.mem_cons.1 h with h | h
          · have := HU.out; have := HNE.out; omega
          · exact NX.out h)
        have hbn := bk_next (T := T.take a) (m := m) (x := t) (by rw [List.getElem?_take, if_pos (by have := HM.out; omega)]; exact HTM.out)
        have HB := Lib.hid hbn
        have hlen : (bk (T.take a) (m + 1)).length ≤ 1000000 := by
          have h1 := bk_len (T.take a) (m + 1)
          have h2 := HTA.out
          have h3 := HL.out.2.1
          have h4 := HM.out
          omega
        have HLEN := Lib.hid hlen
        clear hbn hlen
        go_wp2_with fail
        go_region_held3 (fun w' => w'.cell? (y.add m) = some (.int .u32 u) ∧ w'.cell? (y.add a) = some (.int .u32 v) ∧ Below w.heap.size w w')
          (first
            | (exact HCC.out)
            | assumption
            | fail)
          (first | fail)
        have KD := Lib.hid (show wr.drew.ownsRow w.heap.size 38 1 (.slice kp (bk (T.take a) (m + 1)).length kc) (bk (T.take a) (m + 1)).length ((ints (bk (T.take a) (m + 1))).map (Value.int .u32)) from KS.out)
        have HC := Lib.hid (HK.out wr.drew kp _ kc _ rfl HLEN.out (KRU.out.below (Below.drew (Below.refl _ _))) t)
        rw [HU.out.1] at HC
        obtain ⟨V, hV⟩ : ∃ V, wr.drew = V := ⟨_, rfl⟩
        rw [hV] at HCC KD HC ⊢
        have HVV := Lib.hid hV
        clear hV KRU KS BW e1 e2
        obtain ⟨e1, e2, -⟩ := HCC.out
        go_wp2_with fail
        refine HC.out.mono ?_
        rintro e w3 ⟨rfl, rfl⟩
        clear HC
        have wm : IntKind.i64.wrap ((m : Int) - 1) = (m : Int) - 1 := IntWalk.i64_in _ (by have := HM.out; have := HL.out.2.1; omega)
        by_cases hin : t ∈ bk (T.take a) (m + 1)
        · have hd : decide (t ∈ bk (T.take a) (m + 1)) = true := decide_eq_true hin
          have HE := Lib.hid (show bk (T.take a) m = bk (T.take a) (m + 1) from by rw [HB.out, if_pos hin])
          clear hin
          go_wp2_with fail
          refine ⟨⟨_, m, by have := HM.out; omega, rfl, rfl, HX, ?_, ?_⟩, ?_⟩
          · rw [HE.out]; exact KD
          · exact Lib.hid HCC.out.2.2
          · simp [intOf] <;> omega
        · have hd : decide (t ∈ bk (T.take a) (m + 1)) = false := decide_eq_false hin
          have HE := Lib.hid (show bk (T.take a) m = bk (T.take a) (m + 1) ++ [t] from by rw [HB.out, if_neg hin])
          clear hin
          go_wp2_with (at_builtin; refine wpList_app1 rfl (.tmp 31) (.tmp 36) 39 rfl w.heap.size 38 i0 (.int .u32 0) 4 Try.underlying39 hi hz0 hz1 hz2 rfl _ _ _ (.int .u32 u) rfl KD.out rfl rfl (by have := HLEN.out; omega) (by omega) HCC.out.2.2.size ?_; intro v' w' o' b' s'; have BN := Lib.hid (HCC.out.2.2.trans b'); have ON := Lib.hid o'; clear o' b' s')
          refine ⟨⟨_, m, by have := HM.out; omega, rfl, rfl, HX, ?_, BN⟩, ?_⟩
          · rw [HE.out, List.length_append, List.length_singleton]
            have := ON.out
            rw [← HU.out.1] at this
            unfold ints at this ⊢
            rw [List.map_append, List.map_append]
            exact Lib.hid this
          · simp [intOf] <;> omega
end Go.Proofs.Ytbbcmheedhdlfaa.Reu
namespace Go.Proofs.Ytbbcmheedhdlfaa.Reu
open Go Go.RowKit Kit Go.Maps Lnk Lru
theorem row_bl {w w' : World} {B n : Nat} {e : TypeId} {v : Value} {xs : List Value} (h : w.ownsRow B e 1 v n xs) (hb : Below w.heap.size w w') : w'.ownsRow B e 1 v n xs := row_of h fun g hg => hb.block g (h.lt g hg).2
theorem ints_snoc (l : List Nat) (x : Nat) : (ints (l ++ [x])).map (Value.int .u32) = (ints l).map (Value.int .u32) ++ [.int .u32 (x : Int)] := by unfold ints; simp
theorem take_lt {T : List Nat} {n j : Nat} (h : T.length = n) (hj : j < n) : ∃ x, T[j]? = some x := ⟨T[j]'(by omega), List.getElem?_eq_getElem _⟩
theorem take_next {T : List Nat} {j x : Nat} (h : T[j]? = some x) : T.take (j + 1) = T.take j ++ [x] := by rw [List.take_add_one, h]; rfl
set_option maxRecDepth 100000 in
theorem rDistances_any {w : World} {p : Option Addr} {n c : Nat} {T : List Nat} (hT : T.length = n) (hn : n ≤ 1000000) (hr : Ru w p (ints T)) :
    Calls Try.prog 38 #[.slice p n c] w fun e w' => ∃ v, e = .returned v ∧ w'.ownsRow w.heap.size 3 1 v n ((dists [] T).map (Value.int .i64)) ∧ Below w.heap.size w w' := by
  have HL := Lib.hid (show T.length = n ∧ n ≤ 1000000 from ⟨hT, hn⟩)
  have HR := Lib.hid hr
  have HK := Lib.hid (fun (v : World) (hb : Below w.heap.size w v) (a x : Nat) (ha : a < n) (hx : T[a]? = some x) => rdist_any (c := c) hT hn (hr.below hb) ha x hx)
  obtain ⟨i0, hi, hz0, hz1, hz2⟩ := i_parts
  clear hT hn hr
  go_enter Try.func38, Try.ntmps38
  go_wp2_with fail
  go_loopw [4, 3] (fun iv lv wr => ∃ j : Nat, j ≤ n ∧ iv = .int .i64 (j : Int) ∧ Hid (wr.ownsRow w.heap.size 3 1 lv j ((dists [] (T.take j)).map (Value.int .i64))) ∧ Hid (Below w.heap.size w wr)) (fun iv _ _ => n - (intOf iv).toNat)
  case atStart => exact ⟨0, Nat.zero_le _, rfl, Lib.hid (World.ownsRow_nil _ _ _ _), Lib.hid (Below.refl _ _)⟩
  case round =>
    obtain ⟨j, hj, rfl, KS, BW⟩ := hrel
    obtain ⟨a, kc, rfl, -, -⟩ := own_form KS.out
    by_cases hjn : j < n
    · have i1 : (j : Int) < (n : Int) := by omega
      obtain ⟨x, hx⟩ := take_lt HL.out.1 hjn
      have HC := Lib.hid (HK.out wr BW.out j x hjn hx)
      have HN := Lib.hid (show dists [] (T.take (j + 1)) = dists [] (T.take j) ++ [dist (stk [] (T.take j)) x] from by rw [take_next hx]; exact dists_snoc _ _ _)
      obtain ⟨d, hd⟩ : ∃ d, dist (stk [] (T.take j)) x = d := ⟨_, rfl⟩
      rw [hd] at HC HN
      have wj := IntWalk.i64_in ((j : Int) + 1) (by have := HL.out.2; omega)
      have HJ := Lib.hid (show j < n from hjn)
      clear hx hd hj hjn
      go_wp2_with fail
      refine HC.out.mono ?_
      rintro e w3 ⟨rfl, b3⟩
      have KD := Lib.hid (row_bl KS.out b3)
      have BD := Lib.hid (tr BW.out b3)
      clear b3 HC KS
      go_wp2_with (at_builtin; refine wpList_app1 rfl (.tmp 11) (.tmp 15) 64 rfl w.heap.size 3 i0 (.int .i64 0) 8 Try.underlying64 hi hz0 hz1 hz2 rfl _ _ _ (.int .i64 d) rfl KD.out rfl rfl (by have := HL.out.2; have := HJ.out; omega) (by omega) BD.out.size ?_; intro v' w' o' b' s'; have BN := Lib.hid (BD.out.trans b'); have ON := Lib.hid o'; clear o' b' s')
      go_roundw
      case rel => exact ⟨j + 1, by have := HJ.out; omega, by go_num, by rw [HN.out, List.map_append]; exact ON, BN⟩
      case measure => have := HJ.out; simp [intOf]; omega
    · have i1 : ¬ (j : Int) < (n : Int) := by omega
      obtain rfl : j = n := by omega
      have KE := Lib.hid KS.out
      rw [List.take_of_length_le (Nat.le_of_eq HL.out.1)] at KE
      go_wp2_with fail
      go_ret
      exact ⟨_, rfl, KE.out, BW.out⟩
set_option maxRecDepth 100000 in
theorem rStack_any {w : World} {p : Option Addr} {n c : Nat} {T : List Nat} (hT : T.length = n) (hn : n ≤ 1000000) (hr : Ru w p (ints T)) :
    Calls Try.prog 40 #[.slice p n c] w fun e w' => ∃ v, e = .returned v ∧ w'.ownsRow w.heap.size 38 1 v (stk [] T).length ((ints (stk [] T).reverse).map (Value.int .u32)) ∧ Below w.heap.size w w' := by
  have HL := Lib.hid (show T.length = n ∧ n ≤ 1000000 from ⟨hT, hn⟩)
  have HR := Lib.hid hr
  have HK := Lib.hid (fun (v : World) (q : Option Addr) (k cc : Nat) (l : List Nat) (h1 : l.length = k) (h2 : k ≤ 1000000) (h3 : Ru v q (ints l)) (y : Nat) => rhas_any (c := cc) h1 h2 h3 y)
  obtain ⟨i0, hi, hz0, hz1, hz2⟩ := u_parts
  have wa : IntKind.i64.wrap ((n : Int) - 1) = (n : Int) - 1 := IntWalk.i64_in _ (by omega)
  clear hT hn hr
  go_enter Try.func40, Try.ntmps40
  go_wp2_with fail
  go_loopw [4, 3] (fun iv kv wr => ∃ (z : Int) (m : Nat), m ≤ n ∧ z = (m : Int) - 1 ∧ iv = .int .i64 z ∧ Hid (wr.ownsRow w.heap.size 38 1 kv (bk T m).length ((ints (bk T m)).map (Value.int .u32))) ∧ Hid (Below w.heap.size w wr)) (fun iv _ _ => (intOf iv + 1).toNat)
  case atStart => exact ⟨_, n, Nat.le_refl _, rfl, rfl, Lib.hid (by rw [bk_end HL.out.1]; exact World.ownsRow_nil _ _ _ _), Lib.hid (Below.refl _ _)⟩
  case round =>
    obtain ⟨z, m, hm, hz, rfl, KS, BW⟩ := hrel
    clear wa
    obtain ⟨kp, kc, rfl, kru, -⟩ := row32 KS.out
    have KRU := Lib.hid kru
    clear kru
    rcases m with _ | m
    · have z0 : ¬ (0 : Int) ≤ z := by omega
      clear hz
      go_wp2_with fail
      go_ret
      have h := KS.out
      rw [bk_all, List.length_reverse] at h
      exact ⟨_, rfl, by rw [bk_all, List.length_reverse]; exact h, BW.out⟩
    · obtain rfl : z = (m : Int) := by omega
      obtain ⟨t, ht⟩ := take_lt HL.out.1 (show m < n by omega)
      obtain ⟨u, hu⟩ : ∃ u : Int, (t : Int) = u := ⟨_, rfl⟩
      have HU := Lib.hid hu
      obtain ⟨y, rfl, -, e1⟩ := (HR.out.below BW.out) m u (by rw [← hu]; exact Lnk.ints_at ht)
      have j0 : (0 : Int) ≤ (m : Int) := by omega
      have j1 : (m : Int) < (n : Int) := by omega
      have HB := Lib.hid (bk_next ht)
      have hlen : (bk T (m + 1)).length ≤ 1000000 := by have := bk_len T (m + 1); have := HL.out; omega
      have HLEN := Lib.hid hlen
      have HM := Lib.hid (show m + 1 ≤ n from hm)
      have HC := Lib.hid (HK.out wr kp _ kc _ rfl HLEN.out KRU.out t)
      rw [hu] at HC
      clear hz hm ht hu hlen
      go_wp2_with fail
      refine HC.out.mono ?_
      rintro e w3 ⟨rfl, rfl⟩
      clear HC
      have wm : IntKind.i64.wrap ((m : Int) - 1) = (m : Int) - 1 := IntWalk.i64_in _ (by have := HM.out; have := HL.out.2; omega)
      by_cases hin : t ∈ bk T (m + 1)
      · have hd : decide (t ∈ bk T (m + 1)) = true := decide_eq_true hin
        have HE := Lib.hid (show bk T m = bk T (m + 1) from by rw [HB.out, if_pos hin])
        clear hin
        go_wp2_with fail
        refine ⟨⟨_, m, by have := HM.out; omega, rfl, rfl, ?_, BW⟩, ?_⟩
        · rw [HE.out]; exact KS
        · simp [intOf] <;> omega
      · have hd : decide (t ∈ bk T (m + 1)) = false := decide_eq_false hin
        have HE := Lib.hid (show bk T m = bk T (m + 1) ++ [t] from by rw [HB.out, if_neg hin])
        clear hin
        go_wp2_with (at_builtin; refine wpList_app1 rfl (.tmp 19) (.tmp 24) 39 rfl w.heap.size 38 i0 (.int .u32 0) 4 Try.underlying39 hi hz0 hz1 hz2 rfl _ _ _ (.int .u32 u) rfl KS.out rfl rfl (by have := HLEN.out; omega) (by omega) BW.out.size ?_; intro v' w' o' b' s'; have BN := Lib.hid (BW.out.trans b'); have ON := Lib.hid o'; clear o' b' s')
        refine ⟨⟨_, m, by have := HM.out; omega, rfl, rfl, ?_, BN⟩, ?_⟩
        · rw [HE.out, List.length_append, List.length_singleton, ints_snoc, HU.out]
          exact ON
        · simp [intOf] <;> omega
end Go.Proofs.Ytbbcmheedhdlfaa.Reu
namespace Go.Proofs.Ytbbcmheedhdlfaa.Reu
open Go Go.RowKit Kit Go.Maps Lnk Lru
theorem top_len (D : List Nat) (s : Nat) : (top D s).length ≤ s := by unfold top; rw [List.length_take]; omega
set_option maxRecDepth 100000 in
set_option maxHeartbeats 2000000 in
theorem rhits_any {w : World} {p : Option Addr} {n c : Nat} {T : List Nat} (hT : T.length = n) (hn : n ≤ 1000000) (hr : Ru w p (ints T)) (s : Nat) (hs : s ≤ 1000000) :
    Calls Try.prog 98 #[.slice p n c, .int .i64 (s : Int)] w fun e w' => e = .returned (.int .i64 (upto (dists [] T) s : Int)) ∧ Below w.heap.size w w' := by
  have HL := Lib.hid (show T.length = n ∧ n ≤ 1000000 from ⟨hT, hn⟩)
  have HS := Lib.hid hs
  have HR := Lib.hid hr
  have HK := Lib.hid (fun (v : World) (q : Option Addr) (k cc : Nat) (l : List Nat) (h1 : l.length = k) (h2 : k ≤ 1000000) (h3 : Ru v q (ints l)) (y : Nat) => rhas_any (c := cc) h1 h2 h3 y)
  obtain ⟨i0, hi, hz0, hz1, hz2⟩ := u_parts
  clear hT hn hr hs
  go_enter Try.func98, Try.ntmps98
  go_wp2_with fail
  go_loopw [7, 5, 6] (fun iv nv lv wr => ∃ j : Nat, j ≤ n ∧ iv = .int .i64 (j : Int) ∧ nv = .int .i64 (upto (dists [] (T.take j)) s : Int) ∧ (∃ lp lc, lv = .slice lp (top (stk [] (T.take j)) s).length lc ∧ Hid (Ru wr lp (ints (top (stk [] (T.take j)) s)))) ∧ Hid (Below w.heap.size w wr)) (fun iv _ _ _ => n - (intOf iv).toNat)
  case atStart => exact ⟨0, Nat.zero_le _, rfl, rfl, ⟨none, 0, by simp [top, stk], Lib.hid (fun i x hx => by simp [top, stk, ints] at hx)⟩, Lib.hid (Below.refl _ _)⟩
  case round =>
    obtain ⟨j, hj, rfl, rfl, ⟨lp, lc, rfl, lru⟩, BW⟩ := hrel
    obtain ⟨L, hL⟩ : ∃ L, top (stk [] (T.take j)) s = L := ⟨_, rfl⟩
    obtain ⟨z, hz⟩ : ∃ z : Int, (upto (dists [] (T.take j)) s : Int) = z := ⟨_, rfl⟩
    obtain ⟨M, hM⟩ : ∃ M, L.length = M := ⟨_, rfl⟩
    rw [hL] at lru ⊢
    rw [hM, hz]
    by_cases hjn : j < n
    · have i1 : (j : Int) < (n : Int) := by omega
      have j0 : (0 : Int) ≤ (j : Int) := by omega
      obtain ⟨x, hx⟩ := take_lt HL.out.1 hjn
      obtain ⟨u, hu⟩ : ∃ u : Int, (x : Int) = u := ⟨_, rfl⟩
      obtain ⟨yy, hyy, -, e0⟩ := (HR.out.below BW.out) j u (by rw [← hu]; exact Lnk.ints_at hx)
      subst hyy
      have LU := Lib.hid (show Ru wr lp (ints L) ∧ L.length = M ∧ M ≤ s from ⟨lru.out, hM, by rw [← hM, ← hL]; exact top_len _ _⟩)
      have HC := Lib.hid (HK.out wr lp M lc L hM (by have := LU.out; have := HS.out; omega) lru.out x)
      rw [hu] at HC
      have HX := Lib.hid hx
      have HU := Lib.hid hu
      have HJ := Lib.hid (show j < n from hjn)
      have HLL := Lib.hid hL
      have HZ := Lib.hid (show (upto (dists [] (T.take j)) s : Int) = z ∧ 0 ≤ z ∧ z ≤ j from ⟨hz, by omega, by
        have h := List.length_filter_le (fun d => decide (0 ≤ d ∧ d < (s : Int))) (dists [] (T.take j))
        rw [dists_len, List.length_take] at h
        unfold upto at hz
        omega⟩)
      have HUP := Lib.hid (show upto (dists [] (T.take (j + 1))) s = upto (dists [] (T.take j)) s + (if x ∈ top (stk [] (T.take j)) s then 1 else 0) ∧ top (stk [] (T.take (j + 1))) s = (x :: L.filter (fun y => decide (y ≠ x))).take s from by
        rw [take_next hx, dists_snoc, upto_snoc, stk_snoc]
        refine ⟨?_, ?_⟩
        · congr 1
          by_cases h : x ∈ top (stk [] (T.take j)) s
          · rw [if_pos h, if_pos ((top_hit (stk_nodup _ [] (by simp)) x s).1 h)]
          · rw [if_neg h, if_neg fun e => h ((top_hit (stk_nodup _ [] (by simp)) x s).2 e)]
        · rw [← hL]
          exact (top_next (stk_nodup _ [] (by simp)) x s).symm)
      rw [hL] at HUP
      have wj := IntWalk.i64_in ((j : Int) + 1) (by have := HL.out.2; omega)
      have wz := IntWalk.i64_in (z + 1) (by have := HZ.out; have := HL.out; omega)
      clear hx hu hj hjn hL hz hM lru
      go_wp2_with fail
      refine HC.out.mono ?_
      rintro e w3 ⟨rfl, rfl⟩
      clear HC
      by_cases hin : x ∈ L
      · have hd : decide (x ∈ L) = true := decide_eq_true hin
        have HZ1 := Lib.hid (show (upto (dists [] (T.take (j + 1))) s : Int) = z + 1 from by have := HUP.out.1; rw [if_pos hin] at this; have := HZ.out; omega)
        clear hin
        go_wp2_with fail
        obtain ⟨W, rfl⟩ : ∃ W, W = wr := ⟨_, rfl⟩
        have OW := Lib.hid (App.one_own W (.int .u32 u) 38)
        have BA := Lib.hid (tr BW.out (box_below W #[.int .u32 u] 38))
        go_loopw [9, 8] (fun kv xv V => ∃ k : Nat, k ≤ M ∧ kv = .int .i64 (k : Int) ∧ Hid (V.ownsRow W.heap.size 38 1 xv ((x :: (L.take k).filter (fun y => decide (y ≠ x))).length) ((ints (x :: (L.take k).filter (fun y => decide (y ≠ x)))).map (Value.int .u32))) ∧ Hid (Below W.heap.size W V)) (fun kv _ _ => M - (intOf kv).toNat)
        case atStart =>
          refine ⟨0, Nat.zero_le _, rfl, ?_, Lib.hid (box_below W #[.int .u32 u] 38)⟩
          have h := OW.out
          rw [← HU.out] at h
          rw [← HU.out]
          exact Lib.hid h
        case round =>
          obtain ⟨k, hk, rfl, KS, BV⟩ := hrel
          obtain ⟨N0, hN0⟩ : ∃ N0, (x :: (L.take k).filter (fun y => decide (y ≠ x))).length = N0 := ⟨_, rfl⟩
          have hks := KS.out
          rw [hN0] at hks
          obtain ⟨xp, xc, rfl, xru, -⟩ := row32 hks
          have XRU := Lib.hid xru
          have KS0 := Lib.hid hks
          have HN0 := Lib.hid hN0
          clear xru hks hN0 KS OW
          by_cases hkM : k < M
          · have i2 : (k : Int) < (M : Int) := by omega
            have k0 : (0 : Int) ≤ (k : Int) := by omega
            obtain ⟨t, ht⟩ := take_lt LU.out.2.1 hkM
            obtain ⟨v, hv⟩ : ∃ v : Int, (t : Int) = v := ⟨_, rfl⟩
            obtain ⟨yl, rfl, -, e1⟩ := (LU.out.1.below BV.out) k v (by rw [← hv]; exact Lnk.ints_at ht)
            obtain ⟨yt, hyt, -, e2⟩ := (HR.out.below (tr BW.out BV.out)) j u (by rw [← HU.out]; exact Lnk.ints_at HX.out)
            cases hyt
            have HCC := Lib.hid (show wr.drew.cell? (yl.add k) = some (.int .u32 v) ∧ wr.drew.cell? (yy.add j) = some (.int .u32 u) ∧ Below W.heap.size W wr.drew from ⟨e1, e2, Below.drew BV.out⟩)
            have KD0 := Lib.hid (show wr.drew.ownsRow W.heap.size 38 1 (.slice xp N0 xc) N0 ((ints (x :: (L.take k).filter (fun y => decide (y ≠ x)))).map (Value.int .u32)) from KS0.out)
            have HV := Lib.hid hv
            have HT := Lib.hid ht
            have wk := IntWalk.i64_in ((k : Int) + 1) (by have := HS.out; have := LU.out; omega)
            have HKM := Lib.hid (show k < M ∧ k < L.length from ⟨hkM, by have := LU.out.2.1; omega⟩)
            have HTK := Lib.hid (show L.take (k + 1) = L.take k ++ [t] from take_next ht)
            clear hk hkM ht hv KS0 XRU
            by_cases hvu : v = u
            · subst hvu
              have hn1 : (v != v) = false := by simp
              have HE := Lib.hid (show (L.take (k + 1)).filter (fun y => decide (y ≠ x)) = (L.take k).filter (fun y => decide (y ≠ x)) from by
                rw [HTK.out, List.filter_append]
                have h1 := HU.out
                have h2 := HV.out
                have : t = x := by omega
                subst this
                simp)
              go_wp2_with fail
              go_region_held3 (fun w' => w'.cell? (yl.add k) = some (.int .u32 v) ∧ w'.cell? (yy.add j) = some (.int .u32 v) ∧ Below W.heap.size W w')
                (first
                  | (exact HCC.out)
                  | assumption
                  | fail)
                (first | fail)
              obtain ⟨Vd, hVd⟩ : ∃ Vd, wr.drew = Vd := ⟨_, rfl⟩
              rw [hVd] at HCC KD0 ⊢
              go_wp2_with fail
              go_roundw
              case rel => exact ⟨k + 1, by have := HKM.out; omega, by go_num, by rw [HE.out, HN0.out]; exact KD0, Lib.hid HCC.out.2.2⟩
              case measure => have := HKM.out; simp [intOf]; omega
            · have hn1 : (v != u) = true := by rw [bne_iff_ne]; exact hvu
              have hn2 : (v == u) = false := by rw [beq_eq_false_iff_ne]; exact hvu
              have HVU := Lib.hid hvu
              have HE := Lib.hid (show (L.take (k + 1)).filter (fun y => decide (y ≠ x)) = (L.take k).filter (fun y => decide (y ≠ x)) ++ [t] from by
                rw [HTK.out, List.filter_append]
                have h1 := HU.out
                have h2 := HV.out
                have h3 := HVU.out
                have : t ≠ x := by omega
                simp [this])
              have HLN := Lib.hid (show N0 ≤ 1000001 from by
                have h1 := HN0.out
                have h2 := List.length_filter_le (fun y => decide (y ≠ x)) (L.take k)
                have h3 := HKM.out
                have h4 := LU.out
                have h5 := HS.out
                rw [List.length_cons] at h1
                rw [List.length_take] at h2
                omega)
              clear hvu
              go_wp2_with fail
              go_region_held3 (fun w' => w'.cell? (yl.add k) = some (.int .u32 v) ∧ w'.cell? (yy.add j) = some (.int .u32 u) ∧ Below W.heap.size W w')
                (first
                  | (exact HCC.out)
                  | assumption
                  | fail)
                (first | fail)
              obtain ⟨Vd, hVd⟩ : ∃ Vd, wr.drew = Vd := ⟨_, rfl⟩
              rw [hVd] at HCC KD0 ⊢
              have HVd := Lib.hid hVd
              clear e1 e2 hVd
              obtain ⟨e1, e2, -⟩ := HCC.out
              go_wp2_with (at_builtin; refine wpList_app1 rfl (.tmp 44) (.tmp 49) 39 rfl W.heap.size 38 i0 (.int .u32 0) 4 Try.underlying39 hi hz0 hz1 hz2 rfl _ _ _ (.int .u32 v) rfl KD0.out rfl rfl (by have := HLN.out; omega) (by omega) HCC.out.2.2.size ?_; intro v' w' o' b' s'; have BN := Lib.hid (HCC.out.2.2.trans b'); have ON := Lib.hid o'; clear o' b' s')
              go_roundw
              case rel =>
                refine ⟨k + 1, by have := HKM.out; omega, by go_num, ?_, BN⟩
                rw [HE.out, ← List.cons_append, List.length_append, List.length_singleton, HN0.out, ints_snoc, HV.out]
                exact ON
              case measure => have := HKM.out; simp [intOf]; omega
          · have i2 : ¬ (k : Int) < (M : Int) := by omega
            obtain rfl : k = M := by omega
            have hft : (L.take k).filter (fun y => decide (y ≠ x)) = L.filter (fun y => decide (y ≠ x)) := by rw [List.take_of_length_le (Nat.le_of_eq LU.out.2.1)]
            rw [hft] at KS0 XRU HN0
            obtain ⟨N1, rfl⟩ : ∃ N1, N0 = N1 + 1 := ⟨N0 - 1, by have := HN0.out; rw [List.length_cons] at this; omega⟩
            obtain ⟨g, cap, hsl⟩ := ownsRow_succ KS0.out
            cases hsl
            obtain ⟨q', k', hv', -, hcap⟩ := own_form KS0.out
            cases hv'
            obtain ⟨mm, hmm⟩ : ∃ mm, min s (N1 + 1) = mm := ⟨_, rfl⟩
            have hmn : min (s : Int) ((N1 : Int) + 1) = (mm : Int) := by omega
            have m0 : (0 : Int) ≤ (mm : Int) := by omega
            have m1 : (mm : Int) ≤ (xc : Int) := by omega
            have HMM := Lib.hid hmm
            clear hft hmm
            go_wp2_with fail
            have hm2 : (if (N1 : Int) + 1 < (s : Int) then (N1 : Int) + 1 else (s : Int)).toNat = mm := by have := HMM.out; split <;> omega
            refine ⟨⟨j + 1, by have := HJ.out; omega, by go_num, by rw [HZ1.out], ⟨_, _, by rw [hm2, HUP.out.2, List.length_take, HN0.out, HMM.out], ?_⟩, Lib.hid (tr BW.out BV.out)⟩, ?_⟩
            · rw [HUP.out.2]
              unfold ints
              rw [List.map_take]
              exact Lib.hid (XRU.out.take s)
            · have := HJ.out; simp [intOf]; omega
      · have hd : decide (x ∈ L) = false := decide_eq_false hin
        have HZ1 := Lib.hid (show (upto (dists [] (T.take (j + 1))) s : Int) = z from by have := HUP.out.1; rw [if_neg hin] at this; have := HZ.out; omega)
        clear hin
        go_wp2_with fail
        obtain ⟨W, rfl⟩ : ∃ W, W = wr := ⟨_, rfl⟩
        have OW := Lib.hid (App.one_own W (.int .u32 u) 38)
        have BA := Lib.hid (tr BW.out (box_below W #[.int .u32 u] 38))
        go_loopw [9, 8] (fun kv xv V => ∃ k : Nat, k ≤ M ∧ kv = .int .i64 (k : Int) ∧ Hid (V.ownsRow W.heap.size 38 1 xv ((x :: (L.take k).filter (fun y => decide (y ≠ x))).length) ((ints (x :: (L.take k).filter (fun y => decide (y ≠ x)))).map (Value.int .u32))) ∧ Hid (Below W.heap.size W V)) (fun kv _ _ => M - (intOf kv).toNat)
        case atStart =>
          refine ⟨0, Nat.zero_le _, rfl, ?_, Lib.hid (box_below W #[.int .u32 u] 38)⟩
          have h := OW.out
          rw [← HU.out] at h
          rw [← HU.out]
          exact Lib.hid h
        case round =>
          obtain ⟨k, hk, rfl, KS, BV⟩ := hrel
          obtain ⟨N0, hN0⟩ : ∃ N0, (x :: (L.take k).filter (fun y => decide (y ≠ x))).length = N0 := ⟨_, rfl⟩
          have hks := KS.out
          rw [hN0] at hks
          obtain ⟨xp, xc, rfl, xru, -⟩ := row32 hks
          have XRU := Lib.hid xru
          have KS0 := Lib.hid hks
          have HN0 := Lib.hid hN0
          clear xru hks hN0 KS OW
          by_cases hkM : k < M
          · have i2 : (k : Int) < (M : Int) := by omega
            have k0 : (0 : Int) ≤ (k : Int) := by omega
            obtain ⟨t, ht⟩ := take_lt LU.out.2.1 hkM
            obtain ⟨v, hv⟩ : ∃ v : Int, (t : Int) = v := ⟨_, rfl⟩
            obtain ⟨yl, rfl, -, e1⟩ := (LU.out.1.below BV.out) k v (by rw [← hv]; exact Lnk.ints_at ht)
            obtain ⟨yt, hyt, -, e2⟩ := (HR.out.below (tr BW.out BV.out)) j u (by rw [← HU.out]; exact Lnk.ints_at HX.out)
            cases hyt
            have HCC := Lib.hid (show wr.drew.cell? (yl.add k) = some (.int .u32 v) ∧ wr.drew.cell? (yy.add j) = some (.int .u32 u) ∧ Below W.heap.size W wr.drew from ⟨e1, e2, Below.drew BV.out⟩)
            have KD0 := Lib.hid (show wr.drew.ownsRow W.heap.size 38 1 (.slice xp N0 xc) N0 ((ints (x :: (L.take k).filter (fun y => decide (y ≠ x)))).map (Value.int .u32)) from KS0.out)
            have HV := Lib.hid hv
            have HT := Lib.hid ht
            have wk := IntWalk.i64_in ((k : Int) + 1) (by have := HS.out; have := LU.out; omega)
            have HKM := Lib.hid (show k < M ∧ k < L.length from ⟨hkM, by have := LU.out.2.1; omega⟩)
            have HTK := Lib.hid (show L.take (k + 1) = L.take k ++ [t] from take_next ht)
            clear hk hkM ht hv KS0 XRU
            by_cases hvu : v = u
            · subst hvu
              have hn1 : (v != v) = false := by simp
              have HE := Lib.hid (show (L.take (k + 1)).filter (fun y => decide (y ≠ x)) = (L.take k).filter (fun y => decide (y ≠ x)) from by
                rw [HTK.out, List.filter_append]
                have h1 := HU.out
                have h2 := HV.out
                have : t = x := by omega
                subst this
                simp)
              go_wp2_with fail
              go_region_held3 (fun w' => w'.cell? (yl.add k) = some (.int .u32 v) ∧ w'.cell? (yy.add j) = some (.int .u32 v) ∧ Below W.heap.size W w')
                (first
                  | (exact HCC.out)
                  | assumption
                  | fail)
                (first | fail)
              obtain ⟨Vd, hVd⟩ : ∃ Vd, wr.drew = Vd := ⟨_, rfl⟩
              rw [hVd] at HCC KD0 ⊢
              go_wp2_with fail
              go_roundw
              case rel => exact ⟨k + 1, by have := HKM.out; omega, by go_num, by rw [HE.out, HN0.out]; exact KD0, Lib.hid HCC.out.2.2⟩
              case measure => have := HKM.out; simp [intOf]; omega
            · have hn1 : (v != u) = true := by rw [bne_iff_ne]; exact hvu
              have hn2 : (v == u) = false := by rw [beq_eq_false_iff_ne]; exact hvu
              have HVU := Lib.hid hvu
              have HE := Lib.hid (show (L.take (k + 1)).filter (fun y => decide (y ≠ x)) = (L.take k).filter (fun y => decide (y ≠ x)) ++ [t] from by
                rw [HTK.out, List.filter_append]
                have h1 := HU.out
                have h2 := HV.out
                have h3 := HVU.out
                have : t ≠ x := by omega
                simp [this])
              have HLN := Lib.hid (show N0 ≤ 1000001 from by
                have h1 := HN0.out
                have h2 := List.length_filter_le (fun y => decide (y ≠ x)) (L.take k)
                have h3 := HKM.out
                have h4 := LU.out
                have h5 := HS.out
                rw [List.length_cons] at h1
                rw [List.length_take] at h2
                omega)
              clear hvu
              go_wp2_with fail
              go_region_held3 (fun w' => w'.cell? (yl.add k) = some (.int .u32 v) ∧ w'.cell? (yy.add j) = some (.int .u32 u) ∧ Below W.heap.size W w')
                (first
                  | (exact HCC.out)
                  | assumption
                  | fail)
                (first | fail)
              obtain ⟨Vd, hVd⟩ : ∃ Vd, wr.drew = Vd := ⟨_, rfl⟩
              rw [hVd] at HCC KD0 ⊢
              have HVd := Lib.hid hVd
              clear e1 e2 hVd
              obtain ⟨e1, e2, -⟩ := HCC.out
              go_wp2_with (at_builtin; refine wpList_app1 rfl (.tmp 44) (.tmp 49) 39 rfl W.heap.size 38 i0 (.int .u32 0) 4 Try.underlying39 hi hz0 hz1 hz2 rfl _ _ _ (.int .u32 v) rfl KD0.out rfl rfl (by have := HLN.out; omega) (by omega) HCC.out.2.2.size ?_; intro v' w' o' b' s'; have BN := Lib.hid (HCC.out.2.2.trans b'); have ON := Lib.hid o'; clear o' b' s')
              go_roundw
              case rel =>
                refine ⟨k + 1, by have := HKM.out; omega, by go_num, ?_, BN⟩
                rw [HE.out, ← List.cons_append, List.length_append, List.length_singleton, HN0.out, ints_snoc, HV.out]
                exact ON
              case measure => have := HKM.out; simp [intOf]; omega
          · have i2 : ¬ (k : Int) < (M : Int) := by omega
            obtain rfl : k = M := by omega
            have hft : (L.take k).filter (fun y => decide (y ≠ x)) = L.filter (fun y => decide (y ≠ x)) := by rw [List.take_of_length_le (Nat.le_of_eq LU.out.2.1)]
            rw [hft] at KS0 XRU HN0
            obtain ⟨N1, rfl⟩ : ∃ N1, N0 = N1 + 1 := ⟨N0 - 1, by have := HN0.out; rw [List.length_cons] at this; omega⟩
            obtain ⟨g, cap, hsl⟩ := ownsRow_succ KS0.out
            cases hsl
            obtain ⟨q', k', hv', -, hcap⟩ := own_form KS0.out
            cases hv'
            obtain ⟨mm, hmm⟩ : ∃ mm, min s (N1 + 1) = mm := ⟨_, rfl⟩
            have hmn : min (s : Int) ((N1 : Int) + 1) = (mm : Int) := by omega
            have m0 : (0 : Int) ≤ (mm : Int) := by omega
            have m1 : (mm : Int) ≤ (xc : Int) := by omega
            have HMM := Lib.hid hmm
            clear hft hmm
            go_wp2_with fail
            have hm2 : (if (N1 : Int) + 1 < (s : Int) then (N1 : Int) + 1 else (s : Int)).toNat = mm := by have := HMM.out; split <;> omega
            refine ⟨⟨j + 1, by have := HJ.out; omega, by go_num, by rw [HZ1.out], ⟨_, _, by rw [hm2, HUP.out.2, List.length_take, HN0.out, HMM.out], ?_⟩, Lib.hid (tr BW.out BV.out)⟩, ?_⟩
            · rw [HUP.out.2]
              unfold ints
              rw [List.map_take]
              exact Lib.hid (XRU.out.take s)
            · have := HJ.out; simp [intOf]; omega
    · have i1 : ¬ (j : Int) < (n : Int) := by omega
      obtain rfl : j = n := by omega
      have HZ := Lib.hid hz
      rw [List.take_of_length_le (Nat.le_of_eq HL.out.1)] at HZ
      clear hz
      go_wp2_with fail
      go_ret
      exact ⟨by rw [HZ.out]; rfl, BW.out⟩
set_option maxRecDepth 100000 in
theorem rHits_any {w : World} {p : Option Addr} {n c : Nat} {T : List Nat} (hT : T.length = n) (hn : n ≤ 100000) (hr : Ru w p (ints T)) :
    Calls Try.prog 42 #[.slice p n c] w fun e w' => ∃ v, e = .returned v ∧ w'.ownsRow w.heap.size 3 1 v ((stk [] T).length + 1) ((hl (dists [] T) (stk [] T).length).map (Value.int .i64)) ∧ Below w.heap.size w w' := by
  have HL := Lib.hid (show T.length = n ∧ n ≤ 100000 ∧ (stk [] T).length ≤ n from ⟨hT, hn, by have := stk_len T []; simp at this; omega⟩)
  have HR := Lib.hid hr
  have HK := Lib.hid (fun (v : World) (hb : Below w.heap.size w v) (s : Nat) (hs : s ≤ 1000000) => rhits_any (c := c) hT (by omega) (hr.below hb) s hs)
  have HST := Lib.hid (fun (v : World) (hb : Below w.heap.size w v) => rStack_any (c := c) hT (by omega) (hr.below hb))
  obtain ⟨K, hK⟩ : ∃ K, (stk [] T).length = K := ⟨_, rfl⟩
  rw [hK] at HL HST ⊢
  obtain ⟨i0, hi, hz0, hz1, hz2⟩ := i_parts
  clear hT hn hr hK
  go_enter Try.func42, Try.ntmps42
  go_wp2_with fail
  go_loopw [4, 3] (fun iv lv wr => ∃ j : Nat, j ≤ K + 1 ∧ iv = .int .i64 (j : Int) ∧ Hid (wr.ownsRow w.heap.size 3 1 lv j (((List.range j).map fun i => (upto (dists [] T) i : Int)).map (Value.int .i64))) ∧ Hid (Below w.heap.size w wr)) (fun iv _ _ => K + 1 - (intOf iv).toNat)
  case atStart => exact ⟨0, Nat.zero_le _, rfl, Lib.hid (World.ownsRow_nil _ _ _ _), Lib.hid (Below.refl _ _)⟩
  case round =>
    obtain ⟨j, hj, rfl, KS, BW⟩ := hrel
    obtain ⟨a, kc, rfl, -, -⟩ := own_form KS.out
    have HC0 := Lib.hid (HST.out wr BW.out)
    go_wp2_with fail
    refine HC0.out.mono ?_
    rintro e w3 ⟨sv, rfl, srow, b3⟩
    obtain ⟨sp, scap, rfl, -⟩ := row32 srow
    have KD := Lib.hid (row_bl KS.out b3)
    have BD := Lib.hid (tr BW.out b3)
    clear b3 HC0 KS srow
    by_cases hjn : j ≤ K
    · have i1 : (j : Int) ≤ (K : Int) := by omega
      have HC := Lib.hid (HK.out w3 BD.out j (by have := HL.out; omega))
      obtain ⟨z, hz⟩ : ∃ z : Int, (upto (dists [] T) j : Int) = z := ⟨_, rfl⟩
      rw [hz] at HC
      have HZ := Lib.hid hz
      have wj := IntWalk.i64_in ((j : Int) + 1) (by have := HL.out; omega)
      have HJ := Lib.hid (show j ≤ K from hjn)
      clear hz hj hjn
      go_wp2_with fail
      refine HC.out.mono ?_
      rintro e w4 ⟨rfl, b4⟩
      have KE := Lib.hid (row_bl KD.out b4)
      have BE := Lib.hid (tr BD.out b4)
      clear b4 HC KD
      go_wp2_with (at_builtin; refine wpList_app1 rfl (.tmp 12) (.tmp 16) 64 rfl w.heap.size 3 i0 (.int .i64 0) 8 Try.underlying64 hi hz0 hz1 hz2 rfl _ _ _ (.int .i64 z) rfl KE.out rfl rfl (by have := HL.out; have := HJ.out; omega) (by omega) BE.out.size ?_; intro v' w' o' b' s'; have BN := Lib.hid (BE.out.trans b'); have ON := Lib.hid o'; clear o' b' s')
      go_roundw
      case rel =>
        refine ⟨j + 1, by have := HJ.out; omega, by go_num, ?_, BN⟩
        rw [List.range_succ, List.map_append, List.map_append, List.map_singleton, List.map_singleton, HZ.out]
        exact ON
      case measure => have := HJ.out; simp [intOf]; omega
    · have i1 : ¬ (j : Int) ≤ (K : Int) := by omega
      obtain rfl : j = K + 1 := by omega
      go_wp2_with fail
      go_ret
      exact ⟨_, rfl, KD.out, BD.out⟩
end Go.Proofs.Ytbbcmheedhdlfaa.Reu
