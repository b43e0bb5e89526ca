/-
  Links (layer 14): turned numbers; calls of which only the object matters.
-/
import Derived.Test.YtbbcmheedhdlfaaLnkBc
import Derived.Test.YtbbcmheedhdlfaaLnkBf
import Derived.Test.YtbbcmheedhdlfaaLnkBa
import Derived.Test.YtbbcmheedhdlfaaLnkY
set_option linter.unusedVariables false
set_option linter.unusedSimpArgs false
namespace Go.Proofs.Ytbbcmheedhdlfaa.Lnk
open Go Go.RowKit Kit
theorem rnL_ok {N : Nat} {t : Nat → Nat} {h : Nat} (D : List (List Nat)) (R : List (List Nat)) (hD : D.length = h) : ∀ (l m : List Nat), (∀ x ∈ l, t x < N) → ((D ++ m :: R).flatten ++ l.map t).Nodup → rnL N t h l (D ++ m :: R) = some (D ++ (m ++ l.map t) :: R)
  | [], m, _, _ => by simp [rnL]
  | n :: l, m, h1, h2 => by
    have hfree : ∀ k ∈ D ++ m :: R, t n ∉ k := by
      intro k hk hx
      have : t n ∈ (D ++ m :: R).flatten := List.mem_flatten.2 ⟨k, hk, hx⟩
      rw [List.nodup_append] at h2
      exact h2.2.2 _ this (t n) (by simp) rfl
    have hat : (D ++ m :: R)[h]? = some m := by rw [← hD]; simp
    have hs : (D ++ m :: R).set h (m ++ [t n]) = D ++ (m ++ [t n]) :: R := by rw [← hD]; simp
    have ha : addB N (D ++ m :: R) h (t n) = some (D ++ (m ++ [t n]) :: R) := by
      unfold addB
      rw [if_pos ⟨h1 n (by simp), hfree⟩, hat, Option.getD_some, hs]
    rw [rnL, ha]
    show rnL N t h l (D ++ (m ++ [t n]) :: R) = _
    rw [rnL_ok D R hD l (m ++ [t n]) (fun x hx => h1 x (by simp [hx])) ?_]
    · simp
    · refine (List.Perm.nodup_iff ?_).1 h2
      simp only [List.flatten_append, List.flatten_cons, List.map_cons, List.append_assoc]
      refine List.Perm.append_left _ (List.Perm.append_left _ ?_)
      show List.Perm (R.flatten ++ ([t n] ++ l.map t)) ([t n] ++ (R.flatten ++ l.map t))
      rw [← List.append_assoc, ← List.append_assoc]
      exact List.Perm.append_right _ List.perm_append_comm
theorem rnA_ok {N : Nat} {t : Nat → Nat} : ∀ (Ls D : List (List Nat)) (h : Nat), D.length = h → (∀ l ∈ Ls, ∀ x ∈ l, t x < N) → (D.flatten ++ Ls.flatten.map t).Nodup → rnA N t h Ls (D ++ List.replicate Ls.length []) = some (D ++ Ls.map (List.map t))
  | [], D, h, _, _, _ => by simp [rnA]
  | l :: Ls, D, h, hD, h1, h2 => by
    simp only [List.flatten_cons, List.map_append] at h2
    have e : rnL N t h l (D ++ [] :: List.replicate Ls.length []) = some (D ++ ([] ++ l.map t) :: List.replicate Ls.length []) := by
      refine rnL_ok D _ hD l [] (h1 l (by simp)) ?_
      rw [← List.append_assoc] at h2
      have := (List.nodup_append.1 h2).1
      simpa using this
    rw [rnA, List.length_cons, List.replicate_succ, e]
    show rnA N t (h + 1) Ls _ = _
    have := rnA_ok Ls (D ++ [l.map t]) (h + 1) (by simp [hD]) (fun k hk => h1 k (by simp [hk])) (by simpa using h2)
    simpa using this
/-- turning -/
theorem turn_back {N k x : Nat} (hk : k < N) (hx : x < N) : ((x + k) % N + N - k) % N = x := by
  by_cases h : x + k < N
  · rw [Nat.mod_eq_of_lt h, show x + k + N - k = x + N by omega, Nat.add_mod_right, Nat.mod_eq_of_lt hx]
  · rw [show x + k = (x + k - N) + N by omega, Nat.add_mod_right, Nat.mod_eq_of_lt (show x + k - N < N by omega), show x + k - N + N - k = x by omega, Nat.mod_eq_of_lt hx]
theorem nodup_map {f : Nat → Nat} {g : Nat → Nat} : ∀ {l : List Nat}, (∀ x ∈ l, g (f x) = x) → l.Nodup → (l.map f).Nodup
  | [], _, _ => by simp
  | a :: l, h, hd => by
    rw [List.nodup_cons] at hd
    rw [List.map_cons, List.nodup_cons]
    refine ⟨fun hm => ?_, nodup_map (fun x hx => h x (by simp [hx])) hd.2⟩
    obtain ⟨y, hy, e⟩ := List.mem_map.1 hm
    have := congrArg g e
    rw [h y (by simp [hy]), h a (by simp)] at this
    exact hd.1 (this ▸ hy)
theorem map_back {f g : Nat → Nat} (Ls : List (List Nat)) (h : ∀ l ∈ Ls, ∀ x ∈ l, g (f x) = x) : (Ls.map (List.map f)).map (List.map g) = Ls := by
  rw [List.map_map]
  conv => rhs; rw [← List.map_id Ls]
  refine List.map_congr_left fun l hl => ?_
  show (l.map f).map g = id l
  rw [List.map_map]
  conv => rhs; rw [id, ← List.map_id l]
  exact List.map_congr_left fun x hx => h l hl x hx
theorem turned {N k : Nat} (hk : k < N) (Ls : List (List Nat)) (hN : ∀ l ∈ Ls, ∀ x ∈ l, x < N) (hd : Ls.flatten.Nodup) {t s : Nat → Nat} (ht : ∀ x, x < N → t x = (x + k) % N) (hs : ∀ x, x < N → s x = (x + N - k) % N) :
    rnA N t 0 Ls (List.replicate Ls.length []) = some (Ls.map (List.map t)) ∧
    rnA N s 0 (Ls.map (List.map t)) (List.replicate (Ls.map (List.map t)).length []) = some Ls := by
  have h0 : 0 < N := by omega
  have htl : ∀ x, x < N → t x < N := fun x hx => by rw [ht x hx]; exact Nat.mod_lt _ h0
  have hsl : ∀ x, x < N → s x < N := fun x hx => by rw [hs x hx]; exact Nat.mod_lt _ h0
  have hb : ∀ l ∈ Ls, ∀ x ∈ l, s (t x) = x := fun l hl x hx => by rw [hs _ (htl x (hN l hl x hx)), ht x (hN l hl x hx)]; exact turn_back hk (hN l hl x hx)
  have hnd : (Ls.flatten.map t).Nodup := nodup_map (g := s) (fun x hx => by
    obtain ⟨l, hl, hx⟩ := List.mem_flatten.1 hx
    exact hb l hl x hx) hd
  constructor
  · have := rnA_ok (N := N) (t := t) Ls [] 0 rfl (fun l hl x hx => htl x (hN l hl x hx)) (by simpa using hnd)
    simpa using this
  · have := rnA_ok (N := N) (t := s) (Ls.map (List.map t)) [] 0 rfl (fun l hl x hx => by
      obtain ⟨l', hl', rfl⟩ := List.mem_map.1 hl
      obtain ⟨y, hy, rfl⟩ := List.mem_map.1 hx
      exact hsl _ (htl y (hN l' hl' y hy))) ?_
    · rw [map_back Ls hb] at this
      simpa using this
    · have e : ((Ls.map (List.map t)).flatten.map s) = Ls.flatten := by
        rw [List.map_flatten, map_back Ls hb]
      rw [e]
      simpa using hd
/-- how many of the first n are in a list -/
def withN (hd : Nat → Int) (n : Nat) : Nat := ((List.range n).filter fun x => hd x != -1).length
theorem withN_succ (hd : Nat → Int) (n : Nat) : withN hd (n + 1) = withN hd n + if hd n = -1 then 0 else 1 := by
  unfold withN
  rw [List.range_succ, List.filter_append, List.length_append]
  by_cases h : hd n = -1 <;> simp [h]
theorem sum_with {hd : Nat → Int} {N : Nat} {Ls : List (List Nat)} (hnd : Ls.flatten.Nodup) (h : ∀ x, x ∈ Ls.flatten ↔ x < N ∧ hd x ≠ -1) : (Ls.map List.length).sum = withN hd N := by
  rw [← List.length_flatten]
  unfold withN
  apply List.Perm.length_eq
  rw [List.perm_ext_iff_of_nodup hnd (List.nodup_range.filter _)]
  intro x
  rw [h, List.mem_filter, List.mem_range]
  simp
theorem flat_nodup {Ls : List (List Nat)} (h1 : ∀ (h : Nat) (l : List Nat), Ls[h]? = some l → l.Nodup) (h2 : ∀ (h k x : Nat) (l m : List Nat), Ls[h]? = some l → Ls[k]? = some m → x ∈ l → x ∈ m → h = k) : Ls.flatten.Nodup := by
  unfold List.Nodup
  rw [List.pairwise_flatten]
  refine ⟨fun l hl => ?_, ?_⟩
  · obtain ⟨i, hi, rfl⟩ := List.mem_iff_getElem.1 hl
    exact h1 i _ (List.getElem?_eq_getElem hi)
  · rw [List.pairwise_iff_getElem]
    intro i j hi hj hij x hx y hy e
    subst e
    have := h2 i j x _ _ (List.getElem?_eq_getElem hi) (List.getElem?_eq_getElem hj) hx hy
    omega

theorem Ring.flat {F : Fd} {N : Nat} {Ls : List (List Nat)} (R : Ring F N Ls) : Ls.flatten.Nodup ∧ (∀ l ∈ Ls, ∀ x ∈ l, x < N) ∧ ∀ x, x ∈ Ls.flatten ↔ x < N ∧ F.hd x ≠ -1 := by
  have hm : ∀ l ∈ Ls, ∀ x ∈ l, x < N := fun l hl x hx => by
    obtain ⟨i, hi, rfl⟩ := List.mem_iff_getElem.1 hl
    exact (R.mem i _ x (List.getElem?_eq_getElem hi) hx).1
  refine ⟨flat_nodup R.nodup fun h k x l m a b c d => R.uni a b c d, hm, fun x => ?_⟩
  rw [List.mem_flatten]
  constructor
  · rintro ⟨l, hl, hx⟩
    refine ⟨hm l hl x hx, ?_⟩
    obtain ⟨i, hi, rfl⟩ := List.mem_iff_getElem.1 hl
    rw [(R.mem i _ x (List.getElem?_eq_getElem hi) hx).2]
    omega
  · rintro ⟨h1, h2⟩
    obtain ⟨k, l, hl, hx, _⟩ := R.in_list h1 h2
    exact ⟨l, List.mem_of_getElem? hl, hx⟩
section
variable {w : World} {c q r cq cr N : Nat} {F : Fd} {Ls : List (List Nat)}
theorem back_wa (L : Lo w c q r cq cr N F Ls) {H : Nat} (hH : Ls.length = H) {h n : Int} (n0 : 0 ≤ n) (n1 : n < 4294967296) :
    Calls Try.prog 20 #[.pointer (some ⟨c, 0, none⟩), .int .i64 h, .int .u32 n] w fun e w' => Wk e w w' c q r cq cr N H := by
  by_cases hv : 0 ≤ h ∧ h < (Ls.length : Int)
  · obtain ⟨k, rfl⟩ : ∃ k : Nat, h = (k : Int) := ⟨h.toNat, by omega⟩
    obtain ⟨m, rfl⟩ : ∃ m : Nat, n = (m : Int) := ⟨n.toNat, by omega⟩
    by_cases hN : (N : Int) ≤ (m : Int)
    · exact (Back_badN L (by omega) hN n1).mono fun e w' h => Wk.same L hH h
    · by_cases hf : F.hd m = -1
      · refine (Back_ok L (List.getElem?_eq_getElem (by omega)) (by omega) ((L.ring.free_iff (by omega)).1 hf)).mono ?_
        rintro e w' ⟨h1, h2, h3⟩
        exact ⟨⟨_, h1⟩, ⟨_, _, h2, by simp [hH]⟩, h3⟩
      · exact (Back_busy L (by omega) (by omega) hf).mono fun e w' h => Wk.same L hH h
  · exact (Back_badH L hv).mono fun e w' h => Wk.same L hH h
theorem front_wa (L : Lo w c q r cq cr N F Ls) {H : Nat} (hH : Ls.length = H) {h n : Int} (n0 : 0 ≤ n) (n1 : n < 4294967296) :
    Calls Try.prog 23 #[.pointer (some ⟨c, 0, none⟩), .int .i64 h, .int .u32 n] w fun e w' => Wk e w w' c q r cq cr N H := by
  by_cases hv : 0 ≤ h ∧ h < (Ls.length : Int)
  · obtain ⟨k, rfl⟩ : ∃ k : Nat, h = (k : Int) := ⟨h.toNat, by omega⟩
    exact front_wk L hH (by omega) n0 n1
  · exact (Front_badH L hv).mono fun e w' h => Wk.same L hH h
theorem before_wa (L : Lo w c q r cq cr N F Ls) {H : Nat} (hH : Ls.length = H) {n o : Int} (n0 : 0 ≤ n) (n1 : n < 4294967296) (o0 : 0 ≤ o) (o1 : o < 4294967296) :
    Calls Try.prog 47 #[.pointer (some ⟨c, 0, none⟩), .int .u32 n, .int .u32 o] w fun e w' => Wk e w w' c q r cq cr N H := by
  obtain ⟨m, rfl⟩ : ∃ m : Nat, n = (m : Int) := ⟨n.toNat, by omega⟩
  obtain ⟨k, rfl⟩ : ∃ k : Nat, o = (k : Int) := ⟨o.toNat, by omega⟩
  by_cases hb : (m : Int) < (N : Int) ∧ (k : Int) < (N : Int)
  · by_cases hf : F.hd m = -1
    · by_cases hg : F.hd k = -1
      · exact (Before_none L (by omega) (by omega) hf hg).mono fun e w' h => Wk.same L hH h
      · obtain ⟨i, l, hl, hmem, hk⟩ := L.ring.in_list (by omega) hg
        obtain ⟨l1, l2, rfl⟩ := List.append_of_mem hmem
        refine (Before_ok L hl (by omega) ((L.ring.free_iff (by omega)).1 hf)).mono ?_
        rintro e w' ⟨h1, h2, h3⟩
        exact ⟨⟨_, h1⟩, ⟨_, _, h2, by simp [hH]⟩, h3⟩
    · exact (Before_busy L (by omega) (by omega) hf).mono fun e w' h => Wk.same L hH h
  · exact (Before_bad L n0 n1 o0 o1 hb).mono fun e w' h => Wk.same L hH h
theorem join_wa (L : Lo w c q r cq cr N F Ls) {H : Nat} (hH : Ls.length = H) {a b : Int} :
    Calls Try.prog 56 #[.pointer (some ⟨c, 0, none⟩), .int .i64 a, .int .i64 b] w fun e w' => Wk e w w' c q r cq cr N H := by
  by_cases hb : ¬ (0 ≤ a ∧ a < (Ls.length : Int)) ∨ ¬ (0 ≤ b ∧ b < (Ls.length : Int)) ∨ a = b
  · exact (Join_bad L hb).mono fun e w' h => Wk.same L hH h
  · obtain ⟨x, rfl⟩ : ∃ x : Nat, a = (x : Int) := ⟨a.toNat, by omega⟩
    obtain ⟨y, rfl⟩ : ∃ y : Nat, b = (y : Int) := ⟨b.toNat, by omega⟩
    have hx : x < Ls.length := by omega
    have hy : y < Ls.length := by omega
    have hxy : x ≠ y := by omega
    cases hl : Ls[x] with
    | nil => exact (Join_empty L ((List.getElem?_eq_getElem hx).trans (congrArg some hl)) hy hxy).mono fun e w' h => Wk.same L hH h
    | cons z l =>
      refine (Join_ok L ((List.getElem?_eq_getElem hx).trans (congrArg some hl)) (List.getElem?_eq_getElem hy) hxy).mono ?_
      rintro e w' ⟨h1, h2, h3⟩
      exact ⟨⟨_, h1⟩, ⟨_, _, h2, by simp [hH]⟩, h3⟩
end
end Go.Proofs.Ytbbcmheedhdlfaa.Lnk
