/-
  Adaptive replacement (layer 29): again.
-/
import Derived.Test.YtggimkfepcgaoaaArcC
import Derived.Test.YtggimkfepcgaoaaArqF
set_option linter.unusedVariables false
set_option linter.unusedSimpArgs false
section
namespace Go.Proofs.Ytggimkfepcgaoaa.Arc
open Go Go.RowKit Kit Go.Maps Lnk Gho
section
variable {w0 v : World} {o K s : Nat} {t : Int} {b : Nat → Nat} {L : Nat → List Nat} {X : Nat → Prop}
theorem len_one (h : Ax w0 v o K s t b L X) (hL : ∀ i, i < 4 → (L i).length ≤ 4096) (u : World) (hb : Below v.heap.size v u) (i g : Nat) (hi : i < 4) (hc : u.cell? ⟨g, 0, none⟩ = some (.int .i64 (i : Int))) :
    Calls Try.prog 130 #[ap o, .slice (some ⟨g, 0, none⟩) 1 1] u fun e w' => e = .returned (.int .i64 (((L i).length : Nat) : Int)) ∧ u = w' := by
  have h1 := len_any (g := g) (c := 1) (n := 1) (h.below' hb) [i] rfl (by simpa using hi) (by omega) (fun j k hj => by match j, hj with | 0, hj => cases hj; exact hc | j + 1, hj => simp at hj) hL
  rwa [show sums L [i] = (L i).length by simp [sums]] at h1
/-- what the target becomes where a key was found in the ghosts of once, or of often -/
def tgt2 (s : Nat) (t : Int) (L : Nat → List Nat) : Int := min (s : Int) (t + max 1 (Int.tdiv ((L 3).length : Int) ((L 2).length : Int)))
def tgt3 (t : Int) (L : Nat → List Nat) : Int := max 0 (t - max 1 (Int.tdiv ((L 2).length : Int) ((L 3).length : Int)))
set_option maxRecDepth 100000 in
set_option maxHeartbeats 4000000 in
theorem again_hit (h : Ax w0 v o K s t b L X) (i : Nat) (hi : i < 2) :
    Calls Try.prog 127 #[ap o, .int .i64 (i : Int)] v fun e w' => e = .returned (tv true false 0) ∧ AxR w0 v w' o K s t b L X := by
  have hb0 : Below v.heap.size v (v.alloc (.cells #[.bool false, .bool false, .int .u32 0] 110)) := by go_grown
  have hx0 := (MapKept.heap_alloc v (.cells #[.bool false, .bool false, .int .u32 0] 110)).1
  obtain ⟨z0, z1, z2, zf⟩ := tbox hx0
  have X0 := Lib.hid hx0
  have B0 := Lib.hid hb0
  have HX := Lib.hid h
  have h1 : ¬ (i : Int) = 2 := by omega
  have h2 : ¬ (i : Int) = 3 := by omega
  clear h hi hx0 hb0
  go_enter Try.func127, Try.ntmps127
  go_wp2_with fail
  have hb3 : Below v.heap.size v (v.alloc (.cells #[.bool true, .bool false, .int .u32 0] 110)) := by go_grown
  have hx3 := (MapKept.heap_alloc v (.cells #[.bool true, .bool false, .int .u32 0] 110)).1
  generalize v.alloc (.cells #[.bool true, .bool false, .int .u32 0] 110) = w3 at *
  obtain ⟨y0, y1, y2, -⟩ := tbox hx3
  exact bodyPost_ret (v := tv true false 0) (by simp [results, Try.results127, go_sem, y0, y1, y2]) rfl ⟨rfl, HX.out.below' hb3, fun k hk => hb3.block k (HX.out.xlt k hk), hb3.size⟩
/-- what makeRoom gives: a turn, and the state -/
def RoomQ (w0 v : World) (o K s : Nat) (t : Int) (b : Nat → Nat) (X : Nat → Prop) (left : Bool) (x : Nat) (L' : Nat → List Nat) (e : Ending) (w' : World) : Prop := e = .returned (tv false left (x : Int)) ∧ AxR w0 v w' o (K + 1) s t b L' X
end
end Go.Proofs.Ytggimkfepcgaoaa.Arc
end
section
namespace Go.Proofs.Ytggimkfepcgaoaa.Arc
open Go Go.RowKit Kit Go.Maps Lnk Gho
/-- no key twice, in one list or in two -/
structure Nd (L : Nat → List Nat) : Prop where
  one : ∀ i, i < 4 → (L i).Nodup
  two : ∀ i j y, i < 4 → j < 4 → y ∈ L i → y ∈ L j → i = j
theorem upd_same {L : Nat → List Nat} {i : Nat} {l : List Nat} : upd L i l i = l := if_pos rfl
theorem upd_other {L : Nat → List Nat} {i j : Nat} {l : List Nat} (h : j ≠ i) : upd L i l j = L j := if_neg h
/-- what a step makes: whose membership, how many -/
structure St (L L' : Nat → List Nat) (M : Nat → Nat → Prop) (N : Nat → Int) : Prop where
  nd : Nd L'
  mem : ∀ j y, j < 4 → (y ∈ L' j ↔ M j y)
  len : ∀ j, j < 4 → ((L' j).length : Int) = N j
theorem st_last {L : Nat → List Nat} (h : Nd L) {i : Nat} (hi : i < 4) {l : List Nat} {x : Nat} (hl : L i = l ++ [x]) : St L (upd L i l) (fun j y => y ∈ L j ∧ y ≠ x) (fun j => (L j).length - if j = i then 1 else 0) := by
  have hn := h.one i hi
  rw [hl] at hn
  have hxl : x ∉ l := fun hx => (List.nodup_append.1 hn).2.2 x hx x (by simp) rfl
  have hx : x ∈ L i := by rw [hl]; simp
  have hm : ∀ j y, j < 4 → (y ∈ upd L i l j ↔ y ∈ L j ∧ y ≠ x) := fun j y hj => by
    by_cases hji : j = i
    · subst hji
      rw [upd_same, hl, List.mem_append, List.mem_singleton]
      constructor
      · exact fun hy => ⟨.inl hy, fun e => hxl (e ▸ hy)⟩
      · rintro ⟨hy | hy, hne⟩
        · exact hy
        · exact absurd hy hne
    · rw [upd_other hji]
      exact ⟨fun hy => ⟨hy, fun e => hji (h.two j i y hj hi hy (e ▸ hx))⟩, fun hy => hy.1⟩
  refine ⟨⟨fun j hj => ?_, fun a c y ha hc h1 h2 => h.two a c y ha hc ((hm a y ha).1 h1).1 ((hm c y hc).1 h2).1⟩, hm, fun j hj => ?_⟩
  · by_cases hji : j = i
    · subst hji; rw [upd_same]; exact (List.nodup_append.1 hn).1
    · rw [upd_other hji]; exact h.one j hj
  · by_cases hji : j = i
    · subst hji; rw [upd_same, if_pos rfl, hl, List.length_append, List.length_singleton]; omega
    · rw [upd_other hji, if_neg hji]; omega
theorem st_add {L : Nat → List Nat} (h : Nd L) {i : Nat} (hi : i < 4) {x : Nat} (hx : ∀ j, j < 4 → x ∉ L j) (hl : (L i).length < 4096) : St L (upd L i (addG 4096 (L i) x).1) (fun j y => y ∈ L j ∨ j = i ∧ y = x) (fun j => (L j).length + if j = i then 1 else 0) := by
  have e : (addG 4096 (L i) x).1 = x :: L i := by
    unfold addG
    rw [if_neg (hx i hi), if_pos (by omega)]
  rw [e]
  have hm : ∀ j y, j < 4 → (y ∈ upd L i (x :: L i) j ↔ y ∈ L j ∨ j = i ∧ y = x) := fun j y hj => by
    by_cases hji : j = i
    · subst hji
      rw [upd_same, List.mem_cons]
      constructor
      · rintro (hy | hy)
        · exact .inr ⟨rfl, hy⟩
        · exact .inl hy
      · rintro (hy | hy)
        · exact .inr hy
        · exact .inl hy.2
    · rw [upd_other hji]
      exact ⟨fun hy => .inl hy, fun hy => hy.elim id fun e => absurd e.1 hji⟩
  refine ⟨⟨fun j hj => ?_, fun a c y ha hc h1 h2 => ?_⟩, hm, fun j hj => ?_⟩
  · by_cases hji : j = i
    · subst hji; rw [upd_same]; exact List.nodup_cons.2 ⟨hx j hj, h.one j hj⟩
    · rw [upd_other hji]; exact h.one j hj
  · rcases (hm a y ha).1 h1 with h1 | ⟨h1, h1'⟩ <;> rcases (hm c y hc).1 h2 with h2 | ⟨h2, h2'⟩
    · exact h.two a c y ha hc h1 h2
    · exact absurd (h2' ▸ h1) (hx a ha)
    · exact absurd (h1' ▸ h2) (hx c hc)
    · rw [h1, h2]
  · by_cases hji : j = i
    · subst hji; rw [upd_same, if_pos rfl, List.length_cons]; omega
    · rw [upd_other hji, if_neg hji]; omega
theorem st_ers {L : Nat → List Nat} (h : Nd L) {i : Nat} (hi : i < 4) {x : Nat} (hx : x ∈ L i) : St L (upd L i ((L i).erase x)) (fun j y => y ∈ L j ∧ y ≠ x) (fun j => (L j).length - if j = i then 1 else 0) := by
  have hn := h.one i hi
  have hm : ∀ j y, j < 4 → (y ∈ upd L i ((L i).erase x) j ↔ y ∈ L j ∧ y ≠ x) := fun j y hj => by
    by_cases hji : j = i
    · subst hji
      rw [upd_same, hn.mem_erase_iff]
      exact ⟨fun ⟨h1, h2⟩ => ⟨h2, h1⟩, fun ⟨h1, h2⟩ => ⟨h2, h1⟩⟩
    · rw [upd_other hji]
      exact ⟨fun hy => ⟨hy, fun e => hji (h.two j i y hj hi hy (e ▸ hx))⟩, fun hy => hy.1⟩
  refine ⟨⟨fun j hj => ?_, fun a c y ha hc h1 h2 => h.two a c y ha hc ((hm a y ha).1 h1).1 ((hm c y hc).1 h2).1⟩, hm, fun j hj => ?_⟩
  · by_cases hji : j = i
    · subst hji; rw [upd_same]; exact hn.erase x
    · rw [upd_other hji]; exact h.one j hj
  · by_cases hji : j = i
    · subst hji; rw [upd_same, if_pos rfl, List.length_erase_of_mem hx]; have := List.length_pos_of_mem hx; omega
    · rw [upd_other hji, if_neg hji]; omega
/-- what makeRoom makes -/
def roomA (s : Nat) (t : Int) (found : Bool) (L : Nat → List Nat) : (Nat → List Nat) × Bool × Nat :=
  if (L 0).length + (L 1).length < s then (L, false, 0)
  else (upd (upd L (fromA L t found) (L (fromA L t found)).dropLast) (fromA L t found + 2) (addG 4096 (L (fromA L t found + 2)) ((L (fromA L t found)).getLastD 0)).1, true, (L (fromA L t found)).getLastD 0)
/-- what a request for a key that is nowhere makes, but for the key -/
def missA (s : Nat) (t : Int) (L : Nat → List Nat) : (Nat → List Nat) × Bool × Nat :=
  if (L 0).length = s then (upd L 0 (L 0).dropLast, true, (L 0).getLastD 0)
  else if (L 0).length + (L 2).length = s then roomA s t false (upd L 2 (L 2).dropLast)
  else if (L 0).length + (L 1).length + (L 2).length + (L 3).length = 2 * s then roomA s t false (upd L 3 (L 3).dropLast)
  else if (L 0).length + (L 1).length + (L 2).length + (L 3).length < s then (L, false, 0)
  else roomA s t false L
/-- a key is moved to the front of often -/
def moveA (L : Nat → List Nat) (i k : Nat) : Nat → List Nat := upd (upd L i ((L i).erase k)) 1 (addG 4096 (upd L i ((L i).erase k) 1) k).1
/-- what a request makes: the target, the lists, whether it is a hit, whether a key has left, and which -/
def useA (s : Nat) (t : Int) (L : Nat → List Nat) (k : Nat) : Int × (Nat → List Nat) × Bool × Bool × Nat :=
  if k ∈ L 0 then (t, moveA L 0 k, true, false, 0)
  else if k ∈ L 1 then (t, moveA L 1 k, true, false, 0)
  else if k ∈ L 2 then (tgt2 s t L, moveA (roomA s (tgt2 s t L) false L).1 2 k, false, (roomA s (tgt2 s t L) false L).2)
  else if k ∈ L 3 then (tgt3 t L, moveA (roomA s (tgt3 t L) true L).1 3 k, false, (roomA s (tgt3 t L) true L).2)
  else (t, upd (missA s t L).1 0 (addG 4096 ((missA s t L).1 0) k).1, false, (missA s t L).2)
/-- the lists of a cache -/
structure Ai (s : Nat) (t : Int) (L : Nat → List Nat) : Prop where
  nd : Nd L
  a : (L 0).length + (L 1).length ≤ s
  b : (L 0).length + (L 2).length ≤ s
  c : (L 0).length + (L 1).length + (L 2).length + (L 3).length ≤ 2 * s
  t0 : 0 ≤ t
  t1 : t ≤ s
  s1 : 1 ≤ s
  s2 : s ≤ 1024
theorem last_of {l : List Nat} (h : 0 < l.length) : l = l.dropLast ++ [l.getLastD 0] := by
  cases l with
  | nil => cases h
  | cons a m =>
    have := (List.dropLast_concat_getLast (l := a :: m) (by simp)).symm
    rw [List.getLastD_eq_getLast?, List.getLast?_eq_some_getLast (by simp)]
    exact this
theorem fromA_lt (L : Nat → List Nat) (t : Int) (found : Bool) : fromA L t found < 2 := by unfold fromA; split <;> omega
theorem fromA_ne {L : Nat → List Nat} {t : Int} {found : Bool} {s : Nat} (hf : s ≤ (L 0).length + (L 1).length) (s1 : 1 ≤ s) (t1 : t ≤ s) (h : (L 0).length < s ∨ found = true) : 0 < (L (fromA L t found)).length := by
  unfold fromA
  split
  · next hc => exact hc.1
  · next hc =>
    rcases Nat.eq_zero_or_pos (L 0).length with h0 | h0
    · omega
    · rcases Nat.eq_zero_or_pos (L 1).length with h1 | h1
      · exfalso
        apply hc
        refine ⟨h0, ?_⟩
        rcases h with h | h
        · omega
        · by_cases ht : t < ((L 0).length : Int)
          · exact .inl ht
          · exact .inr ⟨by omega, h⟩
      · exact h1
/-- what makeRoom makes, where nothing is to be done, or a list is not empty -/
theorem room_st {s : Nat} {t : Int} {found : Bool} {L : Nat → List Nat} (nd : Nd L) (s1 : 1 ≤ s) (s2 : s ≤ 1024) (t1 : t ≤ s) (hl : ∀ j, j < 4 → (L j).length ≤ 2048) (h : (L 0).length < s ∨ found = true) :
    ((L 0).length + (L 1).length < s ∧ roomA s t found L = (L, false, 0)) ∨
    (s ≤ (L 0).length + (L 1).length ∧ ∃ F x L', F < 2 ∧ x ∈ L F ∧ roomA s t found L = (L', true, x) ∧ fromA L t found = F ∧ L F = (L F).dropLast ++ [x] ∧
      St L L' (fun j y => (y ∈ L j ∧ y ≠ x) ∨ j = F + 2 ∧ y = x) (fun j => (L j).length - (if j = F then 1 else 0) + if j = F + 2 then 1 else 0)) := by
  by_cases hf : (L 0).length + (L 1).length < s
  · exact .inl ⟨hf, by unfold roomA; rw [if_pos hf]⟩
  · refine .inr ⟨by omega, fromA L t found, (L (fromA L t found)).getLastD 0, _, fromA_lt .., ?_, by unfold roomA; rw [if_neg hf], rfl, ?_, ?_⟩
    · have := last_of (fromA_ne (by omega) s1 t1 h)
      rw [this]
      simp
    · exact last_of (fromA_ne (by omega) s1 t1 h)
    · have hF2 := fromA_lt L t found
      have hp := last_of (fromA_ne (found := found) (by omega) s1 t1 h)
      generalize fromA L t found = F at *
      have h1 := st_last nd (by omega) hp
      have e2 : upd L F (L F).dropLast (F + 2) = L (F + 2) := upd_other (by omega)
      have h2 := st_add h1.nd (i := F + 2) (by omega) (x := (L F).getLastD 0) (fun j hj hx => ((h1.mem j _ hj).1 hx).2 rfl) (by rw [e2]; have := hl (F + 2) (by omega); omega)
      rw [e2] at h2
      refine ⟨h2.nd, fun j y hj => (h2.mem j y hj).trans ?_, fun j hj => by rw [h2.len j hj, h1.len j hj]⟩
      rw [h1.mem j y hj]
end Go.Proofs.Ytggimkfepcgaoaa.Arc
end
section
namespace Go.Proofs.Ytggimkfepcgaoaa.Arc
open Go Go.RowKit Kit Go.Maps Lnk Gho
/-- what the reference's room makes -/
def roomR (s : Nat) (t : Int) (found : Bool) (L : Nat → List Nat) : (Nat → List Nat) × Bool × Nat :=
  if (L 0).length + (L 1).length < s then (L, false, 0)
  else (upd (upd L (fromA L t found) (L (fromA L t found)).dropLast) (fromA L t found + 2) ((L (fromA L t found)).getLastD 0 :: L (fromA L t found + 2)), true, (L (fromA L t found)).getLastD 0)
theorem rroom_any {w : World} {s : Nat} {t : Int} {L : Nat → List Nat} {f : Nat → Value} (h : Rs w L f) (hn : ∀ i, i < 4 → (L i).length ≤ 100000) (found : Bool) (hf : s ≤ (L 0).length + (L 1).length → 0 < (L (fromA L t found)).length) {L' : Nat → List Nat} {left : Bool} {out : Nat} (hr : roomR s t found L = (L', left, out)) :
    Calls Try.prog 150 #[rv29 s t f, .bool found] w fun e w' => ∃ f', e = .returned (.tuple #[rv29 s t f', tv false left (out : Int)]) ∧ Rs w' L' f' ∧ Nf w f f' ∧ Below w.heap.size w w' := by
  unfold roomR at hr
  by_cases c : (L 0).length + (L 1).length < s
  · rw [if_pos c] at hr
    cases hr
    refine (rroom_free h (fun i hi => Nat.le_trans (hn i hi) (by omega)) found c).mono ?_
    rintro e w' ⟨rfl, hb⟩
    exact ⟨f, rfl, h.below hb, Nf.refl f, hb⟩
  · rw [if_neg c] at hr
    have hp := last_of (hf (by omega))
    have hlt := fromA_lt L t found
    rcases (show fromA L t found = 0 ∨ fromA L t found = 1 by omega) with hF | hF
    · rw [hF] at hr hp
      cases hr
      exact rroom_full0 h hn found (by omega) hF hp
    · rw [hF] at hr hp
      cases hr
      exact rroom_full1 h hn found (by omega) hF hp
end Go.Proofs.Ytggimkfepcgaoaa.Arc
end
