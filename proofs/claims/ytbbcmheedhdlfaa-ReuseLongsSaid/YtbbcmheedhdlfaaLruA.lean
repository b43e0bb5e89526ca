/-
  Plain LRU lists (layer 15): the object, and its small functions.
-/
import Derived.Test.YtbbcmheedhdlfaaLnkCa
import Derived.Test.YtbbcmheedhdlfaaLnkU
set_option linter.unusedVariables false
set_option linter.unusedSimpArgs false
namespace Go.Proofs.Ytbbcmheedhdlfaa.Lru
open Go Go.RowKit Kit Lnk
/-- an LRU list: its block o, its field at c, q, r, the slots l, the oldest one first -/
structure Lu (w : World) (o c q r cq cr N : Nat) (F : Lnk.Fd) (l : List Nat) : Prop where
  ob : w.heap[o]? = some (.cells #[.pointer (some ⟨c, 0, none⟩)] 115 (0, 0))
  lo : Lo w c q r cq cr N F [l]
  oc : o ≠ c
  oq : o ≠ q
  or : o ≠ r
/-- blocks of an LRU list -/
def Ob4 (o c q r : Nat) : Nat → Prop := fun k => k = o ∨ Ob c q r k
section
variable {w : World} {o c q r cq cr N : Nat} {F : Lnk.Fd} {l : List Nat}
theorem Lu.lt (H : Lu w o c q r cq cr N F l) : o < w.heap.size ∧ c < w.heap.size ∧ q < w.heap.size ∧ r < w.heap.size := ⟨(Array.getElem?_eq_some_iff.1 H.ob).1, H.lo.lt⟩
theorem Lu.of {w' : World} (H : Lu w o c q r cq cr N F l) (hb : ∀ k, Ob4 o c q r k → w'.heap[k]? = w.heap[k]?) : Lu w' o c q r cq cr N F l :=
  ⟨(hb o (.inl rfl)).trans H.ob, H.lo.of fun k hk => hb k (.inr hk), H.oc, H.oq, H.or⟩
theorem Lu.below {w' : World} (H : Lu w o c q r cq cr N F l) (hb : Below w.heap.size w w') : Lu w' o c q r cq cr N F l :=
  H.of fun k hk => hb.block k (by obtain ⟨a, b, d, e⟩ := H.lt; rcases hk with rfl | rfl | rfl | rfl <;> assumption)
theorem Lu.kp {w' : World} {bad : Nat → Prop} (H : Lu w o c q r cq cr N F l) (hk : Kp bad w w') (hb : ∀ k, Ob4 o c q r k → ¬ bad k) : Lu w' o c q r cq cr N F l :=
  H.of fun k h => hk.block k (by obtain ⟨a, b, d, e⟩ := H.lt; rcases h with rfl | rfl | rfl | rfl <;> assumption) (hb k h)
/-- a call of its field that changes the field alone -/
theorem Lu.upd {w' : World} {F' : Lnk.Fd} {l' : List Nat} {q' r' cq' cr' N' : Nat} (H : Lu w o c q r cq cr N F l) (hl : Lo w' c q' r' cq' cr' N' F' [l']) (hk : Kp (Ob c q r) w w') (hq : o ≠ q') (hr : o ≠ r') : Lu w' o c q' r' cq' cr' N' F' l' :=
  ⟨(hk.block o H.lt.1 (by intro h; have := H.oc; have := H.oq; have := H.or; rcases h with rfl | rfl | rfl <;> contradiction)).trans H.ob, hl, H.oc, hq, hr⟩
theorem Lu.cell (H : Lu w o c q r cq cr N F l) : w.cell? ⟨o, 0, none⟩ = some (.pointer (some ⟨c, 0, none⟩)) := by simp [World.cell?, H.ob]
theorem Kp.four {w' : World} (hk : Kp (Ob c q r) w w') : Kp (Ob4 o c q r) w w' := hk.mono fun k _ h => .inr h
theorem Lu.mem (H : Lu w o c q r cq cr N F l) {x : Nat} (hx : x < N) : (F.hd x = 0 ↔ x ∈ l) ∧ (F.hd x = -1 ↔ x ∉ l) ∧ (F.hd x = 0 ∨ F.hd x = -1) := by
  have h1 : x ∈ l → F.hd x = 0 := fun h => by have := (H.lo.ring.mem 0 l x rfl h).2; simpa using this
  have h2 : x ∉ l → F.hd x = -1 := fun h => H.lo.ring.out x hx fun k m hm => by
    match k, hm with
    | 0, hm => simp at hm; subst hm; exact h
    | k + 1, hm => simp at hm
  by_cases h : x ∈ l
  · have := h1 h
    exact ⟨⟨fun _ => h, h1⟩, ⟨fun e => by omega, fun k => absurd h k⟩, .inl this⟩
  · have := h2 h
    exact ⟨⟨fun e => by omega, fun k => absurd k h⟩, ⟨fun _ => h, h2⟩, .inr this⟩
set_option maxRecDepth 100000 in
theorem isZero_any (H : Lu w o c q r cq cr N F l) :
    Calls Try.prog 89 #[.pointer (some ⟨o, 0, none⟩)] w fun e w' => e = .returned (.bool false) ∧ w = w' := by
  have c0 := H.cell
  clear H
  go_enter Try.func89, Try.ntmps89
  go_wp2_with fail
  go_ret
  exact ⟨rfl, rfl⟩
set_option maxRecDepth 100000 in
theorem check_any (H : Lu w o c q r cq cr N F l) (x : Nat) (hx : x < 4294967296) :
    Calls Try.prog 87 #[.pointer (some ⟨o, 0, none⟩), .int .u32 (x : Int)] w fun e w' => e = .returned (.int .i64 (if x < 4194304 then 0 else 2)) ∧ w = w' := by
  have HZ := Lib.hid (isZero_any H)
  clear H
  by_cases h : x < 4194304
  · rw [if_pos h]
    have h1 : decide ((4194304 : Int) ≤ (x : Int)) = false := decide_eq_false (by omega)
    clear h hx
    obtain ⟨z, hz⟩ : ∃ z : Int, (x : Int) = z := ⟨_, rfl⟩
    rw [hz] at h1 ⊢
    have HZZ := Lib.hid hz
    clear hz
    go_enter Try.func87, Try.ntmps87
    go_wp2_with fail
    refine HZ.out.mono ?_
    rintro e w1 ⟨rfl, rfl⟩
    go_wp2_with fail
    go_ret
    exact ⟨rfl, rfl⟩
  · rw [if_neg h]
    have h1 : (4194304 : Int) ≤ (x : Int) := by omega
    clear h
    go_enter Try.func87, Try.ntmps87
    go_wp2_with fail
    refine HZ.out.mono ?_
    rintro e w1 ⟨rfl, rfl⟩
    go_wp2_with fail
    go_ret
    exact ⟨rfl, rfl⟩
set_option maxRecDepth 100000 in
theorem Len_any (H : Lu w o c q r cq cr N F l) :
    Calls Try.prog 45 #[.pointer (some ⟨o, 0, none⟩)] w fun e w' => e = .returned (.int .i64 (l.length : Int)) ∧ w = w' := by
  have HZ := Lib.hid (isZero_any H)
  have HL := Lib.hid (Len_ok H.lo (k := 0) rfl)
  have c0 := H.cell
  clear H
  go_enter Try.func45, Try.ntmps45
  go_wp2_with fail
  refine HZ.out.mono ?_
  rintro e w1 ⟨rfl, rfl⟩
  go_wp2_with fail
  refine HL.out.mono ?_
  rintro e w1 ⟨rfl, rfl⟩
  go_wp2_with fail
  go_ret
  exact ⟨rfl, rfl⟩
set_option maxRecDepth 100000 in
theorem Has_any (H : Lu w o c q r cq cr N F l) (x : Nat) (hx : x < 4294967296) :
    Calls Try.prog 44 #[.pointer (some ⟨o, 0, none⟩), .int .u32 (x : Int)] w fun e w' => e = .returned (.bool (decide (x ∈ l))) ∧ Below w.heap.size w w' := by
  have HZ := Lib.hid (isZero_any H)
  have c0 := H.cell
  by_cases h : x < N
  · obtain ⟨h1, h2, h3⟩ := H.mem h
    by_cases hm : x ∈ l
    · have HO := Lib.hid (Of_in H.lo h (h1.2 hm))
      rw [if_neg (by decide)] at HO
      rw [decide_eq_true hm]
      clear H h1 h2 h3 hm h
      go_enter Try.func44, Try.ntmps44
      go_wp2_with fail
      refine HZ.out.mono ?_
      rintro e w1 ⟨rfl, rfl⟩
      go_wp2_with fail
      refine HO.out.mono ?_
      rintro e w1 ⟨rfl, b1⟩
      have B1 := Lib.hid b1
      clear b1
      go_wp2_with fail
      go_ret
      exact ⟨rfl, B1.out⟩
    · have HO := Lib.hid (Of_in H.lo h (h2.2 hm))
      rw [if_pos rfl] at HO
      rw [decide_eq_false hm]
      clear H h1 h2 h3 hm h
      go_enter Try.func44, Try.ntmps44
      go_wp2_with fail
      refine HZ.out.mono ?_
      rintro e w1 ⟨rfl, rfl⟩
      go_wp2_with fail
      refine HO.out.mono ?_
      rintro e w1 ⟨rfl, b1⟩
      have B1 := Lib.hid b1
      clear b1
      go_wp2_with fail
      go_ret
      exact ⟨rfl, B1.out⟩
  · have hm : x ∉ l := fun hm => h (H.lo.ring.mem 0 l x rfl hm).1
    have HO := Lib.hid (Of_bad H.lo (n := (x : Int)) (by omega) (by omega))
    rw [decide_eq_false hm]
    clear H hm h
    go_enter Try.func44, Try.ntmps44
    go_wp2_with fail
    refine HZ.out.mono ?_
    rintro e w1 ⟨rfl, rfl⟩
    go_wp2_with fail
    refine HO.out.mono ?_
    rintro e w1 ⟨rfl, b1⟩
    have B1 := Lib.hid b1
    clear b1
    go_wp2_with fail
    go_ret
    exact ⟨rfl, B1.out⟩
set_option maxRecDepth 100000 in
theorem find_any (H : Lu w o c q r cq cr N F l) (x : Nat) (hx : x < 4294967296) :
    Calls Try.prog 91 #[.pointer (some ⟨o, 0, none⟩), .int .u32 (x : Int)] w fun e w' => e = .returned (.int .i64 (if x < 4194304 then (if x ∈ l then 0 else 9) else 2)) ∧ Below w.heap.size w w' := by
  have HC := Lib.hid (check_any H x hx)
  have HH := Lib.hid (Has_any H x hx)
  clear H
  by_cases h : x < 4194304
  · rw [if_pos h] at HC ⊢
    by_cases hm : x ∈ l
    · rw [if_pos hm]
      rw [decide_eq_true hm] at HH
      clear h hm
      go_enter Try.func91, Try.ntmps91
      go_wp2_with fail
      refine HC.out.mono ?_
      rintro e w1 ⟨rfl, rfl⟩
      go_wp2_with fail
      refine HH.out.mono ?_
      rintro e w1 ⟨rfl, b1⟩
      have B1 := Lib.hid b1
      clear b1
      go_wp2_with fail
      go_ret
      exact ⟨rfl, B1.out⟩
    · rw [if_neg hm]
      rw [decide_eq_false hm] at HH
      clear h hm
      go_enter Try.func91, Try.ntmps91
      go_wp2_with fail
      refine HC.out.mono ?_
      rintro e w1 ⟨rfl, rfl⟩
      go_wp2_with fail
      refine HH.out.mono ?_
      rintro e w1 ⟨rfl, b1⟩
      have B1 := Lib.hid b1
      clear b1
      go_wp2_with fail
      go_ret
      exact ⟨rfl, B1.out⟩
  · rw [if_neg h] at HC ⊢
    clear h
    go_enter Try.func91, Try.ntmps91
    go_wp2_with fail
    refine HC.out.mono ?_
    rintro e w1 ⟨rfl, rfl⟩
    go_wp2_with fail
    go_ret
    exact ⟨rfl, Below.refl _ _⟩
end
set_option maxRecDepth 100000 in
theorem New_any (w : World) :
    Calls Try.prog 26 #[] w fun e w' => (∃ o c q r F, e = .returned (.pointer (some ⟨o, 0, none⟩)) ∧ Lu w' o c q r 2 1 1 F [] ∧ w.heap.size ≤ o ∧ w.heap.size ≤ c ∧ w.heap.size ≤ q ∧ w.heap.size ≤ r) ∧ Below w.heap.size w w' := by
  have HN := Lib.hid (New_ok 1 1 w (by decide) (by decide) (by decide) (by decide))
  go_enter Try.func26, Try.ntmps26
  go_wp2_with fail
  refine HN.out.mono ?_
  rintro e w1 ⟨⟨c, q, r, F, rfl, lo, h1, h2, h3⟩, b1⟩
  have L1 := Lib.hid lo
  have B1 := Lib.hid b1
  have C1 := Lib.hid (show w.heap.size ≤ c ∧ w.heap.size ≤ q ∧ w.heap.size ≤ r from ⟨h1, h2, h3⟩)
  clear lo b1 h1 h2 h3
  go_wp2_with fail
  go_ret
  have hb := box_below w1 #[.pointer (some ⟨c, 0, none⟩)] 115
  have hl := L1.out.lt
  exact ⟨⟨w1.heap.size, c, q, r, F, rfl, ⟨(MapKept.heap_alloc w1 _).1, L1.out.below hb, by omega, by omega, by omega⟩, B1.out.size, C1.out.1, C1.out.2.1, C1.out.2.2⟩, tr B1.out hb⟩
end Go.Proofs.Ytbbcmheedhdlfaa.Lru
