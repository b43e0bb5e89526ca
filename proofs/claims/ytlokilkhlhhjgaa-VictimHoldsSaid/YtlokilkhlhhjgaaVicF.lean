/-
  Victims (layer 18): slices.DeleteFunc of the closure of order; order.
-/
import Derived.Test.YtlokilkhlhhjgaaVicD
set_option linter.unusedVariables false
set_option linter.unusedSimpArgs false
namespace Go.Proofs.Ytlokilkhlhhjgaa.Vic
open Go Go.RowKit Kit
/-- the variable that holds a question -/
def Qb (w : World) (b : Nat) (k : Int) : Prop := w.cell? ⟨b, 2, none⟩ = some (.int .u32 k) ∧ b < w.heap.size
theorem Qb.below {w w' : World} {b : Nat} {k : Int} (h : Qb w b k) (hb : Below w.heap.size w w') : Qb w' b k :=
  ⟨(hb.cell (p := ⟨b, 2, none⟩) h.2).trans h.1, Nat.lt_of_lt_of_le h.2 hb.size⟩
theorem keep_any (s c k : Int) (b : Nat) (w : World) (h : Qb w b k) :
    Calls Try.prog 33 #[.agg #[.int .u32 s, .int .i64 c], .pointer (some ⟨b, 0, none⟩)] w fun e w' => e = .returned (.bool (s == k)) ∧ Below w.heap.size w w' := by
  obtain ⟨h0, h1⟩ := h
  go_enter Try.func33, Try.ntmps33
  go_wp2_with fail
  all_goals go_ret
  all_goals exact ⟨ret_bool (by simp [Bool.beq_eq_decide_eq]), by go_grown⟩
/-- the first entry of a slot, or -1 -/
def fi (k : Int) (l : List Wg) : Int := match l.findIdx? (fun x => x.1 == k) with | some i => (i : Int) | none => -1
theorem fi_at {k : Int} {l : List Wg} {j : Nat} {p : Wg} (h : ∀ m x, m < j → l[m]? = some x → (x.1 == k) = false) (hp : l[j]? = some p) (he : (p.1 == k) = true) : fi k l = (j : Int) := by
  have : l.findIdx? (fun x => x.1 == k) = some j := by
    obtain ⟨hj, hpe⟩ := List.getElem?_eq_some_iff.1 hp
    refine List.findIdx?_eq_some_iff_getElem.2 ⟨hj, by rw [hpe]; exact he, fun m hm => ?_⟩
    have := h m (l[m]'(by omega)) hm (List.getElem?_eq_getElem (by omega))
    rw [this]; simp
  unfold fi; rw [this]
theorem fi_none {k : Int} {l : List Wg} (h : ∀ m x, m < l.length → l[m]? = some x → (x.1 == k) = false) : fi k l = -1 := by
  have : l.findIdx? (fun x => x.1 == k) = none := by
    rw [List.findIdx?_eq_none_iff]
    intro x hx
    obtain ⟨m, hm, rfl⟩ := List.getElem_of_mem hx
    exact h m _ hm (List.getElem?_eq_getElem hm)
  unfold fi; rw [this]
set_option maxRecDepth 100000 in
theorem ifunc_any {w : World} {g n cap b : Nat} {k : Int} {l : List Wg} (hl : l.length = n) (hr : Rd w (some ⟨g, 0, none⟩) l) (hq : Qb w b k) (hn : n ≤ 100000000) :
    Calls Try.prog 36 #[.slice (some ⟨g, 0, none⟩) n cap, .func (.func 33) #[] #[.pointer (some ⟨b, 0, none⟩)]] w fun e w' => e = .returned (.int .i64 (fi k l)) ∧ Below w.heap.size w w' := by
  have R := Lib.hid (fun (v : World) (hb : Below w.heap.size w v) => hr.below hb)
  have Q := Lib.hid (fun (v : World) (hb : Below w.heap.size w v) => hq.below hb)
  clear hr hq
  go_enter Try.func36, Try.ntmps36
  go_wp2_with fail
  go_loopw [8] (fun v wr => ∃ j : Nat, j ≤ n ∧ (∀ m x, m < j → l[m]? = some x → (x.1 == k) = false) ∧ v = .int .i64 j ∧ Below w.heap.size w wr) (fun v _ => n - (intOf v).toNat)
  case atStart => exact ⟨0, by omega, fun m x hm => by omega, rfl, Below.refl _ _⟩
  case round =>
    obtain ⟨j, hj, hbefore, rfl, bW⟩ := hrel
    have BW := Lib.hid bW
    by_cases hjn : j = n
    · subst hjn
      have hf := fi_none (k := k) (l := l) (fun m x hm => hbefore m x (by omega))
      clear hbefore bW
      go_wp2_with fail
      go_ret
      exact ⟨by rw [hf]; rfl, BW.out⟩
    · have hlt : j < n := by omega
      have hlt' : (j : Int) < (n : Int) := by omega
      have j0 : (0 : Int) ≤ (j : Int) := by omega
      obtain ⟨p, hp⟩ : ∃ p, l[j]? = some p := ⟨l[j]'(by omega), List.getElem?_eq_getElem _⟩
      obtain ⟨y, hy, _, e0, e1⟩ := R.out _ bW j p hp
      cases hy
      have HF := Lib.hid (keep_any p.1 p.2 k b _ (Q.out _ bW))
      have a0 : (⟨g, 0, none⟩ : Addr).add (j * 2) = ⟨g, j * 2, none⟩ := by unfold Addr.add; split <;> simp_all
      have a1 : (⟨g, 0, none⟩ : Addr).add (j * 2 + 1) = ⟨g, j * 2 + 1, none⟩ := by unfold Addr.add; split <;> simp_all
      rw [a0] at e0
      rw [a1] at e1
      have HB := Lib.hid hbefore
      have HP := Lib.hid hp
      clear hbefore bW hp a0 a1
      go_wp2_with fail
      refine HF.out.mono ?_
      rintro e w3 ⟨rfl, b3⟩
      have B3 := Lib.hid (tr BW.out b3)
      clear b3
      cases hpk : (p.1 == k) with
      | true =>
        have hf := fi_at HB.out HP.out hpk
        go_wp2_with fail
        go_ret
        exact ⟨by rw [hf]; rfl, B3.out⟩
      | false =>
        go_wp2_with fail
        go_roundw
        case rel =>
          refine ⟨j + 1, by omega, fun m x hm hx => ?_, by go_num, B3.out⟩
          by_cases he : m = j
          · subst he
            rw [HP.out] at hx
            cases hx
            exact hpk
          · exact HB.out m x (by omega) hx
        case measure => simp [intOf]; omega
end Go.Proofs.Ytlokilkhlhhjgaa.Vic
