/-
  Adaptive replacement (layer 29): Drop, Lists, New.
-/
import Derived.Test.YtggimkfepcgaoaaArqG
import Derived.Deep.LoopGhost
set_option linter.unusedVariables false
set_option linter.unusedSimpArgs false
namespace Go.Proofs.Ytggimkfepcgaoaa.Arc
open Go Go.RowKit Kit Go.Maps Lnk Gho
section
variable {w0 v : World} {o K s : Nat} {t : Int} {b : Nat → Nat} {L : Nat → List Nat} {X : Nat → Prop}
/-- a key is dropped -/
def dropA (L : Nat → List Nat) (k : Nat) : Nat → List Nat := upd (upd L 0 ((L 0).erase k)) 1 ((L 1).erase k)
set_option maxRecDepth 100000 in
set_option maxHeartbeats 2000000 in
theorem drop_any (h : Ax w0 v o K s t b L X) (hs : 1 ≤ s) (k : Nat) (hk : k < 4294967296) :
    Calls Try.prog 57 #[ap o, .int .u32 (k : Int)] v fun e w' => e = .returned (.tuple #[.bool (decide (k ∈ L 0 ∨ k ∈ L 1)), .int .i64 0]) ∧ AxR w0 v w' o K s t b (dropA L k) X := by
  have HZ := Lib.hid (zero_any h hs)
  have HH := Lib.hid (ahas_any h hs k hk)
  have H0 := Lib.hid (h.remove 0 (by omega) k hk)
  have e1 : upd L 0 ((L 0).erase k) 1 = L 1 := upd_other (by omega)
  have H1 := Lib.hid (fun u (h2 : AxR w0 v u o K s t b (upd L 0 ((L 0).erase k)) X) => e1 ▸ h2.1.remove 1 (by omega) k hk)
  obtain ⟨-, -, c2, -⟩ := h.cells
  obtain ⟨z, hz⟩ : ∃ z : Int, (k : Int) = z := ⟨_, rfl⟩
  obtain ⟨tt, ht⟩ : ∃ tt, decide (k ∈ L 0 ∨ k ∈ L 1) = tt := ⟨_, rfl⟩
  rw [ht] at HH ⊢
  rw [hz] at HH H0 H1 ⊢
  clear h hs hk e1 hz ht
  go_enter Try.func57, Try.ntmps57
  go_wp2_with fail
  refine HZ.out.mono ?_
  rintro e w1 ⟨rfl, rfl⟩
  go_wp2_with fail
  refine HH.out.mono ?_
  rintro e w1 ⟨rfl, rfl⟩
  go_wp2_with fail
  refine H0.out.mono ?_
  rintro e w1 ⟨rfl, hr⟩
  have HR := Lib.hid hr
  obtain ⟨-, -, -, c3, -⟩ := hr.1.cells
  clear hr c2
  go_wp2_with fail
  refine (H1.out _ HR.out).mono ?_
  rintro e w2 ⟨rfl, hr⟩
  have HR2 := Lib.hid (HR.out.trans hr)
  clear hr c3
  go_wp2_with fail
  exact bodyPost_ret (v := .tuple #[.bool tt, .int .i64 0]) (by simp [results, Try.results57, go_sem]) rfl ⟨rfl, HR2.out⟩
/-- four rows -/
def Rows4 (w' : World) (L : Nat → List Nat) (p0 p1 p2 p3 : Option Addr) : Prop := Ru w' p0 (ints (L 0)) ∧ Ru w' p1 (ints (L 1)) ∧ Ru w' p2 (ints (L 2)) ∧ Ru w' p3 (ints (L 3))
theorem row_ruA {w : World} {B n : Nat} {v : Value} {l : List Int} (h : w.ownsRow B 38 1 v n (l.map (Value.int .u32))) (hl : l.length = n) : ∃ p c, v = .slice p n c ∧ Ru w p l := by
  subst hl
  rcases own_cases h with ⟨rfl, rfl⟩ | ⟨g, cap, rfl, h1, h2, h3, h4, h5⟩
  · exact ⟨none, 0, rfl, fun i x hx => by simp at hx⟩
  · refine ⟨_, cap, rfl, fun i x hx => ?_⟩
    obtain ⟨hi, he⟩ := List.getElem?_eq_some_iff.1 hx
    exact ⟨_, rfl, h2, by rw [add2]; have := h5 i hi; rw [he] at this; exact this⟩
set_option maxRecDepth 100000 in
set_option maxHeartbeats 4000000 in
theorem lists_any (h : Ax w0 v o K s t b L X) (hs : 1 ≤ s) (hL : ∀ i, i < 4 → (L i).length ≤ 4096) {n0 n1 n2 n3 : Nat} (h0 : (L 0).length = n0) (h1 : (L 1).length = n1) (h2 : (L 2).length = n2) (h3 : (L 3).length = n3) :
    Calls Try.prog 54 #[ap o] v fun e w' => ∃ p0 p1 p2 p3 k0 k1 k2 k3, e = .returned (.tuple #[.slice p0 n0 k0, .slice p1 n1 k1, .slice p2 n2 k2, .slice p3 n3 k3, .int .i64 t]) ∧ Rows4 w' L p0 p1 p2 p3 ∧ Below v.heap.size v w' := by
  have HZ := Lib.hid (zero_any h hs)
  have HK := Lib.hid (fun u (hb : Below v.heap.size v u) i hi => (h.below' hb).lkeys i hi (by have := hL i hi; omega))
  have HS := Lib.hid (fun u (hb : Below v.heap.size v u) => (show u.cell? ⟨o, 1, none⟩ = some (.int .i64 t) ∧ u.cell? ⟨o, 2, none⟩ = some (gp (b 0)) ∧ u.cell? ⟨o, 3, none⟩ = some (gp (b 1)) ∧ u.cell? ⟨o, 4, none⟩ = some (gp (b 2)) ∧ u.cell? ⟨o, 5, none⟩ = some (gp (b 3)) ∧ Hid (Below v.heap.size v u) from by
    obtain ⟨-, c1, c2, c3, c4, c5, -⟩ := (h.below' hb).cells
    exact ⟨c1, c2, c3, c4, c5, Lib.hid hb⟩))
  have HN := Lib.hid (show (L 0).length = n0 ∧ (L 1).length = n1 ∧ (L 2).length = n2 ∧ (L 3).length = n3 from ⟨h0, h1, h2, h3⟩)
  clear h hs hL h0 h1 h2 h3
  go_enter Try.func54, Try.ntmps54
  go_wp2_with fail
  refine HZ.out.mono ?_
  rintro e w1 ⟨rfl, rfl⟩
  clear HZ
  go_wp2_with fail
  have T0 := Lib.hid (Below.drew (Below.refl v.heap.size v))
  have S0 := Lib.hid (HS.out _ T0.out)
  go_region_held3 (fun u => u.cell? ⟨o, 1, none⟩ = some (.int .i64 t) ∧ u.cell? ⟨o, 2, none⟩ = some (gp (b 0)) ∧ u.cell? ⟨o, 3, none⟩ = some (gp (b 1)) ∧ u.cell? ⟨o, 4, none⟩ = some (gp (b 2)) ∧ u.cell? ⟨o, 5, none⟩ = some (gp (b 3)) ∧ Hid (Below v.heap.size v u))
    (first
      | with_reducible exact S0.out
      | with_reducible exact S1.out
      | with_reducible exact S2.out
      | with_reducible exact S3.out
      | with_reducible exact S4.out
      | assumption
      | fail)
    (first
      | (go_at_call 43; refine (HK.out _ T3.out 3 (by omega)).mono ?_; rintro e u4 ⟨u, rfl, hrow, b4⟩; rw [HN.out.2.2.2] at hrow; obtain ⟨p3, k3, rfl, r3⟩ := row_ruA hrow (by rw [ints_len]; exact HN.out.2.2.2); have T4 := Lib.hid (tr T3.out b4); have RR4 := Lib.hid (And.intro r3 b4); have S4 := Lib.hid (HS.out _ T4.out); clear hrow r3 b4)
      | (go_at_call 43; refine (HK.out _ T2.out 2 (by omega)).mono ?_; rintro e u3 ⟨u, rfl, hrow, b3⟩; rw [HN.out.2.2.1] at hrow; obtain ⟨p2, k2, rfl, r2⟩ := row_ruA hrow (by rw [ints_len]; exact HN.out.2.2.1); have T3 := Lib.hid (tr T2.out b3); have RR3 := Lib.hid (And.intro r2 b3); have S3 := Lib.hid (HS.out _ T3.out); clear hrow r2 b3)
      | (go_at_call 43; refine (HK.out _ T1.out 1 (by omega)).mono ?_; rintro e u2 ⟨u, rfl, hrow, b2⟩; rw [HN.out.2.1] at hrow; obtain ⟨p1, k1, rfl, r1⟩ := row_ruA hrow (by rw [ints_len]; exact HN.out.2.1); have T2 := Lib.hid (tr T1.out b2); have RR2 := Lib.hid (And.intro r1 b2); have S2 := Lib.hid (HS.out _ T2.out); clear hrow r1 b2)
      | (go_at_call 43; refine (HK.out _ T0.out 0 (by omega)).mono ?_; rintro e u1 ⟨u, rfl, hrow, b1⟩; rw [HN.out.1] at hrow; obtain ⟨p0, k0, rfl, r0⟩ := row_ruA hrow (by rw [ints_len]; exact HN.out.1); have T1 := Lib.hid (tr T0.out b1); have RR1 := Lib.hid (And.intro r0 b1); have S1 := Lib.hid (HS.out _ T1.out); clear hrow r0 b1)
      | fail)
  go_wp2_with fail
  have q4 := RR4.out.2
  have q3 := RR3.out.2
  have q2 := RR2.out.2
  exact bodyPost_ret (v := .tuple #[.slice p0 n0 k0, .slice p1 n1 k1, .slice p2 n2 k2, .slice p3 n3 k3, .int .i64 t]) (by simp [results, Try.results54, go_sem]) rfl ⟨p0, p1, p2, p3, k0, k1, k2, k3, rfl, ⟨((RR1.out.1.below q2).below q3).below q4, (RR2.out.1.below q3).below q4, RR3.out.1.below q4, RR4.out.1⟩, T4.out⟩
end
end Go.Proofs.Ytggimkfepcgaoaa.Arc
