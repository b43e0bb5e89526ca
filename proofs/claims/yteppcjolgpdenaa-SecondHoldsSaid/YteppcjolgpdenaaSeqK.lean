/-
  Second chance (layer 31): Same, Marks.
-/
import Derived.Test.YteppcjolgpdenaaSeqJ
set_option linter.unusedVariables false
set_option linter.unusedSimpArgs false
namespace Go.Proofs.Yteppcjolgpdenaa.Seq
open Go Go.RowKit Kit Go.Maps
/-- a list that is read -/
def Rd {α : Type} (w : World) (v : Value) (l : List α) (f : α → Value) : Prop := ∃ o cap, v = .slice o l.length cap ∧ ∀ j (hj : j < l.length), ∃ g, o = some ⟨g, 0, none⟩ ∧ w.cell? ⟨g, j, none⟩ = some (f l[j]) ∧ g < w.heap.size
theorem own_rd {α : Type} {w : World} {B : Nat} {e : TypeId} {v : Value} {l : List α} {f : α → Value} (h : w.ownsRow B e 1 v l.length (l.map f)) : Rd w v l f := by
  rcases own_cases h with ⟨rfl, rfl⟩ | ⟨g, cap, rfl, h1, h2, h3, h4, h5⟩
  · exact ⟨none, 0, rfl, fun j hj => by simp at hj⟩
  · exact ⟨_, cap, rfl, fun j hj => ⟨g, rfl, h5 j hj, h2⟩⟩
theorem Rd.below {α : Type} {w w' : World} {v : Value} {l : List α} {f : α → Value} (h : Rd w v l f) (hb : Below w.heap.size w w') : Rd w' v l f := by
  obtain ⟨o, cap, hv, hc⟩ := h
  refine ⟨o, cap, hv, fun j hj => ?_⟩
  obtain ⟨g, h1, h2, h3⟩ := hc j hj
  exact ⟨g, h1, by rw [show w'.cell? ⟨g, j, none⟩ = w.cell? ⟨g, j, none⟩ from World.cell?_of_block (hb.block g h3)]; exact h2, Nat.lt_of_lt_of_le h3 hb.size⟩
theorem rd_at {α : Type} {w : World} {o : Option Addr} {l : List α} {f : α → Value} (h : ∀ j (hj : j < l.length), ∃ g, o = some ⟨g, 0, none⟩ ∧ w.cell? ⟨g, j, none⟩ = some (f l[j]) ∧ g < w.heap.size) (j : Nat) (hj : j < l.length) : ∃ g, o = some ⟨g, 0, none⟩ ∧ ∀ w', Below w.heap.size w w' → w'.cell? ⟨g, j, none⟩ = some (f l[j]) := by
  obtain ⟨g, h1, h2, h3⟩ := h j hj
  exact ⟨g, h1, fun w' hb => (World.cell?_of_block (a := ⟨g, j, none⟩) (hb.block g h3)).trans h2⟩
set_option maxRecDepth 100000 in
theorem same_any {w : World} {v1 v2 : Value} {l : List Int} (h1 : Rd w v1 l (Value.int .u32)) (h2 : Rd w v2 l (Value.int .u32)) (hl : l.length ≤ 1024) :
    Calls Try.prog 23 #[v1, v2] w fun e w' => e = .returned (.bool true) ∧ Below w.heap.size w w' := by
  obtain ⟨o1, c1, rfl, q1⟩ := h1
  obtain ⟨o2, c2, rfl, q2⟩ := h2
  have Q1 := Lib.hid (rd_at q1)
  have Q2 := Lib.hid (rd_at q2)
  clear q1 q2
  obtain ⟨n, hn⟩ : ∃ n, l.length = n := ⟨_, rfl⟩
  have HN := Lib.hid hn
  rw [hn] at hl ⊢
  clear hn
  go_enter Try.func23, Try.ntmps23
  go_wp2_with fail
  go_loopw [5] (fun i wr => ∃ j : Nat, j ≤ n ∧ i = .int .i64 j ∧ Below w.heap.size w wr) (fun i _ => n - (intOf i).toNat)
  case atStart => exact ⟨0, by omega, rfl, Below.refl _ _⟩
  case round =>
    obtain ⟨j, hj, rfl, bW⟩ := hrel
    have BW := Lib.hid bW
    clear bW
    by_cases hlt : j < n
    · obtain ⟨g1, rfl, x1⟩ := Q1.out j (by rw [HN.out]; exact hlt)
      obtain ⟨g2, rfl, x2⟩ := Q2.out j (by rw [HN.out]; exact hlt)
      have hlt' : (j : Int) < (n : Int) := by omega
      have j0 : (0 : Int) ≤ (j : Int) := by omega
      generalize l[j]'(by rw [HN.out]; exact hlt) = z at *
      have HS := Lib.hid (fun w' (hb : Below w.heap.size w w') => (⟨x1 w' hb, x2 w' hb, hb⟩ : w'.cell? ⟨g1, j, none⟩ = some (.int .u32 z) ∧ w'.cell? ⟨g2, j, none⟩ = some (.int .u32 z) ∧ Below w.heap.size w w'))
      clear x1 x2
      obtain ⟨x1, x2, -⟩ := HS.out _ BW.out
      go_wp2_with fail
      go_region_held3 (fun w' => w'.cell? ⟨g1, j, none⟩ = some (.int .u32 z) ∧ w'.cell? ⟨g2, j, none⟩ = some (.int .u32 z) ∧ Below w.heap.size w w')
        (first
          | (exact HS.out _ (Below.drew BW.out))
          | assumption
          | fail)
        (first | fail)
      have B2 := Lib.hid (Below.drew BW.out)
      go_wp2_with fail
      go_roundw
      case rel => exact ⟨j + 1, by omega, by go_num, B2.out⟩
      case measure => simp [intOf]; omega
    · obtain rfl : j = n := by omega
      go_wp2_with fail
      go_ret
      exact ⟨rfl, BW.out⟩
set_option maxRecDepth 100000 in
theorem marks_any {w : World} {v1 v2 : Value} {l : List Bool} (h1 : Rd w v1 l Value.bool) (h2 : Rd w v2 l Value.bool) (hl : l.length ≤ 1024) :
    Calls Try.prog 24 #[v1, v2] w fun e w' => e = .returned (.bool true) ∧ Below w.heap.size w w' := by
  obtain ⟨o1, c1, rfl, q1⟩ := h1
  obtain ⟨o2, c2, rfl, q2⟩ := h2
  have Q1 := Lib.hid (rd_at q1)
  have Q2 := Lib.hid (rd_at q2)
  clear q1 q2
  obtain ⟨n, hn⟩ : ∃ n, l.length = n := ⟨_, rfl⟩
  have HN := Lib.hid hn
  rw [hn] at hl ⊢
  clear hn
  go_enter Try.func24, Try.ntmps24
  go_wp2_with fail
  go_loopw [5] (fun i wr => ∃ j : Nat, j ≤ n ∧ i = .int .i64 j ∧ Below w.heap.size w wr) (fun i _ => n - (intOf i).toNat)
  case atStart => exact ⟨0, by omega, rfl, Below.refl _ _⟩
  case round =>
    obtain ⟨j, hj, rfl, bW⟩ := hrel
    have BW := Lib.hid bW
    clear bW
    by_cases hlt : j < n
    · obtain ⟨g1, rfl, x1⟩ := Q1.out j (by rw [HN.out]; exact hlt)
      obtain ⟨g2, rfl, x2⟩ := Q2.out j (by rw [HN.out]; exact hlt)
      have hlt' : (j : Int) < (n : Int) := by omega
      have j0 : (0 : Int) ≤ (j : Int) := by omega
      generalize l[j]'(by rw [HN.out]; exact hlt) = z at *
      have HS := Lib.hid (fun w' (hb : Below w.heap.size w w') => (⟨x1 w' hb, x2 w' hb, hb⟩ : w'.cell? ⟨g1, j, none⟩ = some (.bool z) ∧ w'.cell? ⟨g2, j, none⟩ = some (.bool z) ∧ Below w.heap.size w w'))
      clear x1 x2
      obtain ⟨x1, x2, -⟩ := HS.out _ BW.out
      go_wp2_with fail
      go_region_held3 (fun w' => w'.cell? ⟨g1, j, none⟩ = some (.bool z) ∧ w'.cell? ⟨g2, j, none⟩ = some (.bool z) ∧ Below w.heap.size w w')
        (first
          | (exact HS.out _ (Below.drew BW.out))
          | assumption
          | fail)
        (first | fail)
      have B2 := Lib.hid (Below.drew BW.out)
      go_wp2_with fail
      go_roundw
      case rel => exact ⟨j + 1, by omega, by go_num, B2.out⟩
      case measure => simp [intOf]; omega
    · obtain rfl : j = n := by omega
      go_wp2_with fail
      go_ret
      exact ⟨rfl, BW.out⟩
end Go.Proofs.Yteppcjolgpdenaa.Seq
