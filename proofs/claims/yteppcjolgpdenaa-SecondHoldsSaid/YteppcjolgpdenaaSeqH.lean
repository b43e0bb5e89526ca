/-
  Second chance (layer 31): the reference's At; the rows of Ring.
-/
import Derived.Test.YteppcjolgpdenaaSeqG
import Derived.Laws.AppendOwn
import Derived.Laws.OwnMore
set_option linter.unusedVariables false
set_option linter.unusedSimpArgs false
namespace Go.Proofs.Yteppcjolgpdenaa.Seq
open Go Go.RowKit Kit Go.Maps
/-- what At gives -/
def atL (l : List Pl) (k : Int) : Int := match find l k with
  | some i => (i : Int)
  | none => -1
/-- not before j -/
def NotYet (l : List Pl) (k : Int) (j : Nat) : Prop := ∀ i, i < j → ∀ p, l[i]? = some p → hit k p = false
theorem NotYet.zero (l : List Pl) (k : Int) : NotYet l k 0 := fun i hi => by omega
theorem NotYet.succ {l : List Pl} {k : Int} {j : Nat} (h : NotYet l k j) {p : Pl} (hp : l[j]? = some p) (hh : hit k p = false) : NotYet l k (j + 1) := fun i hi p' hp' => by
  rcases Nat.lt_or_ge i j with h1 | h1
  · exact h i h1 p' hp'
  · obtain rfl : i = j := by omega
    rw [hp] at hp'; cases hp'; exact hh
theorem NotYet.hit {l : List Pl} {k : Int} {j : Nat} (h : NotYet l k j) {p : Pl} (hp : l[j]? = some p) (hh : Seq.hit k p = true) : atL l k = (j : Int) := by
  obtain ⟨hj, he⟩ := List.getElem?_eq_some_iff.1 hp
  have : find l k = some j := by
    unfold find
    rw [List.findIdx?_eq_some_iff_getElem]
    refine ⟨hj, by rw [he]; exact hh, fun i hi => ?_⟩
    have := h i hi _ (List.getElem?_eq_getElem (by omega))
    simp [this]
  unfold atL
  rw [this]
theorem NotYet.none_ {l : List Pl} {k : Int} (h : NotYet l k l.length) : atL l k = -1 := by
  have : find l k = none := by
    unfold find
    rw [List.findIdx?_eq_none_iff]
    intro p hp
    obtain ⟨i, hi, rfl⟩ := List.getElem_of_mem hp
    exact h i hi _ (List.getElem?_eq_getElem hi)
  unfold atL
  rw [this]
set_option maxRecDepth 100000 in
set_option maxHeartbeats 1000000 in
theorem rat_any {W : World} {q cap : Nat} {l : List Pl} (H : Rw W q l) (hm : l.length ≤ 1024) (hd : Int) (k : Int) :
    Calls Try.prog 27 #[.agg #[.slice (some ⟨q, 0, none⟩) l.length cap, .int .i64 hd], .int .u32 k] W fun e w' => e = .returned (.int .i64 (atL l k)) ∧ Below W.heap.size W w' := by
  have H3 := Lib.hid H
  clear H
  obtain ⟨n, hn⟩ : ∃ n, l.length = n := ⟨_, rfl⟩
  rw [hn] at hm ⊢
  have HN := Lib.hid hn
  clear hn
  go_enter Try.func27, Try.ntmps27
  go_wp2_with fail
  go_loopw [5] (fun i wr => ∃ j : Nat, j ≤ n ∧ i = .int .i64 j ∧ NotYet l k j ∧ Below (W.heap.size + 1) (W.alloc (Obj.cells #[Value.slice (some ⟨q, 0, none⟩) n cap, Value.int IntKind.i64 hd] 30)) wr) (fun i _ => n - (intOf i).toNat)
  case atStart => exact ⟨0, by omega, rfl, NotYet.zero l k, by simpa [World.size_alloc] using Below.refl _ _⟩
  case round =>
    obtain ⟨j, hj, rfl, hY, bW⟩ := hrel
    have hc0 : wr.cell? ⟨W.heap.size, 0, none⟩ = some (.slice (some ⟨q, 0, none⟩) n cap) := by
      rw [bW.cell (p := ⟨W.heap.size, 0, none⟩) (by simp)]
      unfold World.cell?; rw [(MapKept.heap_alloc W _).1]; rfl
    have bW0 : Below W.heap.size W wr := (by go_grown : Below W.heap.size W (W.alloc (Obj.cells #[Value.slice (some ⟨q, 0, none⟩) n cap, Value.int IntKind.i64 hd] 30))).trans (bW.mono (by omega))
    have HB := Lib.hid bW
    have HB0 := Lib.hid bW0
    have HY := Lib.hid hY
    clear bW bW0 hY
    by_cases hlt : j < n
    · obtain ⟨p, hp⟩ : ∃ p, l[j]? = some p := ⟨_, List.getElem?_eq_getElem (by rw [HN.out]; exact hlt)⟩
      obtain ⟨r0, r1, r2, -⟩ := (H3.out.of (HB0.out.block q H3.out.lt)).at_ hp
      have hlt' : (j : Int) < (n : Int) := by omega
      have j0 : (0 : Int) ≤ (j : Int) := by omega
      cases hf : p.f with
      | false =>
        rw [hf] at r1
        have HH := Lib.hid (HY.out.succ hp (show hit k p = false from by unfold hit; rw [hf]; rfl))
        clear hp hf
        go_wp2_with fail
        go_roundw
        case rel => exact ⟨j + 1, by omega, by go_num, HH.out, HB.out⟩
        case measure => simp [intOf]; omega
      | true =>
        rw [hf] at r1
        by_cases hk : p.k = k
        · have HH := Lib.hid (HY.out.hit hp (show hit k p = true from by unfold hit; rw [hf, hk]; simp))
          rw [hk] at r0
          clear hp hf hk
          go_wp2_with fail
          go_ret
          exact ⟨by rw [HH.out]; rfl, HB0.out⟩
        · have HH := Lib.hid (HY.out.succ hp (show hit k p = false from by unfold hit; rw [hf]; simp [hk]))
          have hk1 : (p.k == k) = false := by rw [beq_eq_false_iff_ne]; exact hk
          clear hp hf
          go_wp2_with fail
          go_roundw
          case rel => exact ⟨j + 1, by omega, by go_num, HH.out, HB.out⟩
          case measure => simp [intOf]; omega
    · obtain rfl : j = n := by omega
      have HE := Lib.hid (show atL l k = -1 from NotYet.none_ (by rw [HN.out]; exact HY.out))
      go_wp2_with fail
      go_ret
      exact ⟨by rw [HE.out]; rfl, HB0.out⟩
end Go.Proofs.Yteppcjolgpdenaa.Seq
