/-
  Victims (layer 18): lists of entries that are compared; Find.
-/
import Derived.Test.YtlokilkhlhhjgaaVicT
set_option linter.unusedVariables false
set_option linter.unusedSimpArgs false
namespace Go.Proofs.Ytlokilkhlhhjgaa.Vic
open Go Go.RowKit Kit Go.Maps
theorem second (y : Addr) (n : Nat) : (⟨(y.add n).block, (y.add n).off + 1, none⟩ : Addr) = y.add (n + 1) := Addr.add_add y n 1
set_option maxRecDepth 100000 in
theorem wsame_any {w : World} {p1 p2 : Option Addr} {n1 n2 c1 c2 : Nat} {l1 l2 : List Wg} (h1 : l1.length = n1) (h2 : l2.length = n2) (r1 : Rd w p1 l1) (r2 : Rd w p2 l2) (hn1 : n1 ≤ 1000000) (hn2 : n2 ≤ 1000000) :
    Calls Try.prog 12 #[.slice p1 n1 c1, .slice p2 n2 c2] w fun e w' => Says e (l1 = l2) ∧ Below w.heap.size w w' := by
  by_cases hn : n1 = n2
  · subst hn
    have H1 := Lib.hid h1
    have H2 := Lib.hid h2
    have R1 := Lib.hid (fun w' (hb : Below w.heap.size w w') => r1.below hb)
    have R2 := Lib.hid (fun w' (hb : Below w.heap.size w w') => r2.below hb)
    clear r1 r2 h1 h2 hn2
    go_enter Try.func12, Try.ntmps12
    go_wp2_with fail
    go_loopw [5] (fun i wr => ∃ j : Nat, j ≤ n1 ∧ i = .int .i64 j ∧ l1.take j = l2.take j ∧ Below w.heap.size w wr) (fun i _ => n1 - (intOf i).toNat)
    case atStart => exact ⟨0, by omega, rfl, by simp, Below.refl _ _⟩
    case round =>
      obtain ⟨j, hj, rfl, hT, bW⟩ := hrel
      have BW := Lib.hid bW
      have HT := Lib.hid hT
      clear bW hT
      by_cases hlt : j < n1
      · obtain ⟨⟨s1, t1⟩, hz1⟩ : ∃ p, l1[j]? = some p := ⟨l1[j]'(by rw [H1.out]; omega), List.getElem?_eq_getElem _⟩
        obtain ⟨⟨s2, t2⟩, hz2⟩ : ∃ p, l2[j]? = some p := ⟨l2[j]'(by rw [H2.out]; omega), List.getElem?_eq_getElem _⟩
        obtain ⟨y1, rfl, _, x1, x2⟩ := R1.out _ BW.out j _ hz1
        obtain ⟨y2, rfl, _, x3, x4⟩ := R2.out _ BW.out j _ hz2
        have hlt' : (j : Int) < (n1 : Int) := by omega
        have j0 : (0 : Int) ≤ (j : Int) := by omega
        have HS := Lib.hid (fun w' (hb : Below w.heap.size w w') => (show w'.cell? (y1.add (j * 2)) = some (.int .u32 s1) ∧ w'.cell? ⟨(y1.add (j * 2)).block, (y1.add (j * 2)).off + 1, none⟩ = some (.int .i64 t1) ∧ w'.cell? (y2.add (j * 2)) = some (.int .u32 s2) ∧ w'.cell? ⟨(y2.add (j * 2)).block, (y2.add (j * 2)).off + 1, none⟩ = some (.int .i64 t2) ∧ Below w.heap.size w w' from by
          obtain ⟨y, hy, _, e1, e2⟩ := R1.out _ hb j _ hz1
          obtain ⟨y', hy', _, e3, e4⟩ := R2.out _ hb j _ hz2
          cases hy; cases hy'
          exact ⟨e1, by rw [second]; exact e2, e3, by rw [second]; exact e4, hb⟩))
        have Z1 := Lib.hid hz1
        have Z2 := Lib.hid hz2
        clear hz1 hz2 x1 x2 x3 x4
        by_cases hs : s1 = s2
        · subst hs
          by_cases ht : t1 = t2
          · subst ht
            go_wp2_with fail
            go_region_held3 (fun w' => w'.cell? (y1.add (j * 2)) = some (.int .u32 s1) ∧ w'.cell? ⟨(y1.add (j * 2)).block, (y1.add (j * 2)).off + 1, none⟩ = some (.int .i64 t1) ∧ w'.cell? (y2.add (j * 2)) = some (.int .u32 s1) ∧ w'.cell? ⟨(y2.add (j * 2)).block, (y2.add (j * 2)).off + 1, none⟩ = some (.int .i64 t1) ∧ Below w.heap.size w w')
              (first
                | (exact HS.out _ (Below.drew BW.out))
                | assumption
                | fail)
              (first | fail)
            have B2 := Lib.hid (Below.drew BW.out)
            go_wp2_with fail
            go_roundw
            case rel => exact ⟨j + 1, by omega, by go_num, same_to HT.out Z1.out Z2.out, B2.out⟩
            case measure => simp [intOf]; omega
          · have hb : (t1 == t2) = false := by rw [beq_eq_false_iff_ne]; exact ht
            have HZ := Lib.hid ht
            clear ht
            go_wp2_with fail
            go_region_held3 (fun w' => w'.cell? (y1.add (j * 2)) = some (.int .u32 s1) ∧ w'.cell? ⟨(y1.add (j * 2)).block, (y1.add (j * 2)).off + 1, none⟩ = some (.int .i64 t1) ∧ w'.cell? (y2.add (j * 2)) = some (.int .u32 s1) ∧ w'.cell? ⟨(y2.add (j * 2)).block, (y2.add (j * 2)).off + 1, none⟩ = some (.int .i64 t2) ∧ Below w.heap.size w w')
              (first
                | (exact HS.out _ (Below.drew BW.out))
                | assumption
                | fail)
              (first | fail)
            have B2 := Lib.hid (Below.drew BW.out)
            go_wp2_with fail
            go_ret
            exact ⟨Says.no rfl (other_at Z1.out Z2.out (fun h => HZ.out (congrArg Prod.snd h))), B2.out⟩
        · have hb : (s1 == s2) = false := by rw [beq_eq_false_iff_ne]; exact hs
          have HZ := Lib.hid hs
          clear hs
          go_wp2_with fail
          go_region_held3 (fun w' => w'.cell? (y1.add (j * 2)) = some (.int .u32 s1) ∧ w'.cell? ⟨(y1.add (j * 2)).block, (y1.add (j * 2)).off + 1, none⟩ = some (.int .i64 t1) ∧ w'.cell? (y2.add (j * 2)) = some (.int .u32 s2) ∧ w'.cell? ⟨(y2.add (j * 2)).block, (y2.add (j * 2)).off + 1, none⟩ = some (.int .i64 t2) ∧ Below w.heap.size w w')
            (first
              | (exact HS.out _ (Below.drew BW.out))
              | assumption
              | fail)
            (first | fail)
          have B2 := Lib.hid (Below.drew BW.out)
          go_wp2_with fail
          go_ret
          exact ⟨Says.no rfl (other_at Z1.out Z2.out (fun h => HZ.out (congrArg Prod.fst h))), B2.out⟩
      · obtain rfl : j = n1 := by omega
        go_wp2_with fail
        go_ret
        exact ⟨Says.yes rfl (same_all HT.out H1.out H2.out), BW.out⟩
  · have hb : ((n1 : Int) == (n2 : Int)) = false := by rw [beq_eq_false_iff_ne]; omega
    have hb2 : ((n1 : Int) != (n2 : Int)) = true := by rw [bne_iff_ne]; omega
    have HX := Lib.hid (show ¬ l1 = l2 from fun he => by rw [he] at h1; omega)
    clear r1 r2 h1 h2
    go_enter Try.func12, Try.ntmps12
    go_wp2_with fail
    go_ret
    exact ⟨Says.no rfl HX.out, Below.refl _ _⟩
end Go.Proofs.Ytlokilkhlhhjgaa.Vic
