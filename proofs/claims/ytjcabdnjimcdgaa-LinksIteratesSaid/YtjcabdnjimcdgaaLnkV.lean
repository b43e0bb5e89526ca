/-
  Links (layer 14): LinksNew.
-/
import Derived.Test.YtjcabdnjimcdgaaLnkU
set_option linter.unusedVariables false
set_option linter.unusedSimpArgs false
namespace Go.Proofs.Ytjcabdnjimcdgaa.Lnk
open Go Go.RowKit Kit
theorem sl_info : (Try.prog.info? 39).map (fun i => (i.zero, i.size, i.bytes)) = some (some (.slice none 0 0), 1, 24) := by kernel_rfl
theorem made_rf (w w' : World) (H g : Nat) (h : w'.heap[g]? = some (.cells (madeCells #[.slice none 0 0] (H * 1)) 39 (0, 0))) : Rf w' (some ⟨g, 0, none⟩) (List.replicate H []) := by
  intro k l hl
  rw [List.getElem?_replicate] at hl
  rw [Nat.mul_one] at h
  split at hl
  · rename_i hk
    cases hl
    refine ⟨_, rfl, (Array.getElem?_eq_some_iff.1 h).1, none, 0, ?_, fun i x hx => by simp [ints] at hx⟩
    rw [add2]
    have : (madeCells #[.slice none 0 0] H)[k]? = some (.slice none 0 0) := by simp [madeCells, hk, Nat.mod_one]
    simp [World.cell?, h, this]
  · cases hl
set_option maxRecDepth 100000 in
theorem rnew_bad {n h : Int} (w : World) (hh : ¬ (1 ≤ n ∧ n ≤ 4194304 ∧ 1 ≤ h ∧ h ≤ 4096)) :
    Calls Try.prog 15 #[.int .i64 n, .int .i64 h] w fun e w' => e = .returned (.tuple #[.agg #[.int .i64 0, .slice none 0 0], .bool false]) ∧ Below w.heap.size w w' := by
  have hc : n < 1 ∨ (¬ n < 1 ∧ 4194304 < n) ∨ (¬ n < 1 ∧ ¬ 4194304 < n ∧ h < 1) ∨ (¬ n < 1 ∧ ¬ 4194304 < n ∧ ¬ h < 1 ∧ 4096 < h) := by omega
  clear hh
  rcases hc with h1 | ⟨h1, h2⟩ | ⟨h1, h2, h3⟩ | ⟨h1, h2, h3, h4⟩
  all_goals (
    go_enter Try.func15, Try.ntmps15
    go_wp2_with fail
    obtain ⟨f0, f1⟩ := two_of (MapKept.heap_alloc w (Obj.cells #[.int .i64 0, .slice none 0 0] 24)).1
    refine bodyPost_ret (v := .tuple #[.agg #[.int .i64 0, .slice none 0 0], .bool false]) (by simp [results, Try.results15, go_sem, f0, f1]) rfl ?_
    exact ⟨rfl, by go_grown⟩)
set_option maxRecDepth 100000 in
theorem rnew_ok (N H : Nat) (w : World) (n1 : 1 ≤ N) (n2 : N ≤ 4194304) (h1 : 1 ≤ H) (h2 : H ≤ 4096) :
    Calls Try.prog 15 #[.int .i64 (N : Int), .int .i64 (H : Int)] w fun e w' => (∃ p, e = .returned (.tuple #[fv N p H H, .bool true]) ∧ Rf w' p (List.replicate H [])) ∧ Below w.heap.size w w' := by
  have a1 : ¬ (N : Int) < 1 := by omega
  have a2 : ¬ (4194304 : Int) < (N : Int) := by omega
  have a3 : ¬ (H : Int) < 1 := by omega
  have a4 : ¬ (4096 : Int) < (H : Int) := by omega
  have hm := fun w => make_any (P := Try.prog) w 22 39 _ 1 24 (by kernel_rfl) sl_info H (by omega) (by omega)
  go_enter Try.func15, Try.ntmps15
  go_wp2_with fail
  obtain ⟨f0, f1⟩ := two_of ((Below.heap_alloc (w.alloc (.cells #[.int .i64 (N : Int), .slice (some ⟨w.heap.size + 1, 0, none⟩) H H] 24)) (.cells (madeCells #[.slice none 0 0] H) 39) w.heap.size (by simp)).trans (MapKept.heap_alloc w (Obj.cells #[.int .i64 (N : Int), .slice (some ⟨w.heap.size + 1, 0, none⟩) H H] 24)).1)
  refine bodyPost_ret (v := .tuple #[.agg #[.int .i64 (N : Int), .slice (some ⟨w.heap.size + 1, 0, none⟩) H H], .bool true]) (by simp [results, Try.results15, go_sem, f0, f1]) rfl ?_
  refine ⟨⟨some ⟨w.heap.size + 1, 0, none⟩, rfl, made_rf w _ H _ ?_⟩, by go_grown⟩
  rw [Nat.mul_one]
  have := (MapKept.heap_alloc (w.alloc (Obj.cells #[.int .i64 (N : Int), .slice (some ⟨w.heap.size + 1, 0, none⟩) H H] 24)) (.cells (madeCells #[.slice none 0 0] H) 39)).1
  simpa using this
set_option maxRecDepth 100000 in
set_option maxHeartbeats 1000000 in
theorem lnew_any {nodes heads : Int} {W : World} (hk : Kn W) :
    Calls Try.prog 3 #[.int .i64 nodes, .int .i64 heads] W fun e w' => e = .returned (.bool true) ∧ Below W.heap.size W w' := by
  have HK := Lib.hid hk
  clear hk
  by_cases hbad : ¬ (1 ≤ nodes ∧ nodes ≤ 4194304 ∧ 1 ≤ heads ∧ heads ≤ 4096)
  · have HRN := Lib.hid (fun v : World => rnew_bad v hbad)
    have HNW := Lib.hid (fun v : World => New_bad v hbad)
    clear hbad
    go_enter Try.func3, Try.ntmps3
    go_wp2_with fail
    refine (HRN.out _).mono ?_
    rintro e v1 ⟨rfl, b1⟩
    have B1 := Lib.hid b1
    clear b1
    go_wp2_with fail
    have B2 := Lib.hid (tr B1.out (box_below v1 #[.int .i64 0, .slice none 0 0] 24))
    refine (HNW.out _).mono ?_
    rintro e v2 ⟨rfl, b2⟩
    have B3 := Lib.hid (tr B2.out b2)
    clear b2
    go_wp2_with fail
    refine (HK.out _ B3.out).mono ?_
    rintro e v3 ⟨rfl, b3⟩
    have B4 := Lib.hid (tr B3.out b3)
    clear b3
    go_wp2_with fail
    go_ret
    exact ⟨rfl, B4.out⟩
  · obtain ⟨N, rfl⟩ : ∃ N : Nat, nodes = (N : Int) := ⟨nodes.toNat, by omega⟩
    obtain ⟨H, rfl⟩ : ∃ H : Nat, heads = (H : Int) := ⟨heads.toNat, by omega⟩
    have HRN := Lib.hid (fun v : World => rnew_ok N H v (by omega) (by omega) (by omega) (by omega))
    have HNW := Lib.hid (fun v : World => New_ok N H v (by omega) (by omega) (by omega) (by omega))
    clear hbad
    have hc : (¬ (2000 : Int) < (N : Int) ∧ ¬ (200 : Int) < (H : Int)) ∨ (2000 : Int) < (N : Int) ∨ (¬ (2000 : Int) < (N : Int) ∧ (200 : Int) < (H : Int)) := by omega
    rcases hc with ⟨c1, c2⟩ | c1 | ⟨c1, c2⟩
    · go_enter Try.func3, Try.ntmps3
      go_wp2_with fail
      refine (HRN.out _).mono ?_
      rintro e v1 ⟨⟨p, rfl, rf⟩, b1⟩
      unfold fv
      go_wp2_with fail
      have B2 := Lib.hid (tr b1 (box_below v1 #[.int .i64 (N : Int), .slice p H H] 24))
      have RF := Lib.hid (rf.below (box_below v1 #[.int .i64 (N : Int), .slice p H H] 24))
      have hx := (MapKept.heap_alloc v1 (Obj.cells #[.int .i64 (N : Int), .slice p H H] 24)).1
      have hsz : v1.heap.size < (v1.alloc (.cells #[.int .i64 (N : Int), .slice p H H] 24)).heap.size := by simp
      obtain ⟨V, hV⟩ : ∃ V, v1.alloc (.cells #[.int .i64 (N : Int), .slice p H H] 24) = V := ⟨_, rfl⟩
      rw [hV] at B2 RF hx hsz ⊢
      have HX := Lib.hid hx
      clear hV b1 rf hx
      refine (HNW.out _).mono ?_
      rintro e v2 ⟨⟨c, q, r, F, rfl, lo, -, -, -⟩, b2⟩
      have B3 := Lib.hid (tr B2.out b2)
      have IS := Lib.hid (fun (v : World) (hb : Below v2.heap.size v2 v) => is_any (Hn := H) (cp := H) ((⟨lo, RF.out.below b2⟩ : Eq2 v2 c q r (N + H) H N F (List.replicate H []) p).below hb) (by omega) (by simp))
      unfold fv at IS
      obtain ⟨x0, x1⟩ := two_of ((b2.block _ hsz).trans HX.out)
      clear b2 lo
      go_wp2_with fail
      refine (IS.out _ (Below.refl _ _)).mono ?_
      rintro e v3 ⟨rfl, b3⟩
      have B4 := Lib.hid (tr B3.out b3)
      clear b3
      go_wp2_with fail
      refine (HK.out _ B4.out).mono ?_
      rintro e v4 ⟨rfl, b4⟩
      have B5 := Lib.hid (tr B4.out b4)
      clear b4
      go_wp2_with fail
      go_ret
      exact ⟨rfl, B5.out⟩
    · go_enter Try.func3, Try.ntmps3
      go_wp2_with fail
      refine (HRN.out _).mono ?_
      rintro e v1 ⟨⟨p, rfl, rf⟩, b1⟩
      unfold fv
      go_wp2_with fail
      have B2 := Lib.hid (tr b1 (box_below v1 #[.int .i64 (N : Int), .slice p H H] 24))
      clear b1 rf
      refine (HK.out _ B2.out).mono ?_
      rintro e v3 ⟨rfl, b3⟩
      have B4 := Lib.hid (tr B2.out b3)
      clear b3
      go_wp2_with fail
      go_ret
      exact ⟨rfl, B4.out⟩
    · go_enter Try.func3, Try.ntmps3
      go_wp2_with fail
      refine (HRN.out _).mono ?_
      rintro e v1 ⟨⟨p, rfl, rf⟩, b1⟩
      unfold fv
      go_wp2_with fail
      have B2 := Lib.hid (tr b1 (box_below v1 #[.int .i64 (N : Int), .slice p H H] 24))
      clear b1 rf
      refine (HK.out _ B2.out).mono ?_
      rintro e v3 ⟨rfl, b3⟩
      have B4 := Lib.hid (tr B2.out b3)
      clear b3
      go_wp2_with fail
      go_ret
      exact ⟨rfl, B4.out⟩
end Go.Proofs.Ytjcabdnjimcdgaa.Lnk
