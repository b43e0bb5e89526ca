/-
  Links (layer 14): New.
-/
import Derived.Test.YtggimkfepcgaoaaLnkK
import Derived.Deep.RegionWith
set_option linter.unusedVariables false
set_option linter.unusedSimpArgs false
namespace Go.Proofs.Ytggimkfepcgaoaa.Lnk
open Go Go.RowKit Kit
theorem box_below2 (W : World) (o : Obj) : Below W.heap.size W (W.alloc o) := by go_grown
theorem made_lz2 (w' : World) (H r : Nat) (h : w'.heap[r]? = some (.cells (madeCells #[.int .i64 0] H) 3 (0, 0))) : Lz w' r H (fun _ => 0) := made_lz w' H r (by rw [Nat.mul_one]; exact h)
theorem raw1 (w : World) (N H : Nat) (n1 : 1 ≤ N) (n2 : N ≤ 4194304) (h2 : H ≤ 4096) : Ro (((w.alloc (.cells (madeCells #[.int .u32 0, .int .u32 0, .int .i32 0] ((N + H) * 3)) 129)).alloc (.cells (madeCells #[.int .i64 0] H) 3)).alloc (.cells #[.int .i64 (N : Int), .slice (some ⟨w.heap.size, 0, none⟩) (N + H) (N + H), .slice (some ⟨(w.heap.size + 1), 0, none⟩) H H] 127)).drew (w.heap.size + 1 + 1) w.heap.size (w.heap.size + 1) (N + H) H N H blankF (fun _ => 0) ∧ Below w.heap.size w (((w.alloc (.cells (madeCells #[.int .u32 0, .int .u32 0, .int .i32 0] ((N + H) * 3)) 129)).alloc (.cells (madeCells #[.int .i64 0] H) 3)).alloc (.cells #[.int .i64 (N : Int), .slice (some ⟨w.heap.size, 0, none⟩) (N + H) (N + H), .slice (some ⟨(w.heap.size + 1), 0, none⟩) H H] 127)).drew := by
  have e1 := (MapKept.heap_alloc w (.cells (madeCells #[.int .u32 0, .int .u32 0, .int .i32 0] ((N + H) * 3)) 129)).1
  have e2 := (MapKept.heap_alloc (w.alloc (.cells (madeCells #[.int .u32 0, .int .u32 0, .int .i32 0] ((N + H) * 3)) 129)) (.cells (madeCells #[.int .i64 0] H) 3)).1
  have e3 := (MapKept.heap_alloc ((w.alloc (.cells (madeCells #[.int .u32 0, .int .u32 0, .int .i32 0] ((N + H) * 3)) 129)).alloc (.cells (madeCells #[.int .i64 0] H) 3)) (.cells #[.int .i64 (N : Int), .slice (some ⟨w.heap.size, 0, none⟩) (N + H) (N + H), .slice (some ⟨(w.heap.size + 1), 0, none⟩) H H] 127)).1
  simp only [World.size_alloc] at e2 e3
  have b2 := box_below2 (w.alloc (.cells (madeCells #[.int .u32 0, .int .u32 0, .int .i32 0] ((N + H) * 3)) 129)) (.cells (madeCells #[.int .i64 0] H) 3)
  have b3 := box_below2 ((w.alloc (.cells (madeCells #[.int .u32 0, .int .u32 0, .int .i32 0] ((N + H) * 3)) 129)).alloc (.cells (madeCells #[.int .i64 0] H) 3)) (.cells #[.int .i64 (N : Int), .slice (some ⟨w.heap.size, 0, none⟩) (N + H) (N + H), .slice (some ⟨(w.heap.size + 1), 0, none⟩) H H] 127)
  have k1 := (b3.block _ (by simp only [World.size_alloc]; omega)).trans ((b2.block _ (by simp only [World.size_alloc]; omega)).trans e1)
  have k2 := (b3.block _ (by simp only [World.size_alloc]; omega)).trans e2
  refine ⟨⟨e3, ?_, ?_, by omega, by omega, by omega, n1, n2, h2⟩, by go_grown⟩
  · exact made_fw w _ _ _ k1
  · exact made_lz2 _ _ _ k2
theorem raw2 (w : World) (N H : Nat) (n1 : 1 ≤ N) (n2 : N ≤ 4194304) (h2 : H ≤ 4096) : Ro (((w.alloc (.cells (madeCells #[.int .i64 0] H) 3)).alloc (.cells (madeCells #[.int .u32 0, .int .u32 0, .int .i32 0] ((N + H) * 3)) 129)).alloc (.cells #[.int .i64 (N : Int), .slice (some ⟨(w.heap.size + 1), 0, none⟩) (N + H) (N + H), .slice (some ⟨w.heap.size, 0, none⟩) H H] 127)).drew (w.heap.size + 1 + 1) (w.heap.size + 1) w.heap.size (N + H) H N H blankF (fun _ => 0) ∧ Below w.heap.size w (((w.alloc (.cells (madeCells #[.int .i64 0] H) 3)).alloc (.cells (madeCells #[.int .u32 0, .int .u32 0, .int .i32 0] ((N + H) * 3)) 129)).alloc (.cells #[.int .i64 (N : Int), .slice (some ⟨(w.heap.size + 1), 0, none⟩) (N + H) (N + H), .slice (some ⟨w.heap.size, 0, none⟩) H H] 127)).drew := by
  have e1 := (MapKept.heap_alloc w (.cells (madeCells #[.int .i64 0] H) 3)).1
  have e2 := (MapKept.heap_alloc (w.alloc (.cells (madeCells #[.int .i64 0] H) 3)) (.cells (madeCells #[.int .u32 0, .int .u32 0, .int .i32 0] ((N + H) * 3)) 129)).1
  have e3 := (MapKept.heap_alloc ((w.alloc (.cells (madeCells #[.int .i64 0] H) 3)).alloc (.cells (madeCells #[.int .u32 0, .int .u32 0, .int .i32 0] ((N + H) * 3)) 129)) (.cells #[.int .i64 (N : Int), .slice (some ⟨(w.heap.size + 1), 0, none⟩) (N + H) (N + H), .slice (some ⟨w.heap.size, 0, none⟩) H H] 127)).1
  simp only [World.size_alloc] at e2 e3
  have b2 := box_below2 (w.alloc (.cells (madeCells #[.int .i64 0] H) 3)) (.cells (madeCells #[.int .u32 0, .int .u32 0, .int .i32 0] ((N + H) * 3)) 129)
  have b3 := box_below2 ((w.alloc (.cells (madeCells #[.int .i64 0] H) 3)).alloc (.cells (madeCells #[.int .u32 0, .int .u32 0, .int .i32 0] ((N + H) * 3)) 129)) (.cells #[.int .i64 (N : Int), .slice (some ⟨(w.heap.size + 1), 0, none⟩) (N + H) (N + H), .slice (some ⟨w.heap.size, 0, none⟩) H H] 127)
  have k1 := (b3.block _ (by simp only [World.size_alloc]; omega)).trans ((b2.block _ (by simp only [World.size_alloc]; omega)).trans e1)
  have k2 := (b3.block _ (by simp only [World.size_alloc]; omega)).trans e2
  refine ⟨⟨e3, ?_, ?_, by omega, by omega, by omega, n1, n2, h2⟩, by go_grown⟩
  · exact made_fw w _ _ _ k2
  · exact made_lz2 _ _ _ k1
set_option maxRecDepth 100000 in
theorem New_bad {n h : Int} (w : World) (hh : ¬ (1 ≤ n ∧ n ≤ 4194304 ∧ 1 ≤ h ∧ h ≤ 4096)) :
    Calls Try.prog 16 #[.int .i64 n, .int .i64 h] w fun e w' => e = .returned (.tuple #[.pointer none, .int .i64 2]) ∧ Below w.heap.size w w' := by
  have hc : n < 1 ∨ (¬ n < 1 ∧ 4194304 < n) ∨ (¬ n < 1 ∧ ¬ 4194304 < n ∧ h < 1) ∨ (¬ n < 1 ∧ ¬ 4194304 < n ∧ ¬ h < 1 ∧ 4096 < h) := by omega
  clear hh
  rcases hc with h1 | ⟨h1, h2⟩ | ⟨h1, h2, h3⟩ | ⟨h1, h2, h3, h4⟩
  all_goals (
    go_enter Try.func16, Try.ntmps16
    go_wp2_with fail
    go_ret2
    exact ⟨rfl, Below.refl _ _⟩)
set_option maxRecDepth 100000 in
theorem New_ok (N H : Nat) (w : World) (n1 : 1 ≤ N) (n2 : N ≤ 4194304) (h1 : 1 ≤ H) (h2 : H ≤ 4096) :
    Calls Try.prog 16 #[.int .i64 (N : Int), .int .i64 (H : Int)] w fun e w' => (∃ c q r F, e = .returned (.tuple #[.pointer (some ⟨c, 0, none⟩), .int .i64 0]) ∧ Lo w' c q r (N + H) H N F (List.replicate H []) ∧ w.heap.size ≤ c ∧ w.heap.size ≤ q ∧ w.heap.size ≤ r) ∧ Below w.heap.size w w' := by
  have a1 : ¬ (N : Int) < 1 := by omega
  have a2 : ¬ (4194304 : Int) < (N : Int) := by omega
  have a3 : ¬ (H : Int) < 1 := by omega
  have a4 : ¬ (4096 : Int) < (H : Int) := by omega
  have ws := IntWalk.i64_in ((N : Int) + (H : Int)) (by omega)
  have hm1 := fun w => make_any (P := Try.prog) w 124 129 _ 3 12 (by kernel_rfl) node_info (N + H) (by omega) (by omega)
  have hm2 := fun w => make_any (P := Try.prog) w 125 3 _ 1 8 (by kernel_rfl) int_info H (by omega) (by omega)
  rw [show ((N + H : Nat) : Int) = (N : Int) + (H : Int) from by omega] at hm1
  go_enter Try.func16, Try.ntmps16
  go_wp2_with fail
  go_region_with fail
  · have hR : ∃ V, V = (((w.alloc (.cells (madeCells #[.int .u32 0, .int .u32 0, .int .i32 0] ((N + H) * 3)) 129)).alloc (.cells (madeCells #[.int .i64 0] H) 3)).alloc (.cells #[.int .i64 (N : Int), .slice (some ⟨w.heap.size, 0, none⟩) (N + H) (N + H), .slice (some ⟨(w.heap.size + 1), 0, none⟩) H H] 127)).drew := ⟨_, rfl⟩
    obtain ⟨V, hV⟩ := hR
    rw [← hV]
    obtain ⟨r0, b0⟩ := raw1 w N H n1 n2 h2
    rw [← hV] at r0 b0
    have R0 := Lib.hid r0
    have B0 := Lib.hid b0
    clear r0 b0 hV
    have d1 : w.heap.size ≤ w.heap.size + 1 + 1 := by omega
    have d2 : w.heap.size ≤ w.heap.size + 1 := by omega
    have d3 : w.heap.size ≤ w.heap.size := by omega
    as_aux_lemma =>
      go_wp2_with fail
      go_loopw [33] (fun v wr => ∃ (i : Nat) (F : Fd), i ≤ N ∧ v = .int .i64 i ∧ (∀ x, x < i → F.hd x = -1) ∧ Ro wr (w.heap.size + 1 + 1) w.heap.size (w.heap.size + 1) (N + H) H N H F (fun _ => 0) ∧ Below w.heap.size w wr) (fun v _ => N - (intOf v).toNat)
      case atStart => exact ⟨0, blankF, by omega, rfl, fun x hx => by omega, R0.out, B0.out⟩
      case round =>
        obtain ⟨i, F, hi, rfl, hF, hR, bW⟩ := hrel
        have BW := Lib.hid bW
        have RO := Lib.hid hR
        have HF := Lib.hid hF
        obtain ⟨k0, k1, k2⟩ := obj_cells hR.obj
        clear bW hR hF
        have i0 : (0 : Int) ≤ (i : Int) := by omega
        by_cases hin : i = N
        · subst hin
          go_wp2_with fail
          go_loopw [45] (fun v wr => ∃ (j : Nat) (F : Fd), j ≤ H ∧ v = .int .i64 j ∧ (∀ x, x < i → F.hd x = -1) ∧ (∀ h, h < j → F.nx (i + h) = i + h ∧ F.pv (i + h) = i + h ∧ F.hd (i + h) = (h : Int)) ∧ Ro wr (w.heap.size + 1 + 1) w.heap.size (w.heap.size + 1) (i + H) H i H F (fun _ => 0) ∧ Below w.heap.size w wr) (fun v _ => H - (intOf v).toNat)
          case atStart => exact ⟨0, F, by omega, rfl, HF.out, fun h hh => by omega, RO.out, BW.out⟩
          case round =>
            obtain ⟨j, G, hj, rfl, hG, hG2, hR, bW⟩ := hrel
            have BW2 := Lib.hid bW
            have RO2 := Lib.hid hR
            have HG := Lib.hid hG
            have HG2 := Lib.hid hG2
            obtain ⟨k0, k1, k2⟩ := obj_cells hR.obj
            clear bW hR hG hG2
            have j0 : (0 : Int) ≤ (j : Int) := by omega
            by_cases hjn : j = H
            · subst hjn
              have HLO := Lib.hid (show Lo wr (w.heap.size + 1 + 1) w.heap.size (w.heap.size + 1) (i + j) j i G (List.replicate j []) from by
                have hl : (List.replicate j ([] : List Nat)).length = j := List.length_replicate
                have hr := Ring.blank (H := j) (fun h hh => HG2.out h hh) HG.out
                have ro := RO2.out
                refine Ro.lo (L := fun _ => 0) (by rw [hl]; exact ro) hr (fun k l hk => ?_) (by rw [hl]; exact h1)
                rw [List.getElem?_replicate] at hk
                split at hk
                · cases hk; rfl
                · cases hk)
              go_wp2_with fail
              go_ret2
              exact ⟨⟨_, _, _, G, rfl, HLO.out, by omega, by omega, by omega⟩, BW2.out⟩
            · have hlt : j < H := by omega
              have hlt' : (j : Int) < (H : Int) := by omega
              go_wp2_with fail
              refine (clear_any RO2.out hlt).mono ?_
              rintro e w5 ⟨rfl, r5, k5⟩
              have R5 := Lib.hid r5
              have B5 := Lib.hid (BW2.out.trans (k5.below (n := w.heap.size) (fun k hk ho => by rcases ho with rfl | rfl | rfl <;> omega) BW2.out.size))
              clear r5 k5
              go_wp2_with fail
              go_roundw
              case rel =>
                refine ⟨j + 1, clearF G (i + j) j, by omega, by go_num, fun x hx => ?_, fun h hh => ?_, ?_, B5.out⟩
                · show (if x = i + j then (j : Int) else G.hd x) = -1
                  rw [if_neg (by omega)]
                  exact HG.out x hx
                · show (if i + h = i + j then i + j else G.nx (i + h)) = i + h ∧ (if i + h = i + j then i + j else G.pv (i + h)) = i + h ∧ (if i + h = i + j then (j : Int) else G.hd (i + h)) = (h : Int)
                  by_cases hhj : h = j
                  · subst hhj; simp
                  · rw [if_neg (by omega), if_neg (by omega), if_neg (by omega)]
                    exact HG2.out h (by omega)
                · have := R5.out
                  have e : (fun k => if k = j then (0 : Int) else 0) = fun _ => 0 := by funext k; simp
                  rwa [e] at this
              case measure => simp [intOf]; omega
        · have hlt : i < N := by omega
          have hlt' : (i : Int) < (N : Int) := by omega
          have i1 : (i : Int) < (N : Int) + (H : Int) := by omega
          have i2 : (i : Int) < ((N + H : Nat) : Int) := by omega
          obtain ⟨_, _, e2⟩ := RO.out.fw.at_ (i := i) (by omega)
          have f0 := RO.out.fw.frozen
          go_wp2_with fail
          go_roundw
          case rel =>
            refine ⟨i + 1, F.upH i (-1), by omega, by go_num, fun x hx => ?_, RO.out.setH i (-1), BW.out.setCell (p := ⟨w.heap.size, i * 3 + 2, none⟩) (by show w.heap.size ≤ _; omega) _⟩
            show (if x = i then -1 else F.hd x) = -1
            by_cases hxi : x = i
            · rw [if_pos hxi]
            · rw [if_neg hxi]; exact HF.out x (by omega)
          case measure => simp [intOf]; omega
  · have hR : ∃ V, V = (((w.alloc (.cells (madeCells #[.int .i64 0] H) 3)).alloc (.cells (madeCells #[.int .u32 0, .int .u32 0, .int .i32 0] ((N + H) * 3)) 129)).alloc (.cells #[.int .i64 (N : Int), .slice (some ⟨(w.heap.size + 1), 0, none⟩) (N + H) (N + H), .slice (some ⟨w.heap.size, 0, none⟩) H H] 127)).drew := ⟨_, rfl⟩
    obtain ⟨V, hV⟩ := hR
    rw [← hV]
    obtain ⟨r0, b0⟩ := raw2 w N H n1 n2 h2
    rw [← hV] at r0 b0
    have R0 := Lib.hid r0
    have B0 := Lib.hid b0
    clear r0 b0 hV
    have d1 : w.heap.size ≤ w.heap.size + 1 + 1 := by omega
    have d2 : w.heap.size ≤ w.heap.size + 1 := by omega
    have d3 : w.heap.size ≤ w.heap.size := by omega
    as_aux_lemma =>
      go_wp2_with fail
      go_loopw [33] (fun v wr => ∃ (i : Nat) (F : Fd), i ≤ N ∧ v = .int .i64 i ∧ (∀ x, x < i → F.hd x = -1) ∧ Ro wr (w.heap.size + 1 + 1) (w.heap.size + 1) w.heap.size (N + H) H N H F (fun _ => 0) ∧ Below w.heap.size w wr) (fun v _ => N - (intOf v).toNat)
      case atStart => exact ⟨0, blankF, by omega, rfl, fun x hx => by omega, R0.out, B0.out⟩
      case round =>
        obtain ⟨i, F, hi, rfl, hF, hR, bW⟩ := hrel
        have BW := Lib.hid bW
        have RO := Lib.hid hR
        have HF := Lib.hid hF
        obtain ⟨k0, k1, k2⟩ := obj_cells hR.obj
        clear bW hR hF
        have i0 : (0 : Int) ≤ (i : Int) := by omega
        by_cases hin : i = N
        · subst hin
          go_wp2_with fail
          go_loopw [45] (fun v wr => ∃ (j : Nat) (F : Fd), j ≤ H ∧ v = .int .i64 j ∧ (∀ x, x < i → F.hd x = -1) ∧ (∀ h, h < j → F.nx (i + h) = i + h ∧ F.pv (i + h) = i + h ∧ F.hd (i + h) = (h : Int)) ∧ Ro wr (w.heap.size + 1 + 1) (w.heap.size + 1) w.heap.size (i + H) H i H F (fun _ => 0) ∧ Below w.heap.size w wr) (fun v _ => H - (intOf v).toNat)
          case atStart => exact ⟨0, F, by omega, rfl, HF.out, fun h hh => by omega, RO.out, BW.out⟩
          case round =>
            obtain ⟨j, G, hj, rfl, hG, hG2, hR, bW⟩ := hrel
            have BW2 := Lib.hid bW
            have RO2 := Lib.hid hR
            have HG := Lib.hid hG
            have HG2 := Lib.hid hG2
            obtain ⟨k0, k1, k2⟩ := obj_cells hR.obj
            clear bW hR hG hG2
            have j0 : (0 : Int) ≤ (j : Int) := by omega
            by_cases hjn : j = H
            · subst hjn
              have HLO := Lib.hid (show Lo wr (w.heap.size + 1 + 1) (w.heap.size + 1) w.heap.size (i + j) j i G (List.replicate j []) from by
                have hl : (List.replicate j ([] : List Nat)).length = j := List.length_replicate
                have hr := Ring.blank (H := j) (fun h hh => HG2.out h hh) HG.out
                have ro := RO2.out
                refine Ro.lo (L := fun _ => 0) (by rw [hl]; exact ro) hr (fun k l hk => ?_) (by rw [hl]; exact h1)
                rw [List.getElem?_replicate] at hk
                split at hk
                · cases hk; rfl
                · cases hk)
              go_wp2_with fail
              go_ret2
              exact ⟨⟨_, _, _, G, rfl, HLO.out, by omega, by omega, by omega⟩, BW2.out⟩
            · have hlt : j < H := by omega
              have hlt' : (j : Int) < (H : Int) := by omega
              go_wp2_with fail
              refine (clear_any RO2.out hlt).mono ?_
              rintro e w5 ⟨rfl, r5, k5⟩
              have R5 := Lib.hid r5
              have B5 := Lib.hid (BW2.out.trans (k5.below (n := w.heap.size) (fun k hk ho => by rcases ho with rfl | rfl | rfl <;> omega) BW2.out.size))
              clear r5 k5
              go_wp2_with fail
              go_roundw
              case rel =>
                refine ⟨j + 1, clearF G (i + j) j, by omega, by go_num, fun x hx => ?_, fun h hh => ?_, ?_, B5.out⟩
                · show (if x = i + j then (j : Int) else G.hd x) = -1
                  rw [if_neg (by omega)]
                  exact HG.out x hx
                · show (if i + h = i + j then i + j else G.nx (i + h)) = i + h ∧ (if i + h = i + j then i + j else G.pv (i + h)) = i + h ∧ (if i + h = i + j then (j : Int) else G.hd (i + h)) = (h : Int)
                  by_cases hhj : h = j
                  · subst hhj; simp
                  · rw [if_neg (by omega), if_neg (by omega), if_neg (by omega)]
                    exact HG2.out h (by omega)
                · have := R5.out
                  have e : (fun k => if k = j then (0 : Int) else 0) = fun _ => 0 := by funext k; simp
                  rwa [e] at this
              case measure => simp [intOf]; omega
        · have hlt : i < N := by omega
          have hlt' : (i : Int) < (N : Int) := by omega
          have i1 : (i : Int) < (N : Int) + (H : Int) := by omega
          have i2 : (i : Int) < ((N + H : Nat) : Int) := by omega
          obtain ⟨_, _, e2⟩ := RO.out.fw.at_ (i := i) (by omega)
          have f0 := RO.out.fw.frozen
          go_wp2_with fail
          go_roundw
          case rel =>
            refine ⟨i + 1, F.upH i (-1), by omega, by go_num, fun x hx => ?_, RO.out.setH i (-1), BW.out.setCell (p := ⟨(w.heap.size + 1), i * 3 + 2, none⟩) (by show w.heap.size ≤ _; omega) _⟩
            show (if x = i then -1 else F.hd x) = -1
            by_cases hxi : x = i
            · rw [if_pos hxi]
            · rw [if_neg hxi]; exact HF.out x (by omega)
          case measure => simp [intOf]; omega
end Go.Proofs.Ytggimkfepcgaoaa.Lnk
