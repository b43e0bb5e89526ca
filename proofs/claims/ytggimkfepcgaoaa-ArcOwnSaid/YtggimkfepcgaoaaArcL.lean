/-
  Adaptive replacement (layer 29): Use.
-/
import Derived.Test.YtggimkfepcgaoaaArcI
import Derived.Test.YtggimkfepcgaoaaArcE
import Derived.Test.YtggimkfepcgaoaaArcF
import Derived.Test.YtggimkfepcgaoaaArcK
import Derived.Deep.CutBlock
import Derived.Deep.DeepCutAuto
set_option linter.unusedVariables false
set_option linter.unusedSimpArgs false
section
namespace Go.Proofs.Ytggimkfepcgaoaa.Arc
open Go Go.RowKit Kit Go.Maps Lnk Gho
section
variable {w0 v : World} {o K s : Nat} {t : Int} {b : Nat → Nat} {L : Nat → List Nat} {X : Nat → Prop}
theorem ai_len (ai : Ai s t L) : ∀ i, i < 4 → (L i).length ≤ 2048 := fun i hi => by have := ai.c; have := ai.s2; match i, hi with | 0, _ => omega | 1, _ => omega | 2, _ => omega | 3, _ => omega
theorem len_move {L1 : Nat → List Nat} {j k : Nat} (h : ∀ i, i < 4 → (L1 i).length ≤ 4000) (hj : j < 4) : ((upd L1 j ((L1 j).erase k)) 1).length ≤ 4096 := by
  by_cases h1 : 1 = j
  · subst h1
    rw [upd_same]
    have := List.length_erase_le (a := k) (l := L1 1)
    have := h 1 (by omega)
    omega
  · rw [upd_other h1]
    have := h 1 (by omega)
    omega
theorem roomA_len {found : Bool} {t' : Int} (ai : Ai s t L) (t1 : t' ≤ s) (h : (L 0).length < s ∨ found = true) : ∀ i, i < 4 → ((roomA s t' found L).1 i).length ≤ 4000 := fun i hi => by
  have hl := ai_len ai
  rcases room_st (t := t') (found := found) ai.nd ai.s1 ai.s2 t1 hl h with ⟨hr, e⟩ | ⟨hr, F, x, L1, hF, hx, e, -, -, st⟩
  · rw [e]
    have := hl i hi
    show (L i).length ≤ 4000
    omega
  · rw [e]
    have h1 := st.len i hi
    have := hl i hi
    show (L1 i).length ≤ 4000
    split at h1 <;> split at h1 <;> omega
/-- again, for a key that is in list j -/
theorem again_use (ai : Ai s t L) (hK : K ≤ 1000000) {j k : Nat} (hj : j < 4) (hk : k ∈ L j) :
    ∃ t' L1 hit left x, useA s t L k = (t', moveA L1 j k, hit, left, x) ∧ (∀ i, i < 4 → (L1 i).length ≤ 4000) ∧
      ∀ u Y, Ax w0 u o K s t b L Y → Calls Try.prog 127 #[ap o, .int .i64 (j : Int)] u fun e w' => e = .returned (tv hit left (x : Int)) ∧ AxR w0 u w' o (K + 1) s t' b L1 Y := by
  have hl := ai_len ai
  have hn : ∀ i, i < 4 → i ≠ j → k ∉ L i := fun i hi hne => not_in ai.nd hj hi hk (fun e => hne e.symm)
  have hp := List.length_pos_of_mem hk
  have hj4 : j = 0 ∨ j = 1 ∨ j = 2 ∨ j = 3 := by omega
  rcases hj4 with rfl | rfl | rfl | rfl
  · refine ⟨t, L, true, false, 0, by unfold useA; rw [if_pos hk], fun i hi => by have := hl i hi; omega, fun u Y hu => (again_hit hu 0 (by omega)).mono ?_⟩
    rintro e w' ⟨rfl, hr⟩
    exact ⟨rfl, hr.mono (by omega)⟩
  · refine ⟨t, L, true, false, 0, by unfold useA; rw [if_neg (hn 0 (by omega) (by omega)), if_pos hk], fun i hi => by have := hl i hi; omega, fun u Y hu => (again_hit hu 1 (by omega)).mono ?_⟩
    rintro e w' ⟨rfl, hr⟩
    exact ⟨rfl, hr.mono (by omega)⟩
  · have hne : (L 0).length < s := by have := ai.b; omega
    have hroom := fun u Y (hu : Ax w0 u o K s (tgt2 s t L) b L Y) => room_any hu ai.s1 (fun i hi => by have := hl i hi; omega) hK false (fun hf => fromA_ne hf ai.s1 (tgt2_le ai.t0).2 (.inl hne))
    refine ⟨tgt2 s t L, (roomA s (tgt2 s t L) false L).1, false, (roomA s (tgt2 s t L) false L).2.1, (roomA s (tgt2 s t L) false L).2.2, by unfold useA; rw [if_neg (hn 0 (by omega) (by omega)), if_neg (hn 1 (by omega) (by omega)), if_pos hk], roomA_len ai (tgt2_le ai.t0).2 (.inl hne), fun u Y hu => again_two hu ai.s1 ai.s2 ⟨ai.t0, by have := ai.t1; have := ai.s2; omega⟩ (fun i hi => by have := hl i hi; omega) hp hroom⟩
  · have hroom := fun u Y (hu : Ax w0 u o K s (tgt3 t L) b L Y) => room_any hu ai.s1 (fun i hi => by have := hl i hi; omega) hK true (fun hf => fromA_ne hf ai.s1 (tgt3_le ai.t1).2 (.inr rfl))
    refine ⟨tgt3 t L, (roomA s (tgt3 t L) true L).1, false, (roomA s (tgt3 t L) true L).2.1, (roomA s (tgt3 t L) true L).2.2, by unfold useA; rw [if_neg (hn 0 (by omega) (by omega)), if_neg (hn 1 (by omega) (by omega)), if_neg (hn 2 (by omega) (by omega)), if_pos hk], roomA_len ai (tgt3_le ai.t1).2 (.inr rfl), fun u Y hu => again_three hu ai.s1 ai.s2 ⟨ai.t0, by have := ai.t1; have := ai.s2; omega⟩ (fun i hi => by have := hl i hi; omega) hp hroom⟩
set_option maxRecDepth 100000 in
set_option maxHeartbeats 8000000 in
theorem use_any (h : Ax w0 v o K s t b L X) (ai : Ai s t L) (hK : K ≤ 900000) (k : Nat) (hk : k < 4294967296) {t' : Int} {L' : Nat → List Nat} {hit left : Bool} {x : Nat} (hu : useA s t L k = (t', L', hit, left, x)) :
    Calls Try.prog 56 #[ap o, .int .u32 (k : Int)] v fun e w' => e = .returned (.tuple #[tv hit left (x : Int), .int .i64 0]) ∧ AxR w0 v w' o (K + 2) s t' b L' X := by
  have HX := Lib.hid h
  have HI := Lib.hid (show (∀ k, X k → k < v.heap.size) ∧ w0.heap.size ≤ v.heap.size from ⟨h.xlt, h.bl.size⟩)
  have HAI := Lib.hid (show Ai s t L ∧ K ≤ 900000 ∧ k < 4294967296 ∧ useA s t L k = (t', L', hit, left, x) from ⟨ai, hK, hk, hu⟩)
  have hb0 : Below v.heap.size v (v.alloc (.cells #[.bool false, .bool false, .int .u32 0] 110)) := by go_grown
  have hx0 := (MapKept.heap_alloc v (.cells #[.bool false, .bool false, .int .u32 0] 110)).1
  have hsz : (v.alloc (.cells #[.bool false, .bool false, .int .u32 0] 110)).heap.size = v.heap.size + 1 := by simp
  have HZ := Lib.hid (zero_any (h.below' hb0) ai.s1)
  obtain ⟨z, hz⟩ : ∃ z : Int, (k : Int) = z := ⟨_, rfl⟩
  have HZZ := Lib.hid hz
  rw [hz]
  clear h ai hK hk hu hz
  go_enter Try.func56, Try.ntmps56
  go_wp2_with fail
  generalize v.alloc (.cells #[.bool false, .bool false, .int .u32 0] 110) = v1 at *
  have X0 := Lib.hid hx0
  have B0 := Lib.hid hb0
  have SZ := Lib.hid hsz
  clear hx0 hb0 hsz
  have HY := Lib.hid (show Ax w0 v1 o K s t b L (fun k => X k ∨ k = v.heap.size) from (HX.out.below B0.out).only fun k hk => hk.imp id fun e => by have := SZ.out; omega)
  refine HZ.out.mono ?_
  rintro e w1 ⟨rfl, rfl⟩
  clear HZ
  go_wp2_with fail
  go_loopw [12] (fun iv wr => ∃ j : Nat, j ≤ 4 ∧ iv = .int .i64 (j : Int) ∧ Hid (∀ i, i < j → k ∉ L i) ∧ v1 = wr) (fun iv _ => 4 - (intOf iv).toNat)
  case atStart => exact ⟨0, by omega, rfl, Lib.hid (fun i hi => by omega), rfl⟩
  case round =>
    obtain ⟨j, hj, rfl, HN, rfl⟩ := hrel
    by_cases hlt : j < 4
    · have h1 : (j : Int) < 4 := by omega
      have h2 : (0 : Int) ≤ (j : Int) := by omega
      have c2 := HY.out.at4 j hlt
      have hlh := HY.out.lhas j hlt k HAI.out.2.2.1
      rw [HZZ.out] at hlh
      have wj := IntWalk.i64_in ((j : Int) + 1) (by omega)
      by_cases hin : k ∈ L j
      · rw [decide_eq_true hin] at hlh
        have HL := Lib.hid hlh
        obtain ⟨t1, L1, hit1, left1, x1, hu1, hl1, hag⟩ := again_use (w0 := w0) (o := o) (b := b) HAI.out.1 (K := K) (by have := HAI.out.2.1; omega) hlt hin
        have hq : t' = t1 ∧ L' = moveA L1 j k ∧ hit = hit1 ∧ left = left1 ∧ x = x1 := by
          have := HAI.out.2.2.2
          rw [hu1] at this
          cases this
          exact ⟨rfl, rfl, rfl, rfl, rfl⟩
        obtain ⟨rfl, hq, rfl, rfl, rfl⟩ := hq
        have HQ := Lib.hid (show L' = moveA L1 j k ∧ j < 4 ∧ ∀ i, i < 4 → (L1 i).length ≤ 4000 from ⟨hq, hlt, hl1⟩)
        have HAG := Lib.hid (hag _ _ HY.out)
        clear hlh hin hu1 hl1 hag hq hlt
        go_wp2_with fail
        refine HL.out.mono ?_
        rintro e w2 ⟨rfl, rfl⟩
        clear c2 HL
        go_wp2_with fail
        refine HAG.out.mono ?_
        rintro e w3 ⟨rfl, hr⟩
        have HR3 := Lib.hid hr
        have hb4 : Below w3.heap.size w3 (w3.alloc (.cells #[.bool hit, .bool left, .int .u32 (x : Int)] 110)) := by go_grown
        have hx4 := (MapKept.heap_alloc w3 (.cells #[.bool hit, .bool left, .int .u32 (x : Int)] 110)).1
        clear hr HAG
        go_wp2_with fail
        generalize w3.alloc (.cells #[.bool hit, .bool left, .int .u32 (x : Int)] 110) = w4 at *
        have hxl := HR3.out.1.xlt
        have HA4 := Lib.hid ((HR3.out.1.below hb4).only (X' := fun k => (X k ∨ k = v.heap.size) ∨ k = w3.heap.size) fun k hk => hk.imp id fun e => by subst e; exact ⟨Nat.le_refl _, (Array.getElem?_eq_some_iff.1 hx4).1⟩)
        have X4 := Lib.hid hx4
        have B4 := Lib.hid (show Below w3.heap.size w3 w4 ∧ ∀ k, (X k ∨ k = v.heap.size) → k < w3.heap.size from ⟨hb4, hxl⟩)
        clear hb4 hx4 hxl
        rw [← HZZ.out]
        refine (amove_any HA4.out j 1 HQ.out.2.1 (by omega) k HAI.out.2.2.1 (len_move HQ.out.2.2 HQ.out.2.1) (by have := HAI.out.2.1; omega)).mono ?_
        rintro e w5 ⟨rfl, hr⟩
        have HR5 := Lib.hid (show AxR w0 v1 w5 o (K + 2) s t' b L' (fun k => X k ∨ k = v.heap.size) from by
          obtain ⟨a1, a2, a3⟩ := hr
          have hs4 := B4.out.1.size
          refine ⟨HQ.out.1 ▸ (a1.only fun k hk => .inl hk), fun k hk => (a2 k (.inl hk)).trans ((B4.out.1.block k (B4.out.2 k hk)).trans (HR3.out.2.1 k hk)), by have := HR3.out.2.2; omega⟩)
        have hx5 := (hr.2.1 w3.heap.size (.inr rfl)).trans X4.out
        have hx6 := (HR5.out.2.1 v.heap.size (.inr rfl)).trans X0.out
        obtain ⟨g0, g1, g2⟩ : w5.cell? ⟨w3.heap.size, 0, none⟩ = some (.bool hit) ∧ w5.cell? ⟨w3.heap.size, 1, none⟩ = some (.bool left) ∧ w5.cell? ⟨w3.heap.size, 2, none⟩ = some (.int .u32 (x : Int)) := by refine ⟨?_, ?_, ?_⟩ <;> simp [World.cell?, hx5]
        obtain ⟨z0, z1, z2, zf⟩ := tbox hx6
        have X6 := Lib.hid hx6
        clear hr hx5 hx6
        go_wp2_with fail
        obtain ⟨hx7, hk7⟩ := tset (d0 := .bool hit) (d1 := .bool left) (d2 := .int .u32 (x : Int)) X6.out
        generalize ((w5.setCell ⟨v.heap.size, 0, none⟩ (.bool hit)).setCell ⟨v.heap.size, 1, none⟩ (.bool left)).setCell ⟨v.heap.size, 2, none⟩ (.int .u32 (x : Int)) = w6 at *
        obtain ⟨y0, y1, y2, -⟩ := tbox hx7
        exact bodyPost_ret (v := .tuple #[tv hit left (x : Int), .int .i64 0]) (by simp [results, Try.results56, go_sem, y0, y1, y2]) rfl ⟨rfl, AxR.unbox (Y := fun k => X k ∨ k = v.heap.size) B0.out (fun k hk => .inl hk) HI.out.1 (Nat.le_refl _) (.inr rfl) HI.out.2 HR5.out hk7⟩
      · rw [decide_eq_false hin] at hlh
        have HL := Lib.hid hlh
        have HN2 := Lib.hid (show ∀ i, i < j + 1 → k ∉ L i from fun i hi => by
          rcases Nat.lt_or_ge i j with h | h
          · exact HN.out i h
          · obtain rfl : i = j := by omega
            exact hin)
        have HJ := Lib.hid hlt
        clear hlh hin HN hlt
        go_wp2_with fail
        refine HL.out.mono ?_
        rintro e w2 ⟨rfl, rfl⟩
        clear c2 HL
        go_wp2_with fail
        go_roundw
        case rel => exact ⟨j + 1, by have := HJ.out; omega, by go_num, HN2, trivial⟩
        case measure => simp [intOf] <;> (have := HJ.out; omega)
    · have h1 : ¬ (j : Int) < 4 := by omega
      obtain rfl : j = 4 := by omega
      have hk0 := HN.out 0 (by omega)
      have hk1 := HN.out 1 (by omega)
      have hk2 := HN.out 2 (by omega)
      have hk3 := HN.out 3 (by omega)
      have hu1 : useA s t L k = (t, upd (missA s t L).1 0 (addG 4096 ((missA s t L).1 0) k).1, false, (missA s t L).2) := by unfold useA; rw [if_neg hk0, if_neg hk1, if_neg hk2, if_neg hk3]
      have hml : ((missA s t L).1 0).length ≤ 2000 := by
        have h2 := (use_spec HAI.out.1 k).ai
        rw [hu1] at h2
        have h3 := h2.a
        have h4 := HAI.out.1.s2
        simp only [upd_same] at h3
        unfold addG at h3
        split at h3
        · rw [List.length_cons] at h3; have := List.length_erase_le (a := k) (l := (missA s t L).1 0); have := List.le_length_erase (a := k) (l := (missA s t L).1 0); omega
        · split at h3
          · rw [List.length_cons] at h3; omega
          · rw [List.length_dropLast, List.length_cons] at h3; omega
      have hms := miss_any HY.out HAI.out.1 (by have := HAI.out.2.1; omega)
      obtain ⟨R, hR⟩ : ∃ R, missA s t L = R := ⟨_, rfl⟩
      rw [hR] at hu1 hml hms
      obtain ⟨L1, left1, x1⟩ := R
      have hq : t' = t ∧ L' = upd L1 0 (addG 4096 (L1 0) k).1 ∧ hit = false ∧ left = left1 ∧ x = x1 := by
        have := HAI.out.2.2.2
        rw [hu1] at this
        cases this
        exact ⟨rfl, rfl, rfl, rfl, rfl⟩
      obtain ⟨rfl, hq, rfl, rfl, rfl⟩ := hq
      have HMM := Lib.hid (show (L1 0).length ≤ 2000 ∧ L' = upd L1 0 (addG 4096 (L1 0) k).1 from ⟨hml, hq⟩)
      have HMS := Lib.hid hms
      clear hk0 hk1 hk2 hk3 hu1 hml hms hR hq HN
      go_wp2_with fail
      refine HMS.out.mono ?_
      rintro e w3 ⟨rfl, hr⟩
      have HR3 := Lib.hid hr
      have hb4 : Below w3.heap.size w3 (w3.alloc (.cells #[.bool false, .bool left, .int .u32 (x : Int)] 110)) := by go_grown
      have hx4 := (MapKept.heap_alloc w3 (.cells #[.bool false, .bool left, .int .u32 (x : Int)] 110)).1
      have c2 := (HR3.out.1.below' hb4).cells.2.2.1
      clear hr HMS
      go_wp2_with fail
      generalize w3.alloc (.cells #[.bool false, .bool left, .int .u32 (x : Int)] 110) = w4 at *
      have hxl := HR3.out.1.xlt
      have HA4 := Lib.hid ((HR3.out.1.below hb4).only (X' := fun k => (X k ∨ k = v.heap.size) ∨ k = w3.heap.size) fun k hk => hk.imp id fun e => by subst e; exact ⟨Nat.le_refl _, (Array.getElem?_eq_some_iff.1 hx4).1⟩)
      have X4 := Lib.hid hx4
      have B4 := Lib.hid (show Below w3.heap.size w3 w4 ∧ ∀ k, (X k ∨ k = v.heap.size) → k < w3.heap.size from ⟨hb4, hxl⟩)
      clear hb4 hx4 hxl
      rw [← HZZ.out]
      refine (HA4.out.add 0 (by omega) (by have := HMM.out.1; omega) (by have := HAI.out.2.1; omega) k HAI.out.2.2.1).mono ?_
      rintro e w5 ⟨rfl, hr⟩
      have HR5 := Lib.hid (show AxR w0 v1 w5 o (K + 2) s t' b L' (fun k => X k ∨ k = v.heap.size) from by
        obtain ⟨a1, a2, a3⟩ := hr
        have hs4 := B4.out.1.size
        refine ⟨HMM.out.2 ▸ (a1.only fun k hk => .inl hk), fun k hk => (a2 k (.inl hk)).trans ((B4.out.1.block k (B4.out.2 k hk)).trans (HR3.out.2.1 k hk)), by have := HR3.out.2.2; omega⟩)
      have hx5 := (hr.2.1 w3.heap.size (.inr rfl)).trans X4.out
      have hx6 := (HR5.out.2.1 v.heap.size (.inr rfl)).trans X0.out
      obtain ⟨g0, g1, g2⟩ : w5.cell? ⟨w3.heap.size, 0, none⟩ = some (.bool false) ∧ w5.cell? ⟨w3.heap.size, 1, none⟩ = some (.bool left) ∧ w5.cell? ⟨w3.heap.size, 2, none⟩ = some (.int .u32 (x : Int)) := by refine ⟨?_, ?_, ?_⟩ <;> simp [World.cell?, hx5]
      obtain ⟨z0, z1, z2, zf⟩ := tbox hx6
      have X6 := Lib.hid hx6
      clear hr hx5 hx6
      go_wp2_with fail
      obtain ⟨hx7, hk7⟩ := tset (d0 := .bool false) (d1 := .bool left) (d2 := .int .u32 (x : Int)) X6.out
      generalize ((w5.setCell ⟨v.heap.size, 0, none⟩ (.bool false)).setCell ⟨v.heap.size, 1, none⟩ (.bool left)).setCell ⟨v.heap.size, 2, none⟩ (.int .u32 (x : Int)) = w6 at *
      obtain ⟨y0, y1, y2, -⟩ := tbox hx7
      exact bodyPost_ret (v := .tuple #[tv false left (x : Int), .int .i64 0]) (by simp [results, Try.results56, go_sem, y0, y1, y2]) rfl ⟨rfl, AxR.unbox (Y := fun k => X k ∨ k = v.heap.size) B0.out (fun k hk => .inl hk) HI.out.1 (Nat.le_refl _) (.inr rfl) HI.out.2 HR5.out hk7⟩
end
end Go.Proofs.Ytggimkfepcgaoaa.Arc
end
section
namespace Go.Proofs.Ytggimkfepcgaoaa.Arc
open Go Go.RowKit Kit Go.Maps Lnk Gho
/-- a new list is a list whose blocks lie behind u's end -/
theorem gs_at {w0 u w' : World} {b K B : Nat} {most : Int} {keys : List Nat} (h : Gs u w' b K B most keys) (hb : Below w0.heap.size w0 u) : Gx w0 w' b K B most keys (fun k => k < u.heap.size) := by
  obtain ⟨c, q, r, cq, cr, N, F, g, kc, m, nm, D, L, fr, KL, h1, h2, h3, h4, h5, h6⟩ := h
  have hs := hb.size
  have hs6 := h6.size
  refine ⟨c, q, r, cq, cr, N, F, g, kc, m, nm, D, L, fr, KL, h1, h2, h3, h4, by omega, ((Kp.of (bad := fun _ => False) hb).tr h6).below (fun k hk h => h) (Nat.le_refl _), fun k hk hx => ?_, fun k hx => by omega⟩
  rcases hk with h | (h | h | h) | h | h <;> omega
/-- the pointers of the first j lists -/
def ptrs (b : Nat → Nat) (j i : Nat) : Value := if i < j then gp (b i) else .pointer none
/-- a cache in the making: j lists -/
structure An (w0 v : World) (o s j : Nat) (b : Nat → Nat) (col : Nat → Nat) : Prop where
  box : v.heap[o]? = some (.cells #[.int .i64 (s : Int), .int .i64 0, ptrs b j 0, ptrs b j 1, ptrs b j 2, ptrs b j 3] 172 (0, 0))
  mg : Mg w0 v 0 10000 b (fun _ => []) j col
  oc : col o = 9
  ol : w0.heap.size ≤ o
  cc : ∀ k, k < v.heap.size → col k < j ∨ col k = 9
  jl : j ≤ 4
theorem An.cells {w0 v : World} {o s j : Nat} {b col : Nat → Nat} (h : An w0 v o s j b col) (hj : j < 4) : v.cell? ⟨o, 2 + j, none⟩ = some (.pointer none) ∧ v.frozen? ⟨o, 2 + j, none⟩ = false ∧ o < v.heap.size := by
  have hb := h.box
  refine ⟨?_, by simp [World.frozen?, hb], (Array.getElem?_eq_some_iff.1 hb).1⟩
  match j, hj with
  | 0, _ => simp [World.cell?, hb, ptrs]
  | 1, _ => simp [World.cell?, hb, ptrs]
  | 2, _ => simp [World.cell?, hb, ptrs]
  | 3, _ => simp [World.cell?, hb, ptrs]
theorem An.next {w0 v v' : World} {o s j b' : Nat} {b col : Nat → Nat} (h : An w0 v o s j b col) (hj : j < 4) (hg : Gs v v' b' 0 1 4096 []) : ∃ b2 col2, An w0 (v'.setCell ⟨o, 2 + j, none⟩ (gp b')) o s (j + 1) b2 col2 ∧ b2 j = b' := by
  have hbv := hg.bl
  have ho := (Array.getElem?_eq_some_iff.1 h.box).1
  have hs0 := h.mg.bl.size
  have hbx := (hbv.block o ho).trans h.box
  have m1 := h.mg.new (c := j) hbv (Nat.le_refl _)
  have hgx := (gs_at hg h.mg.bl).mono (Nat.le_refl 0) (show 1 ≤ 10000 by omega)
  have hb2 := (Below.refl o v').setCell (p := ⟨o, 2 + j, none⟩) (Nat.le_refl _) (gp b')
  have hk : Kp (fun k => k = o) v' (v'.setCell ⟨o, 2 + j, none⟩ (gp b')) := ⟨hb2.os, hb2.tape, hb2.output, hb2.size, fun k hk hn => Below.heap_setCell v' ⟨o, 2 + j, none⟩ _ k hn⟩
  have hc := ncol_old (col := col) (c := j) ho
  have hf := heap_set (j := 2 + j) hbx (gp b')
  have hsz := hbv.size
  have m2 : Mg w0 v' 0 10000 (fun i => if i = j then b' else b i) (fun _ => []) (j + 1) (ncol v col j) := by
    refine ⟨fun i hi => ?_, fun k hk => ?_, m1.bl⟩
    · by_cases hij : i = j
      · subst hij
        simp only [if_true]
        refine hgx.only fun k hx => ?_
        by_cases hlt : k < v.heap.size
        · exact hlt
        · rw [ncol_new (by omega)] at hx
          exact absurd rfl hx.2
      · simp only [if_neg hij]
        exact m1.g i (by omega)
    · by_cases hlt : k < v.heap.size
      · rw [ncol_old hlt] at hk
        rcases Nat.lt_or_ge (col k) j with h1 | h1
        · exact h.mg.lo k h1
        · have := h.cc k hlt; omega
      · omega
  refine ⟨_, _, ⟨?_, m2.other (c := 9) hk (fun k hlt hkb => ?_) (by omega), ?_, h.ol, fun k hk => ?_, by omega⟩, if_pos rfl⟩
  · rw [hf]
    match j, hj with
    | 0, _ => simp [ptrs]
    | 1, _ => simp [ptrs]
    | 2, _ => simp [ptrs]
    | 3, _ => simp [ptrs]
  · subst hkb
    rw [hc, h.oc]
    exact ⟨by omega, h.ol⟩
  · rw [ncol_old (by omega), hc, h.oc]
  · rw [World.size_setCell] at hk
    rw [ncol_old hk]
    by_cases hlt : k < v.heap.size
    · rw [ncol_old hlt]; have := h.cc k hlt; omega
    · rw [ncol_new (by omega)]; omega
theorem An.drew {w0 v : World} {o s j : Nat} {b col : Nat → Nat} (h : An w0 v o s j b col) : An w0 v.drew o s j b col :=
  ⟨h.box, ⟨fun i hi => (h.mg.g i hi).below' (Below.drew (Below.refl _ _)), h.mg.lo, tr h.mg.bl (Below.drew (Below.refl _ _))⟩, h.oc, h.ol, h.cc, h.jl⟩
theorem An.ax {w0 v : World} {o s : Nat} {b col : Nat → Nat} (h : An w0 v o s 4 b col) : Ax w0 v o 0 s 0 b (fun _ => []) (fun _ => False) := by
  refine ⟨fun k => if col k < 4 then col k else 4, h.box, ⟨fun i hi => (h.mg.g i hi).only fun k hk => ⟨hk.1, fun e => hk.2 ?_⟩, fun k hk => h.mg.lo k ?_, h.mg.bl⟩, ?_, h.ol, fun k hk => hk.elim⟩
  · show (if col k < 4 then col k else 4) = i
    rw [if_pos (by omega)]; exact e
  · have hk' : (if col k < 4 then col k else 4) < 4 := hk
    split at hk' <;> omega
  · show (if col o < 4 then col o else 4) = 4
    rw [if_neg (by rw [h.oc]; omega)]
set_option maxRecDepth 100000 in
set_option maxHeartbeats 4000000 in
theorem new_any (w : World) (s : Nat) (s1 : 1 ≤ s) (s2 : s ≤ 1024) :
    Calls Try.prog 51 #[.int .i64 (s : Int)] w fun e w' => ∃ o b, e = .returned (.tuple #[ap o, .int .i64 0]) ∧ Ax w w' o 0 s 0 b (fun _ => []) (fun _ => False) := by
  have h1 : ¬ (s : Int) < 1 := by omega
  have h2 : ¬ 1024 < (s : Int) := by omega
  have hb0 : Below w.heap.size w (w.alloc (.cells #[.int .i64 (s : Int), .int .i64 0, .pointer none, .pointer none, .pointer none, .pointer none] 172)) := by go_grown
  have A0 := Lib.hid (show An w (w.alloc (.cells #[.int .i64 (s : Int), .int .i64 0, .pointer none, .pointer none, .pointer none, .pointer none] 172)) w.heap.size s 0 (fun _ => 0) (fun _ => 9) from
    ⟨(MapKept.heap_alloc w _).1, ⟨fun i hi => by omega, fun k hk => by omega, hb0⟩, rfl, Nat.le_refl _, fun _ _ => .inr rfl, by omega⟩)
  clear s1 s2 hb0
  go_enter Try.func51, Try.ntmps51
  go_wp2_with fail
  generalize w.alloc (.cells #[.int .i64 (s : Int), .int .i64 0, .pointer none, .pointer none, .pointer none, .pointer none] 172) = w1 at *
  go_loopw [15] (fun iv wr => ∃ (j : Nat) (b col : Nat → Nat), iv = .int .i64 (j : Int) ∧ Hid (An w wr w.heap.size s j b col)) (fun iv _ => 4 - (intOf iv).toNat)
  case atStart => exact ⟨0, _, _, rfl, A0⟩
  case round =>
    obtain ⟨j, b, col, rfl, HA⟩ := hrel
    clear A0
    by_cases hlt : j < 4
    · have d1 : (j : Int) < 4 := by omega
      have d2 : (0 : Int) ≤ (j : Int) := by omega
      have wj := IntWalk.i64_in ((j : Int) + 1) (by omega)
      have HG := Lib.hid (gnew_ok wr.drew 4096 (by omega))
      have HX := Lib.hid hlt
      clear hlt
      go_upto_region 7 with fail
      go_region_with (first
        | (go_at_call 36; refine HG.out.mono ?_; rintro e u ⟨b', rfl, gs⟩; have GS := Lib.hid gs; have f0 : u.cell? ⟨w.heap.size, 2 + j, none⟩ = some (.pointer none) := ((gs.bl.cell (p := ⟨w.heap.size, 2 + j, none⟩) (HA.out.cells HX.out).2.2).trans (HA.out.cells HX.out).1); have f1 : u.frozen? ⟨w.heap.size, 2 + j, none⟩ = false := ((gs.bl.frozen (p := ⟨w.heap.size, 2 + j, none⟩) (HA.out.cells HX.out).2.2).trans (HA.out.cells HX.out).2.1); clear gs)
        | fail)
      obtain ⟨b2, col2, h2, -⟩ := HA.out.drew.next HX.out GS.out
      have H2 := Lib.hid h2
      clear h2 f0 f1 GS HG
      go_wp2_with fail
      go_roundw
      case rel => exact ⟨j + 1, b2, col2, by go_num, H2⟩
      case measure => have := HX.out; simp [intOf] <;> omega
    · have d1 : ¬ (j : Int) < 4 := by omega
      obtain rfl : j = 4 := by have := HA.out.jl; omega
      go_wp2_with fail
      exact bodyPost_ret (v := .tuple #[ap w.heap.size, .int .i64 0]) (by simp [results, Try.results51, go_sem]) rfl ⟨w.heap.size, rfl, b, HA.out.ax⟩
end Go.Proofs.Ytggimkfepcgaoaa.Arc
end
