/-
  Adaptive replacement (layer 29): miss.
-/
import Derived.Test.YtggimkfepcgaoaaArqK
set_option linter.unusedVariables false
set_option linter.unusedSimpArgs false
namespace Go.Proofs.Ytggimkfepcgaoaa.Arc
open Go Go.RowKit Kit Go.Maps Lnk Gho
section
variable {w0 v : World} {o K s : Nat} {t : Int} {b : Nat → Nat} {L : Nat → List Nat} {X : Nat → Prop}
theorem AxR.mono {v' : World} {K' : Nat} (h : AxR w0 v v' o K s t b L X) (hK : K ≤ K') : AxR w0 v v' o K' s t b L X := ⟨h.1.mono hK, h.2⟩
theorem room_any (h : Ax w0 v o K s t b L X) (hs : 1 ≤ s) (hL : ∀ i, i < 4 → (L i).length ≤ 4096) (hK : K ≤ 1000000) (found : Bool) (hne : s ≤ (L 0).length + (L 1).length → 0 < (L (fromA L t found)).length) :
    Calls Try.prog 152 #[ap o, .bool found] v fun e w' => RoomQ w0 v o K s t b X (roomA s t found L).2.1 (roomA s t found L).2.2 (roomA s t found L).1 e w' := by
  unfold roomA
  by_cases hf : (L 0).length + (L 1).length < s
  · rw [if_pos hf]
    refine (room_free h hs hL found hf).mono ?_
    rintro e w' ⟨rfl, hr⟩
    exact ⟨rfl, hr.mono (by omega)⟩
  · rw [if_neg hf]
    have hl := last_of (hne (by omega))
    have hx : (L (fromA L t found)).getLastD 0 ∈ L (fromA L t found) := by have := List.mem_append_right (L (fromA L t found)).dropLast (List.mem_singleton_self ((L (fromA L t found)).getLastD 0)); rwa [← hl] at this
    refine (room_full h hs hL hK found (by omega) rfl hl (h.klt _ (by have := fromA_lt L t found; omega) _ hx)).mono ?_
    rintro e w' ⟨rfl, hr⟩
    exact ⟨rfl, hr⟩
theorem lit_cell (u : World) (cs : Array Value) (ty : TypeId) (j : Nat) {x : Value} (h : cs[j]? = some x) : (u.alloc (.cells cs ty)).drew.cell? ⟨u.heap.size, j, none⟩ = some x := by
  have hx : (u.alloc (.cells cs ty)).drew.heap[u.heap.size]? = some (.cells cs ty (0, 0)) := (MapKept.heap_alloc u _).1
  simp only [World.cell?, hx]
  simpa using h
set_option maxRecDepth 100000 in
set_option maxHeartbeats 8000000 in
theorem miss_any (h : Ax w0 v o K s t b L X) (ai : Ai s t L) (hK : K ≤ 1000000) :
    Calls Try.prog 129 #[ap o] v fun e w' => RoomQ w0 v o K s t b X (missA s t L).2.1 (missA s t L).2.2 (missA s t L).1 e w' := by
  have hL : ∀ i, i < 4 → (L i).length ≤ 4096 := fun i hi => by have := ai.c; have := ai.s2; match i, hi with | 0, _ => omega | 1, _ => omega | 2, _ => omega | 3, _ => omega
  have HX := Lib.hid h
  have HL4 := Lib.hid (fun u (hb : Below v.heap.size v u) => len_lit (n := 4) (h.below' hb) [0, 1, 2, 3] #[.int .i64 0, .int .i64 1, .int .i64 2, .int .i64 3] rfl (by simp) (by omega) (fun j i hj => by match j, hj with | 0, hj => cases hj; rfl | 1, hj => cases hj; rfl | 2, hj => cases hj; rfl | 3, hj => cases hj; rfl | k + 4, hj => simp at hj) hL)
  have HL1 := Lib.hid (fun u (hb : Below v.heap.size v u) g (hc : u.cell? ⟨g, 0, none⟩ = some (.int .i64 0)) => len_one h hL u hb 0 g (by omega) hc)
  have HL2 := Lib.hid (fun u (hb : Below v.heap.size v u) g (hc : u.cell? ⟨g, 0, none⟩ = some (.int .i64 0)) (hd : u.cell? ⟨g, 1, none⟩ = some (.int .i64 2)) => len_any (g := g) (c := 2) (n := 2) (h.below' hb) [0, 2] rfl (by simp) (by omega) (fun j i hj => by match j, hj with | 0, hj => cases hj; exact hc | 1, hj => cases hj; exact hd | k + 2, hj => simp at hj) hL)
  have e4 : sums L [0, 1, 2, 3] = (L 0).length + (L 1).length + (L 2).length + (L 3).length := by simp [sums]; omega
  have e2 : sums L [0, 2] = (L 0).length + (L 2).length := by simp [sums]
  rw [e4] at HL4
  rw [e2] at HL2
  have HI := Lib.hid (show (∀ k, X k → k < v.heap.size) ∧ w0.heap.size ≤ v.heap.size from ⟨h.xlt, h.bl.size⟩)
  have HAI := Lib.hid (show Ai s t L ∧ K ≤ 1000000 ∧ ∀ i, i < 4 → (L i).length ≤ 4096 from ⟨ai, hK, hL⟩)
  obtain ⟨n0, h0⟩ : ∃ n, (L 0).length = n := ⟨_, rfl⟩
  obtain ⟨n02, h02⟩ : ∃ n, (L 0).length + (L 2).length = n := ⟨_, rfl⟩
  obtain ⟨n4, h4⟩ : ∃ n, (L 0).length + (L 1).length + (L 2).length + (L 3).length = n := ⟨_, rfl⟩
  obtain ⟨R, hR⟩ : ∃ R, missA s t L = R := ⟨_, rfl⟩
  have HR := Lib.hid hR
  rw [hR]
  obtain ⟨L', left, x⟩ := R
  rw [h0] at HL1
  rw [h02] at HL2
  rw [h4] at HL4
  have HN := Lib.hid (show (L 0).length = n0 ∧ (L 0).length + (L 2).length = n02 ∧ (L 0).length + (L 1).length + (L 2).length + (L 3).length = n4 from ⟨h0, h02, h4⟩)
  have hb0 : Below v.heap.size v (v.alloc (.cells #[.bool false, .bool false, .int .u32 0] 110)) := by go_grown
  have hx0 := (MapKept.heap_alloc v (.cells #[.bool false, .bool false, .int .u32 0] 110)).1
  have hsz : (v.alloc (.cells #[.bool false, .bool false, .int .u32 0] 110)).heap.size = v.heap.size + 1 := by simp
  clear h ai hK hL e4 e2 h0 h02 h4 hR
  go_enter Try.func129, Try.ntmps129
  go_wp2_with fail
  generalize v.alloc (.cells #[.bool false, .bool false, .int .u32 0] 110) = v1 at *
  have X0 := Lib.hid hx0
  have B0 := Lib.hid hb0
  have SZ := Lib.hid hsz
  clear hx0 hb0 hsz
  have hc4 := HL4.out _ B0.out
  rw [SZ.out] at hc4
  refine hc4.mono ?_
  rintro e u2 ⟨rfl, hu2⟩
  clear hc4
  have B2 := Lib.hid (show Below v1.heap.size v1 u2 from by rw [← hu2]; go_grown)
  have HS := Lib.hid (fun u (hb : Below v1.heap.size v1 u) => (show u.cell? ⟨o, 0, none⟩ = some (.int .i64 (s : Int)) ∧ Hid (Below v1.heap.size v1 u) from ⟨(HX.out.below' (tr B0.out hb)).cells.1, Lib.hid hb⟩))
  clear hu2 HL4
  go_upto_region 2 with fail
  have K0 := Lib.hid (HS.out u2.drew (tr B2.out (by go_grown)))
  have K1 := Lib.hid (HS.out (u2.alloc (.cells #[.int .i64 0] 3)).drew (tr B2.out (by go_grown)))
  have HC := Lib.hid (HL1.out (u2.alloc (.cells #[.int .i64 0] 3)).drew (tr (tr B0.out B2.out) (by go_grown)) u2.heap.size (lit_cell _ _ _ 0 rfl))
  go_region_held3 (fun u => u.cell? ⟨o, 0, none⟩ = some (.int .i64 (s : Int)) ∧ Hid (Below v1.heap.size v1 u))
    (first
      | assumption
      | with_reducible exact K0.out
      | with_reducible exact K1.out
      | fail)
    (first
      | (go_at_call 130; refine HC.out.mono ?_; rintro e u3 ⟨rfl, rfl⟩)
      | fail)
  have B3 := Lib.hid K1.out.2.out
  clear K0 K1 HC B2 HL1
  generalize (u2.alloc (.cells #[.int .i64 0] 3)).drew = u3 at *
  have HY := Lib.hid (show ∀ u, Below v1.heap.size v1 u → Ax w0 u o K s t b L (fun k => X k ∨ k = v.heap.size) from fun u hb => (HX.out.below (tr B0.out hb)).only fun k hk => hk.imp id fun e => by have := SZ.out; have := hb.size; omega)
  have HBT := Lib.hid (fun u (hb : Below v1.heap.size v1 u) => (hb.block v.heap.size (by have := SZ.out; omega)).trans X0.out)
  by_cases c0 : n0 = s
  · have hd : ((n0 : Int) == (s : Int)) = true := by rw [beq_iff_eq]; omega
    have hd2 : (n0 : Int) = (s : Int) := by omega
    have hA : (L', left, x) = (upd L 0 (L 0).dropLast, true, (L 0).getLastD 0) := by rw [← HR.out]; unfold missA; rw [if_pos (by rw [HN.out.1]; exact c0)]
    obtain ⟨e1, e2, e3⟩ : L' = upd L 0 (L 0).dropLast ∧ left = true ∧ x = (L 0).getLastD 0 := by cases hA; exact ⟨rfl, rfl, rfl⟩
    have hp := last_of (show 0 < (L 0).length by rw [HN.out.1]; have := HAI.out.1.s1; omega)
    rw [← e3] at hp
    have HP := Lib.hid (apop_any (HY.out _ B3.out) 0 (by omega) hp)
    rw [← e1] at HP
    have HBX := Lib.hid (HBT.out _ B3.out)
    have BV := Lib.hid (tr B0.out B3.out)
    subst e2
    clear c0 hA e1 e3 hp HBT HY HS HL2 hd2
    rw [hd]
    go_wp2_with fail
    refine HP.out.mono ?_
    rintro e w4 ⟨rfl, hr⟩
    have HR4 := Lib.hid hr
    clear hr
    have hx5 := (HR4.out.2.1 v.heap.size (.inr rfl)).trans HBX.out
    obtain ⟨z0, z1, z2, zf⟩ := tbox hx5
    have X5 := Lib.hid hx5
    clear hx5
    go_wp2_with fail
    obtain ⟨hx6, hk6⟩ := tset (d0 := .bool false) (d1 := .bool true) (d2 := .int .u32 (x : Int)) X5.out
    generalize ((w4.setCell ⟨v.heap.size, 0, none⟩ (.bool false)).setCell ⟨v.heap.size, 1, none⟩ (.bool true)).setCell ⟨v.heap.size, 2, none⟩ (.int .u32 (x : Int)) = w6 at *
    obtain ⟨y0, y1, y2, -⟩ := tbox hx6
    exact bodyPost_ret (v := tv false true (x : Int)) (by simp [results, Try.results129, go_sem, y0, y1, y2]) rfl ⟨rfl, AxR.unbox (Y := fun k => X k ∨ k = v.heap.size) BV.out (fun k hk => .inl hk) HI.out.1 (Nat.le_refl _) (.inr rfl) HI.out.2 (HR4.out.mono (by omega)) hk6⟩
  · have hd : ((n0 : Int) == (s : Int)) = false := by rw [beq_eq_false_iff_ne]; omega
    rw [hd]
    clear hd
    go_upto_region 4 with fail
    have K0 := Lib.hid (HS.out u3.drew (tr B3.out (by go_grown)))
    have K1 := Lib.hid (HS.out (u3.alloc (.cells #[.int .i64 0, .int .i64 2] 3)).drew (tr B3.out (by go_grown)))
    have HC := Lib.hid (HL2.out (u3.alloc (.cells #[.int .i64 0, .int .i64 2] 3)).drew (tr (tr B0.out B3.out) (by go_grown)) u3.heap.size (lit_cell _ _ _ 0 rfl) (lit_cell _ _ _ 1 rfl))
    go_region_held3 (fun u => u.cell? ⟨o, 0, none⟩ = some (.int .i64 (s : Int)) ∧ Hid (Below v1.heap.size v1 u))
      (first
        | assumption
        | with_reducible exact K0.out
        | with_reducible exact K1.out
        | fail)
      (first
        | (go_at_call 130; refine HC.out.mono ?_; rintro e u4 ⟨rfl, rfl⟩)
        | fail)
    have B4 := Lib.hid K1.out.2.out
    have c5 := K1.out.1
    clear K0 K1 HC B3 HL2
    generalize (u3.alloc (.cells #[.int .i64 0, .int .i64 2] 3)).drew = u4 at *
    have HBX := Lib.hid (HBT.out _ B4.out)
    have BV := Lib.hid (tr B0.out B4.out)
    have HA := Lib.hid HAI.out.1
    by_cases c1 : n02 = s
    · have hd : ((n02 : Int) == (s : Int)) = true := by rw [beq_iff_eq]; omega
      have hA : roomA s t false (upd L 2 (L 2).dropLast) = (L', left, x) := by rw [← HR.out]; unfold missA; rw [if_neg (by rw [HN.out.1]; exact c0), if_pos (by rw [HN.out.2.1]; exact c1)]
      have hp := last_of (show 0 < (L 2).length by have := HN.out; have := HA.out.a; have := HA.out.b; omega)
      have HP := Lib.hid (apop_any (HY.out _ B4.out) 2 (by omega) hp)
      have HRO := Lib.hid (fun u (hu : Ax w0 u o K s t b (upd L 2 (L 2).dropLast) (fun k => X k ∨ k = v.heap.size)) => room_any hu HA.out.s1 (fun j hj => by by_cases hj2 : j = 2; (subst hj2; rw [upd_same, List.length_dropLast]; have := HAI.out.2.2 2 (by omega); omega); (rw [upd_other hj2]; exact HAI.out.2.2 j hj)) HAI.out.2.1 false (fun hf => fromA_ne hf HA.out.s1 HA.out.t1 (.inl (by rw [upd_other (by omega)]; have := HN.out; have := HA.out.b; omega))))
      rw [hA] at HRO
      clear hA hp HY HBT c0 c1 c5 HN HR HS
      rw [hd]
      go_wp2_with fail
      refine HP.out.mono ?_
      rintro e w4 ⟨rfl, hr⟩
      have HR4 := Lib.hid hr
      clear hr HP
      go_wp2_with fail
      refine (HRO.out _ HR4.out.1).mono ?_
      rintro e w5 ⟨rfl, hr⟩
      have HR5 := Lib.hid (HR4.out.trans hr)
      clear hr HRO
      have hx5 := (HR5.out.2.1 v.heap.size (.inr rfl)).trans HBX.out
      obtain ⟨z0, z1, z2, zf⟩ := tbox hx5
      have X5 := Lib.hid hx5
      clear hx5
      go_wp2_with fail
      obtain ⟨hx6, hk6⟩ := tset (d0 := .bool false) (d1 := .bool left) (d2 := .int .u32 (x : Int)) X5.out
      generalize ((w5.setCell ⟨v.heap.size, 0, none⟩ (.bool false)).setCell ⟨v.heap.size, 1, none⟩ (.bool left)).setCell ⟨v.heap.size, 2, none⟩ (.int .u32 (x : Int)) = w6 at *
      obtain ⟨y0, y1, y2, -⟩ := tbox hx6
      exact bodyPost_ret (v := tv false left (x : Int)) (by simp [results, Try.results129, go_sem, y0, y1, y2]) rfl ⟨rfl, AxR.unbox (Y := fun k => X k ∨ k = v.heap.size) BV.out (fun k hk => .inl hk) HI.out.1 (Nat.le_refl _) (.inr rfl) HI.out.2 HR5.out hk6⟩
    · have hd : ((n02 : Int) == (s : Int)) = false := by rw [beq_eq_false_iff_ne]; omega
      rw [hd]
      clear hd
      have wm := IntWalk.i64_in (2 * (s : Int)) (by have := HA.out.s2; omega)
      by_cases c2 : n4 = 2 * s
      · have hd : ((n4 : Int) == 2 * (s : Int)) = true := by rw [beq_iff_eq]; omega
        have hA0 : missA s t L = roomA s t false (upd L 3 (L 3).dropLast) := by unfold missA; rw [if_neg (by rw [HN.out.1]; exact c0), if_neg (by rw [HN.out.2.1]; exact c1), if_pos (by rw [HN.out.2.2]; exact c2)]
        have hA : roomA s t false (upd L 3 (L 3).dropLast) = (L', left, x) := by rw [← HR.out]; unfold missA; rw [if_neg (by rw [HN.out.1]; exact c0), if_neg (by rw [HN.out.2.1]; exact c1), if_pos (by rw [HN.out.2.2]; exact c2)]
        have hp := last_of (show 0 < (L 3).length by have := HN.out; have := HA.out.a; have := HA.out.b; omega)
        have HP := Lib.hid (apop_any (HY.out _ B4.out) 3 (by omega) hp)
        have HRO := Lib.hid (fun u (hu : Ax w0 u o K s t b (upd L 3 (L 3).dropLast) (fun k => X k ∨ k = v.heap.size)) => room_any hu HA.out.s1 (fun j hj => by by_cases hj2 : j = 3; (subst hj2; rw [upd_same, List.length_dropLast]; have := HAI.out.2.2 3 (by omega); omega); (rw [upd_other hj2]; exact HAI.out.2.2 j hj)) HAI.out.2.1 false (fun hf => fromA_ne hf HA.out.s1 HA.out.t1 (.inl (by rw [upd_other (by omega)]; have := HN.out; have := HA.out.b; omega))))
        rw [hA] at HRO
        clear hA hA0 hp HY HBT c0 c1 c2 HN HR HS
        go_wp2_with fail
        refine HP.out.mono ?_
        rintro e w4 ⟨rfl, hr⟩
        have HR4 := Lib.hid hr
        clear hr HP
        go_wp2_with fail
        refine (HRO.out _ HR4.out.1).mono ?_
        rintro e w5 ⟨rfl, hr⟩
        have HR5 := Lib.hid (HR4.out.trans hr)
        clear hr HRO
        have hx5 := (HR5.out.2.1 v.heap.size (.inr rfl)).trans HBX.out
        obtain ⟨z0, z1, z2, zf⟩ := tbox hx5
        have X5 := Lib.hid hx5
        clear hx5
        go_wp2_with fail
        obtain ⟨hx6, hk6⟩ := tset (d0 := .bool false) (d1 := .bool left) (d2 := .int .u32 (x : Int)) X5.out
        generalize ((w5.setCell ⟨v.heap.size, 0, none⟩ (.bool false)).setCell ⟨v.heap.size, 1, none⟩ (.bool left)).setCell ⟨v.heap.size, 2, none⟩ (.int .u32 (x : Int)) = w6 at *
        obtain ⟨y0, y1, y2, -⟩ := tbox hx6
        exact bodyPost_ret (v := tv false left (x : Int)) (by simp [results, Try.results129, go_sem, y0, y1, y2]) rfl ⟨rfl, AxR.unbox (Y := fun k => X k ∨ k = v.heap.size) BV.out (fun k hk => .inl hk) HI.out.1 (Nat.le_refl _) (.inr rfl) HI.out.2 HR5.out hk6⟩
      · have hd : ((n4 : Int) == 2 * (s : Int)) = false := by rw [beq_eq_false_iff_ne]; omega
        by_cases c3 : n4 < s
        · have hd3 : (n4 : Int) < (s : Int) := by omega
          have hA : (L', left, x) = (L, false, 0) := by rw [← HR.out]; unfold missA; rw [if_neg (by rw [HN.out.1]; exact c0), if_neg (by rw [HN.out.2.1]; exact c1), if_neg (by rw [HN.out.2.2]; exact c2), if_pos (by rw [HN.out.2.2]; exact c3)]
          obtain ⟨e1, e2, e3⟩ : L' = L ∧ left = false ∧ x = 0 := by cases hA; exact ⟨rfl, rfl, rfl⟩
          have HR4 := Lib.hid (AxR.mono (HY.out _ B4.out).r (Nat.le_succ K))
          rw [← e1] at HR4
          subst e2
          subst e3
          clear hA e1 HY HBT c0 c1 c2 c3 HN HR HS
          have hx5 := (HR4.out.2.1 v.heap.size (.inr rfl)).trans HBX.out
          obtain ⟨z0, z1, z2, zf⟩ := tbox hx5
          have X5 := Lib.hid hx5
          clear hx5
          go_wp2_with fail
          obtain ⟨hx6, hk6⟩ := tset (d0 := .bool false) (d1 := .bool false) (d2 := .int .u32 0) X5.out
          generalize ((u4.setCell ⟨v.heap.size, 0, none⟩ (.bool false)).setCell ⟨v.heap.size, 1, none⟩ (.bool false)).setCell ⟨v.heap.size, 2, none⟩ (.int .u32 0) = w6 at *
          obtain ⟨y0, y1, y2, -⟩ := tbox hx6
          exact bodyPost_ret (v := tv false false 0) (by simp [results, Try.results129, go_sem, y0, y1, y2]) rfl ⟨rfl, AxR.unbox (Y := fun k => X k ∨ k = v.heap.size) BV.out (fun k hk => .inl hk) HI.out.1 (Nat.le_refl _) (.inr rfl) HI.out.2 HR4.out hk6⟩
        · have hd3 : ¬ (n4 : Int) < (s : Int) := by omega
          have hA : roomA s t false L = (L', left, x) := by rw [← HR.out]; unfold missA; rw [if_neg (by rw [HN.out.1]; exact c0), if_neg (by rw [HN.out.2.1]; exact c1), if_neg (by rw [HN.out.2.2]; exact c2), if_neg (by rw [HN.out.2.2]; exact c3)]
          have HRO := Lib.hid (room_any (HY.out _ B4.out) HA.out.s1 HAI.out.2.2 HAI.out.2.1 false (fun hf => fromA_ne hf HA.out.s1 HA.out.t1 (.inl (by have := HN.out; have := HA.out.b; omega))))
          rw [hA] at HRO
          clear hA HY HBT c0 c1 c2 c3 HN HR HS
          go_wp2_with fail
          refine HRO.out.mono ?_
          rintro e w5 ⟨rfl, hr⟩
          have HR5 := Lib.hid hr
          clear hr HRO
          have hx5 := (HR5.out.2.1 v.heap.size (.inr rfl)).trans HBX.out
          obtain ⟨z0, z1, z2, zf⟩ := tbox hx5
          have X5 := Lib.hid hx5
          clear hx5
          go_wp2_with fail
          obtain ⟨hx6, hk6⟩ := tset (d0 := .bool false) (d1 := .bool left) (d2 := .int .u32 (x : Int)) X5.out
          generalize ((w5.setCell ⟨v.heap.size, 0, none⟩ (.bool false)).setCell ⟨v.heap.size, 1, none⟩ (.bool left)).setCell ⟨v.heap.size, 2, none⟩ (.int .u32 (x : Int)) = w6 at *
          obtain ⟨y0, y1, y2, -⟩ := tbox hx6
          exact bodyPost_ret (v := tv false left (x : Int)) (by simp [results, Try.results129, go_sem, y0, y1, y2]) rfl ⟨rfl, AxR.unbox (Y := fun k => X k ∨ k = v.heap.size) BV.out (fun k hk => .inl hk) HI.out.1 (Nat.le_refl _) (.inr rfl) HI.out.2 HR5.out hk6⟩
end
end Go.Proofs.Ytggimkfepcgaoaa.Arc
