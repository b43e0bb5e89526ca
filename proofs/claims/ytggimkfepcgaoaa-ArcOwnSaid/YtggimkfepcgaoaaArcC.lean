/-
  Adaptive replacement (layer 29): makeRoom.
-/
import Derived.Test.YtggimkfepcgaoaaArcB
import Derived.Deep.RegionHeld3
import Derived.Deep.CutBlock
import Derived.Deep.DeepCutAuto
set_option linter.unusedVariables false
set_option linter.unusedSimpArgs false
namespace Go.Proofs.Ytggimkfepcgaoaa.Arc
open Go Go.RowKit Kit Go.Maps Lnk Gho
/-- a turn -/
abbrev tv (hit left : Bool) (x : Int) : Value := .agg #[.bool hit, .bool left, .int .u32 x]
/-- from which list a key leaves -/
def fromA (L : Nat → List Nat) (t : Int) (found : Bool) : Nat := if 0 < (L 0).length ∧ (t < ((L 0).length : Int) ∨ ((L 0).length : Int) = t ∧ found = true) then 0 else 1
/-- the box of a turn -/
theorem tbox {w u : World} {c0 c1 c2 : Value} (h : u.heap[w.heap.size]? = some (.cells #[c0, c1, c2] 110 (0, 0))) : u.cell? ⟨w.heap.size, 0, none⟩ = some c0 ∧ u.cell? ⟨w.heap.size, 1, none⟩ = some c1 ∧ u.cell? ⟨w.heap.size, 2, none⟩ = some c2 ∧ ∀ j, u.frozen? ⟨w.heap.size, j, none⟩ = false := by
  refine ⟨?_, ?_, ?_, fun j => ?_⟩ <;> simp [World.cell?, World.frozen?, h]
/-- three stores into a box -/
theorem tset {u : World} {p : Nat} {c0 c1 c2 d0 d1 d2 : Value} (h : u.heap[p]? = some (.cells #[c0, c1, c2] 110 (0, 0))) :
    (((u.setCell ⟨p, 0, none⟩ d0).setCell ⟨p, 1, none⟩ d1).setCell ⟨p, 2, none⟩ d2).heap[p]? = some (.cells #[d0, d1, d2] 110 (0, 0)) ∧ Kp (fun j => j = p) u (((u.setCell ⟨p, 0, none⟩ d0).setCell ⟨p, 1, none⟩ d1).setCell ⟨p, 2, none⟩ d2) := by
  refine ⟨heap_set (j := 2) (heap_set (j := 1) (heap_set (j := 0) h d0) d1) d2, ?_⟩
  have hb := (((Below.refl p u).setCell (p := ⟨p, 0, none⟩) (Nat.le_refl _) d0).setCell (p := ⟨p, 1, none⟩) (Nat.le_refl _) d1).setCell (p := ⟨p, 2, none⟩) (Nat.le_refl _) d2
  exact ⟨hb.os, hb.tape, hb.output, hb.size, fun j hj hn => by rw [Below.heap_setCell _ ⟨p, 2, none⟩ _ j hn, Below.heap_setCell _ ⟨p, 1, none⟩ _ j hn, Below.heap_setCell _ ⟨p, 0, none⟩ _ j hn]⟩
section
variable {w0 v : World} {o K s : Nat} {t : Int} {b : Nat → Nat} {L : Nat → List Nat} {X : Nat → Prop}
/-- the state beside the turn's box bt, which was laid at the end -/
theorem AxR.unbox {v1 v2 v3 : World} {bt K' : Nat} {t' : Int} {L' : Nat → List Nat} {Y : Nat → Prop} (hb : Below v.heap.size v v1) (hY : ∀ k, X k → Y k) (hxv : ∀ k, X k → k < v.heap.size) (hbt : v.heap.size ≤ bt) (hyb : Y bt) (hw : w0.heap.size ≤ v.heap.size) (h : AxR w0 v1 v2 o K' s t' b L' Y) (hk : Kp (fun j => j = bt) v2 v3) : AxR w0 v v3 o K' s t' b L' X := by
  obtain ⟨h1, h2, h3⟩ := h
  have hs := hb.size
  have hs2 := hk.size
  refine ⟨(h1.aside hk (fun k _ hkb => by subst hkb; exact ⟨hyb, by omega⟩)).only fun k hx => .inl (hY k hx), fun k hx => ?_, by omega⟩
  have hlt := hxv k hx
  exact (hk.block k (by omega) (by omega)).trans ((h2 k (hY k hx)).trans (hb.block k hlt))
set_option maxRecDepth 100000 in
set_option maxHeartbeats 4000000 in
theorem room_free (h : Ax w0 v o K s t b L X) (hs : 1 ≤ s) (hL : ∀ i, i < 4 → (L i).length ≤ 4096) (found : Bool) (hf : (L 0).length + (L 1).length < s) :
    Calls Try.prog 152 #[ap o, .bool found] v fun e w' => e = .returned (tv false false 0) ∧ AxR w0 v w' o K s t b L X := by
  have hb0 : Below v.heap.size v (v.alloc (.cells #[.bool false, .bool false, .int .u32 0] 110)) := by go_grown
  have hx0 := (MapKept.heap_alloc v (.cells #[.bool false, .bool false, .int .u32 0] 110)).1
  have HG := Lib.hid (fun u (hb : Below v.heap.size v u) => h.below' hb)
  have HL := Lib.hid (fun u (hb : Below v.heap.size v u) => alen_any (h.below' hb) hs hL)
  have HI := Lib.hid (show ∀ k, X k → k < v.heap.size from h.xlt)
  have HV := Lib.hid (show w0.heap.size ≤ v.heap.size from h.bl.size)
  have c0 := (HG.out _ hb0).cells.1
  obtain ⟨l, hl⟩ : ∃ l, (L 0).length + (L 1).length = l := ⟨_, rfl⟩
  rw [hl] at HL hf
  have h1 : (l : Int) < (s : Int) := by omega
  have HX := Lib.hid h
  have hsz : (v.alloc (.cells #[.bool false, .bool false, .int .u32 0] 110)).heap.size = v.heap.size + 1 := by simp
  clear h hs hL hf hl
  go_enter Try.func152, Try.ntmps152
  go_wp2_with fail
  generalize v.alloc (.cells #[.bool false, .bool false, .int .u32 0] 110) = v1 at *
  have B0 := Lib.hid hb0
  have X0 := Lib.hid hx0
  have SZ := Lib.hid hsz
  have HS := Lib.hid (fun u (hb : Below v1.heap.size v1 u) => (show u.cell? ⟨o, 0, none⟩ = some (.int .i64 (s : Int)) ∧ Hid (Below v1.heap.size v1 u) from ⟨(HG.out _ (tr B0.out hb)).cells.1, Lib.hid hb⟩))
  have T1 := Lib.hid (Below.drew (Below.refl v1.heap.size v1))
  clear hb0 hx0 hsz c0
  go_region_held3 (fun u => u.cell? ⟨o, 0, none⟩ = some (.int .i64 (s : Int)) ∧ Hid (Below v1.heap.size v1 u))
    (first
      | assumption
      | exact ⟨by assumption, by assumption⟩
      | exact HS.out _ (Below.drew (Below.refl _ _))
      | fail)
    (first
      | (go_at_call 58; refine (HL.out _ (tr B0.out T1.out)).mono ?_; rintro e u2 ⟨rfl, b2⟩; obtain ⟨s1, T2⟩ := HS.out _ (tr T1.out b2); clear b2)
      | fail)
  have hx2 := (T2.out.block v.heap.size (by rw [SZ.out]; omega)).trans X0.out
  obtain ⟨z0, z1, z2, zf⟩ := tbox hx2
  have X2 := Lib.hid hx2
  clear hx2
  go_wp2_with fail
  have hb3 := (((tr B0.out T2.out).setCell (p := ⟨v.heap.size, 0, none⟩) (Nat.le_refl _) (.bool false)).setCell (p := ⟨v.heap.size, 1, none⟩) (Nat.le_refl _) (.bool false)).setCell (p := ⟨v.heap.size, 2, none⟩) (Nat.le_refl _) (.int .u32 0)
  have hx3 := (tset (d0 := .bool false) (d1 := .bool false) (d2 := .int .u32 0) X2.out).1
  generalize ((u2.setCell ⟨v.heap.size, 0, none⟩ (.bool false)).setCell ⟨v.heap.size, 1, none⟩ (.bool false)).setCell ⟨v.heap.size, 2, none⟩ (.int .u32 0) = w3 at *
  obtain ⟨y0, y1, y2, -⟩ := tbox hx3
  exact bodyPost_ret (v := tv false false 0) (by simp [results, Try.results152, go_sem, y0, y1, y2]) rfl ⟨rfl, HG.out _ hb3, fun k hk => hb3.block k (HI.out k hk), hb3.size⟩
set_option maxRecDepth 100000 in
set_option maxHeartbeats 4000000 in
theorem room_full (h : Ax w0 v o K s t b L X) (hs : 1 ≤ s) (hL : ∀ i, i < 4 → (L i).length ≤ 4096) (hK : K ≤ 1000000) (found : Bool) (hf : s ≤ (L 0).length + (L 1).length) {F : Nat} (hF : fromA L t found = F) {l : List Nat} {x : Nat} (hl : L F = l ++ [x]) (hx : x < 4294967296) :
    Calls Try.prog 152 #[ap o, .bool found] v fun e w' => e = .returned (tv false true (x : Int)) ∧ AxR w0 v w' o (K + 1) s t b (upd (upd L F l) (F + 2) (addG 4096 (L (F + 2)) x).1) X := by
  have hF2 : F < 2 := by unfold fromA at hF; split at hF <;> omega
  obtain ⟨G, hG⟩ : ∃ G, addG 4096 (L (F + 2)) x = G := ⟨_, rfl⟩
  rw [hG]
  obtain ⟨G1, gx, gl⟩ := G
  have HGG := Lib.hid hG
  clear hG
  have hb0 : Below v.heap.size v (v.alloc (.cells #[.bool false, .bool false, .int .u32 0] 110)) := by go_grown
  have hx0 := (MapKept.heap_alloc v (.cells #[.bool false, .bool false, .int .u32 0] 110)).1
  have HG := Lib.hid (fun u (hb : Below v.heap.size v u) => h.below' hb)
  have HL := Lib.hid (fun u (hb : Below v.heap.size v u) => alen_any (h.below' hb) hs hL)
  have HLL := Lib.hid (fun u (hb : Below v.heap.size v u) => len_lit (n := 1) (h.below' hb) [0] #[.int .i64 0] rfl (by simp) (by omega) (fun j i hj => by match j, hj with | 0, hj => cases hj; rfl | k + 1, hj => simp at hj) hL)
  have hsum : sums L [0] = (L 0).length := by simp [sums]
  have HI := Lib.hid (show ∀ k, X k → k < v.heap.size from h.xlt)
  have HV := Lib.hid (show w0.heap.size ≤ v.heap.size from h.bl.size)
  have c0 := (HG.out _ hb0).cells.1
  obtain ⟨n, hn⟩ : ∃ n, (L 0).length = n := ⟨_, rfl⟩
  obtain ⟨m, hm⟩ : ∃ m, (L 0).length + (L 1).length = m := ⟨_, rfl⟩
  rw [hm] at HL hf
  rw [hsum, hn] at HLL
  unfold fromA at hF
  rw [hn] at hF
  have HF := Lib.hid (show (if 0 < n ∧ (t < (n : Int) ∨ (n : Int) = t ∧ found = true) then 0 else 1) = F from hF)
  have h1 : ¬ (m : Int) < (s : Int) := by omega
  have HX := Lib.hid (show (∀ i, i < 4 → (L i).length ≤ 4096) ∧ K ≤ 1000000 ∧ L F = l ++ [x] ∧ x < 4294967296 ∧ F < 2 ∧ Ax w0 v o K s t b L X from ⟨hL, hK, hl, hx, hF2, h⟩)
  have hsz : (v.alloc (.cells #[.bool false, .bool false, .int .u32 0] 110)).heap.size = v.heap.size + 1 := by simp
  clear h hs hL hf hl hK hF hx hF2 hm hn hsum
  go_enter Try.func152, Try.ntmps152
  go_wp2_with fail
  generalize v.alloc (.cells #[.bool false, .bool false, .int .u32 0] 110) = v1 at *
  have B0 := Lib.hid hb0
  have X0 := Lib.hid hx0
  have SZ := Lib.hid hsz
  have HS := Lib.hid (fun u (hb : Below v1.heap.size v1 u) => (show u.cell? ⟨o, 0, none⟩ = some (.int .i64 (s : Int)) ∧ Hid (Below v1.heap.size v1 u) from ⟨(HG.out _ (tr B0.out hb)).cells.1, Lib.hid hb⟩))
  have T1 := Lib.hid (Below.drew (Below.refl v1.heap.size v1))
  clear hb0 hx0 hsz c0
  go_region_held3 (fun u => u.cell? ⟨o, 0, none⟩ = some (.int .i64 (s : Int)) ∧ Hid (Below v1.heap.size v1 u))
    (first
      | assumption
      | exact ⟨by assumption, by assumption⟩
      | exact HS.out _ (Below.drew (Below.refl _ _))
      | fail)
    (first
      | (go_at_call 58; refine (HL.out _ (tr B0.out T1.out)).mono ?_; rintro e u2 ⟨rfl, b2⟩; obtain ⟨s1, T2⟩ := HS.out _ (tr T1.out b2); clear b2)
      | fail)
  clear T1
  go_wp2_with fail
  refine (HLL.out _ (tr B0.out T2.out)).mono ?_
  rintro e u3 ⟨rfl, hu3⟩
  have T3 := Lib.hid (show Below v1.heap.size v1 u3 from by rw [← hu3]; exact tr T2.out (by go_grown))
  clear hu3 T2 s1
  go_upto_region 5 with fail
  have c1 := (HG.out _ (tr B0.out T3.out)).cells.2.1
  go_cut [40] (fun c wx => c = .bool (decide (F = 0)) ∧ wx = u3)
  case first =>
    by_cases h0 : 0 < n
    · have h0' : (0 : Int) < (n : Int) := by omega
      by_cases h2 : t < (n : Int)
      · have hd : decide (F = 0) = true := decide_eq_true (by have := HF.out; rw [if_pos ⟨h0, .inl h2⟩] at this; omega)
        have HD := Lib.hid hd
        clear hd
        go_wp2_with fail
        go_meet
        case rel => exact ⟨by rw [HD.out], rfl⟩
      · by_cases h3 : (n : Int) = t
        · subst h3
          cases found with
          | true =>
            have hd : decide (F = 0) = true := decide_eq_true (by have := HF.out; rw [if_pos ⟨h0, .inr ⟨rfl, rfl⟩⟩] at this; omega)
            have HD := Lib.hid hd
            clear hd
            go_wp2_with fail
            go_meet
            case rel => exact ⟨by rw [HD.out], rfl⟩
          | false =>
            have hd : decide (F = 0) = false := decide_eq_false (by have := HF.out; rw [if_neg (by intro h; simp at h)] at this; omega)
            have HD := Lib.hid hd
            clear hd
            go_wp2_with fail
            go_meet
            case rel => exact ⟨by rw [HD.out], rfl⟩
        · have h3b : ((n : Int) == t) = false := by rw [beq_eq_false_iff_ne]; exact h3
          have hd : decide (F = 0) = false := decide_eq_false (by have := HF.out; rw [if_neg (by intro h; rcases h.2 with h | h; exact h2 h; exact h3 h.1)] at this; omega)
          have HD := Lib.hid hd
          clear hd
          go_wp2_with fail
          go_meet
          case rel => exact ⟨by rw [HD.out], rfl⟩
    · have h0' : ¬ (0 : Int) < (n : Int) := by omega
      have hd : decide (F = 0) = false := decide_eq_false (by have := HF.out; rw [if_neg (fun h => h0 h.1)] at this; omega)
      have HD := Lib.hid hd
      clear hd
      go_wp2_with fail
      go_meet
      case rel => exact ⟨by rw [HD.out], rfl⟩
  case rest =>
    obtain ⟨rfl, rfl⟩ := hcut
    have hY := ((HX.out.2.2.2.2.2.below (tr B0.out T3.out)).only (X' := fun k => X k ∨ k = v.heap.size) fun k hk => hk.imp id fun e => by have := SZ.out; have := T3.out.size; omega)
    have hbx := (T3.out.block v.heap.size (by have := SZ.out; omega)).trans X0.out
    have hF2 := HX.out.2.2.2.2.1
    have HP := Lib.hid (apop_any hY F (by omega) HX.out.2.2.1)
    have e2 : upd L F l (F + 2) = L (F + 2) := by unfold upd; rw [if_neg (by omega)]
    have HA := Lib.hid (fun u (h2 : AxR w0 wc u o K s t b (upd L F l) (fun k => X k ∨ k = v.heap.size)) => e2 ▸ h2.1.add (F + 2) (by omega) (by rw [e2]; exact HX.out.1 _ (by omega)) HX.out.2.1 x HX.out.2.2.2.1)
    have HBX := Lib.hid hbx
    rw [HGG.out] at HA
    have HVB := Lib.hid (tr B0.out T3.out)
    clear hY hbx e2 HS HLL HL h1 c1 HF
    have hF01 : F = 0 ∨ F = 1 := by omega
    clear hF2
    rcases hF01 with rfl | rfl
    all_goals (
      go_wp2_with fail
      refine HP.out.mono ?_
      rintro e w4 ⟨rfl, hr⟩
      have HR := Lib.hid hr
      obtain ⟨-, -, -, -, c2, c3, -⟩ := hr.1.cells
      clear hr
      go_wp2_with fail
      refine (HA.out _ HR.out).mono ?_
      rintro e w5 ⟨rfl, hr⟩
      have HR2 := Lib.hid (HR.out.trans hr)
      have hx5 := (HR2.out.2.1 v.heap.size (.inr rfl)).trans HBX.out
      obtain ⟨z0, z1, z2, zf⟩ := tbox hx5
      have X5 := Lib.hid hx5
      clear hr c2 c3 hx5
      go_wp2_with fail
      obtain ⟨hx6, hk6⟩ := tset (d0 := .bool false) (d1 := .bool true) (d2 := .int .u32 (x : Int)) X5.out
      generalize ((w5.setCell ⟨v.heap.size, 0, none⟩ (.bool false)).setCell ⟨v.heap.size, 1, none⟩ (.bool true)).setCell ⟨v.heap.size, 2, none⟩ (.int .u32 (x : Int)) = w6 at *
      obtain ⟨y0, y1, y2, -⟩ := tbox hx6
      exact bodyPost_ret (v := tv false true (x : Int)) (by simp [results, Try.results152, go_sem, y0, y1, y2]) rfl ⟨rfl, AxR.unbox HVB.out (fun k hk => .inl hk) HI.out (Nat.le_refl _) (.inr rfl) HV.out HR2.out hk6⟩)
end
end Go.Proofs.Ytggimkfepcgaoaa.Arc
