/-
  EntryTexts (layer 4): the reference's texts.
-/
import Derived.Test.YtlpepmhpnmnpkaaDoorEntT
set_option linter.unusedVariables false
set_option linter.unusedSimpArgs false
namespace Go.Proofs.YtlpepmhpnmnpkaaDoor.Ent
open Go Go.RowKit Kit
theorem own_str {w : World} {B : Nat} {v : Value} {m : List Int} (hm : ∀ n ∈ m, 0 ≤ n ∧ n < 256) (hl : m.length ≤ maxLen) (h : w.ownsRow B 5 1 v m.length (m.map (Value.int .u8))) :
    (convert 31 9 v).run Tryd.prog w = .ok (.string (strOfNums m)) w := by
  obtain ⟨a, c, rfl, hb, _⟩ := own_bytes h rfl hm hl
  exact hb.str c Tryd.underlying31 Tryd.underlying5 Tryd.underlying9
theorem strOfNums_append (a b : List Int) : strOfNums (a ++ b) = strOfNums a ++ strOfNums b := by
  apply ByteArray.ext
  simp [strOfNums]
theorem strOfNums_bytes (k : ByteArray) : strOfNums (k.data.toList.map fun b => (b.toNat : Int)) = k := by
  apply ByteArray.ext
  apply Array.toList_inj.1
  rw [strOfNums_data, List.map_map]
  conv => rhs; rw [← List.map_id k.data.toList]
  apply List.map_congr_left
  intro x _
  simp
theorem hx_byte (d : Int) (h0 : 0 ≤ d) (h1 : d < 16) : 0 ≤ hx d ∧ hx d < 256 := by unfold hx; split <;> omega
theorem hexL_bytes (l : List Int) (h : ∀ n ∈ l, 0 ≤ n ∧ n < 256) : ∀ n ∈ hexL l, 0 ≤ n ∧ n < 256 := by
  induction l with
  | nil => simp [hexL]
  | cons y l ih =>
    have hy := h y (by simp)
    intro n hn
    simp only [hexL, List.mem_cons] at hn
    rcases hn with rfl | rfl | hn
    · exact hx_byte _ (by omega) (by omega)
    · exact hx_byte _ (by omega) (by omega)
    · exact ih (fun n hn => h n (by simp [hn])) n hn
theorem hexT_bytes (l : List Int) (h : ∀ n ∈ l, 0 ≤ n ∧ n < 256) : ∀ n ∈ hexT l, 0 ≤ n ∧ n < 256 := by
  unfold hexT
  split
  · simp
  · exact hexL_bytes l h
theorem hexT_length (l : List Int) : (hexT l).length ≤ 2 * l.length + 1 := by
  unfold hexT
  split
  · simp
  · rw [hexL_length]; omega
theorem wrap8 (x : Int) (h0 : 0 ≤ x) (h1 : x < 256) : IntKind.u8.wrap x = x := by
  have h : ∀ n < 256, IntKind.u8.wrap ((n : Nat) : Int) = n := by decide +kernel
  obtain ⟨n, rfl⟩ : ∃ n : Nat, x = n := ⟨x.toNat, by omega⟩
  exact h n (by omega)
set_option maxRecDepth 100000 in
theorem rhex_any (p : Option Addr) (l c : Nat) (zs : List Int) (w : World) (hbs : Ev.BytesOf w p l zs) (hk : l ≤ 65536) :
    Calls Tryd.prog 50 #[.slice p l c] w fun e w' => e = .returned (.string (strOfNums (hexT zs))) ∧ Below w.heap.size w w' := by
  obtain ⟨i0, hi, hz0, hz1, hz2⟩ := info_parts' info_u8'
  by_cases h0 : l = 0
  · subst h0
    obtain rfl : zs = [] := List.length_eq_zero_iff.1 hbs.1
    go_enter Tryd.func50, Tryd.ntmps50
    go_wp2_with fail
    go_ret
    exact ⟨rfl, by go_grown⟩
  · have hne : ((l : Int) == 0) = false := by rw [beq_eq_false_iff_ne]; omega
    go_enter Tryd.func50, Tryd.ntmps50
    go_wp2_with fail
    go_loopw [3, 4] (fun v5 i wr => ∃ j : Nat, j ≤ l ∧ i = .int .i64 j ∧ wr.ownsRow w.heap.size 5 1 v5 (2 * j) ((hexL (zs.take j)).map (Value.int .u8)) ∧ Below w.heap.size w wr) (fun _ i _ => l - (intOf i).toNat)
    case atStart => exact ⟨0, by omega, rfl, by simpa [hexL] using World.ownsRow_nil _ _ _ _, Below.refl _ _⟩
    case round =>
      obtain ⟨j, hj, rfl, hown1, hbel⟩ := hrel
      by_cases hlt : j < l
      · have hlt' : (j : Int) < (l : Int) := by omega
        obtain ⟨q, o, rfl, hcell⟩ := (hbs.below hbel).2.2.1 (by omega)
        obtain ⟨z, hz, hcj⟩ : ∃ z, zs[j]? = some z ∧ wr.drew.cell? ⟨q, o + j, none⟩ = some (.int .u8 z) := ⟨zs.getD j 0, by rw [List.getD_eq_getElem?_getD, List.getElem?_eq_getElem (by rw [hbs.1]; exact hlt)]; rfl, hcell j hlt⟩
        obtain ⟨z0, z1⟩ : 0 ≤ z ∧ z < 256 := hbs.2.1 z (List.mem_of_getElem? hz)
        have hiy := at_dig (z / 16) (by omega) (by omega)
        have hiw := at_dig (z % 16) (by omega) (by omega)
        have ha : z.tdiv 16 = z / 16 := Int.tdiv_eq_ediv_of_nonneg z0
        have hb : z.tmod 16 = z % 16 := Int.tmod_eq_emod_of_nonneg z0
        have hwa : IntKind.u8.wrap (z / 16) = z / 16 := wrap8 _ (by omega) (by omega)
        have hwb : IntKind.u8.wrap (z % 16) = z % 16 := wrap8 _ (by omega) (by omega)
        have HT := Lib.hid (show hexL (zs.take (j + 1)) = hexL (zs.take j) ++ [hx (z / 16), hx (z % 16)] from by
          rw [← hexL_append, List.take_add_one]
          congr 1
          rw [hz]; rfl)
        go_wp2_with fail
        have hownd : wr.drew.ownsRow w.heap.size 5 1 u3 (2 * j) ((hexL (zs.take j)).map (Value.int .u8)) := hown1
        have hHO := Lib.hid (hownd.alloc (.cells #[.int .u8 (hx (z / 16)), .int .u8 (hx (z % 16))] 5))
        have hnb : (wr.drew.alloc (.cells #[.int .u8 (hx (z / 16)), .int .u8 (hx (z % 16))] 5)).heap[wr.heap.size]? = some (.cells #[.int .u8 (hx (z / 16)), .int .u8 (hx (z % 16))] 5) := (MapKept.heap_alloc wr.drew (.cells #[.int .u8 (hx (z / 16)), .int .u8 (hx (z % 16))] 5)).1
        have hHC := Lib.hid (show ∀ q u, [Value.int .u8 (hx (z / 16)), Value.int .u8 (hx (z % 16))][q]? = some u → (wr.drew.alloc (.cells #[.int .u8 (hx (z / 16)), .int .u8 (hx (z % 16))] 5)).cell? (Addr.add ⟨wr.heap.size, 0, none⟩ q) = some u from by
          intro q u hq
          match q, hq with
          | 0, hq => simp at hq; subst hq; show (match (World.heap _)[wr.heap.size]? with | some (.cells c _ _) => c[0]? | _ => none) = _; rw [hnb]; rfl
          | 1, hq => simp at hq; subst hq; show (match (World.heap _)[wr.heap.size]? with | some (.cells c _ _) => c[1]? | _ => none) = _; rw [hnb]; rfl)
        have hBD := Lib.hid (show Below w.heap.size w (wr.drew.alloc (.cells #[.int .u8 (hx (z / 16)), .int .u8 (hx (z % 16))] 5)) from hbel.drew.alloc (by have := hbel.size; simp; omega) _)
        go_region_law (refine step_append_own rfl (.tmp 14) (.tmp 27) 31 rfl w.heap.size 5 i0 (.int .u8 0) 1 Tryd.underlying31 hi hz0 hz1 hz2 rfl _ _ _ rfl hHO.out ⟨wr.heap.size, 0, none⟩ 2 2 [.int .u8 (hx (z / 16)), .int .u8 (hx (z % 16))] rfl rfl hHC.out (by intro u hu; simp at hu; rcases hu with rfl | rfl <;> rfl) (by unfold maxLen; omega) (by omega) hBD.out.size ?_; intro v1 w1 hown2 hb2)
        all_goals
          go_wp2_with fail
          go_roundw
          case rel =>
            refine ⟨j + 1, by omega, by go_num, ?_, hBD.out.trans hb2⟩
            rw [show 2 * (j + 1) = 2 * j + 2 from by omega, HT.out]
            simpa using hown2
          case measure => simp [intOf]; omega
      · obtain rfl : j = l := by omega
        rw [List.take_of_length_le (by rw [hbs.1]; exact Nat.le_refl _)] at hown1
        have hne2 : zs ≠ [] := by
          rintro rfl; exact h0 hbs.1.symm
        have hE := Lib.hid (show hexT zs = hexL zs from if_neg hne2)
        have hl := hown1.1
        rw [Nat.mul_one, List.length_map] at hl
        rw [← hl] at hown1
        have hcv := own_str (hexL_bytes zs hbs.2.1) (by rw [hexL_length, hbs.1]; unfold maxLen; omega) hown1
        go_wp2_with fail
        go_ret
        exact ⟨by rw [hE.out]; rfl, hbel⟩
end Go.Proofs.YtlpepmhpnmnpkaaDoor.Ent
