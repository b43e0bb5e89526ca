/-
  Plain LRU lists (layer 15): the reference.
-/
import Derived.Test.YtajkcockeccdoaaLruC
import Derived.Test.YtajkcockeccdoaaLruD
import Derived.Test.YtajkcockeccdoaaLnkBi
import Derived.Deep.RegionLaw
set_option linter.unusedVariables false
set_option linter.unusedSimpArgs false
namespace Go.Proofs.Ytajkcockeccdoaa.Lru
open Go Go.RowKit Kit Go.Shelf Lnk
/-- the index of a slot -/
def findR (l : List Nat) (x : Nat) : Int := if x ∈ l then (l.idxOf x : Int) else -1
theorem findR_hit {l : List Nat} {x k : Nat} (h : l[k]? = some x) (hn : x ∉ l.take k) : findR l x = (k : Int) := by
  obtain ⟨hk, he⟩ := List.getElem?_eq_some_iff.1 h
  have hm : x ∈ l := he ▸ List.getElem_mem hk
  unfold findR
  rw [if_pos hm]
  have h2 : l.idxOf x = k := by
    conv => lhs; rw [← List.take_append_drop k l]
    rw [List.idxOf_append, if_neg hn, List.drop_eq_getElem_cons hk, he, List.idxOf_cons_self, List.length_take]
    omega
  rw [h2]
theorem findR_miss {l : List Nat} {x : Nat} (hn : x ∉ l) : findR l x = -1 := if_neg hn
set_option maxRecDepth 100000 in
theorem rfind_any {w : World} {p : Option Addr} {n c : Nat} {l : List Nat} (hl : l.length = n) (hn : n ≤ 1000000) (r : Ru w p (ints l)) (x : Nat) :
    Calls Try.prog 102 #[.slice p n c, .int .u32 (x : Int)] w fun e w' => e = .returned (.int .i64 (findR l x)) ∧ w = w' := by
  have HL := Lib.hid hl
  have HR := Lib.hid r
  obtain ⟨z, hz⟩ : ∃ z : Int, (x : Int) = z := ⟨_, rfl⟩
  have HZ := Lib.hid hz
  rw [hz]
  clear hl r hz
  go_enter Try.func102, Try.ntmps102
  go_wp2_with fail
  go_loopw [5] (fun i wr => ∃ k : Nat, k ≤ n ∧ i = .int .i64 (k : Int) ∧ x ∉ l.take k ∧ w = wr) (fun i _ => n - (intOf i).toNat)
  case atStart => exact ⟨0, by omega, rfl, by simp, rfl⟩
  case round =>
    obtain ⟨k, hk, rfl, hT, rfl⟩ := hrel
    have HT := Lib.hid hT
    clear hT
    by_cases hlt : k < n
    · obtain ⟨s, hs⟩ : ∃ s, l[k]? = some s := ⟨l[k]'(by rw [HL.out]; omega), List.getElem?_eq_getElem _⟩
      obtain ⟨y, rfl, hyb, e0⟩ := HR.out k (s : Int) (Lnk.ints_at hs)
      have hlt' : (k : Int) < (n : Int) := by omega
      have k0 : (0 : Int) ≤ (k : Int) := by omega
      have HS := Lib.hid hs
      clear hs hyb
      obtain ⟨t, ht⟩ : ∃ t : Int, (s : Int) = t := ⟨_, rfl⟩
      have HTT := Lib.hid ht
      rw [ht] at e0
      clear ht
      by_cases hx : t = z
      · have hq : s = x := by have := HTT.out; have := HZ.out; omega
        have HQ := Lib.hid (findR_hit (hq ▸ HS.out) HT.out)
        subst hx
        clear hq
        go_wp2_with fail
        go_ret
        exact ⟨by rw [HQ.out]; rfl, rfl⟩
      · have hb : (t == z) = false := by rw [beq_eq_false_iff_ne]; exact hx
        have hq : x ∉ l.take (k + 1) := by
          rw [List.take_add_one, HS.out]
          intro h
          rcases List.mem_append.1 h with h | h
          · exact HT.out h
          · simp at h; have := HTT.out; have := HZ.out; omega
        have HQ := Lib.hid hq
        clear hq hx
        go_wp2_with fail
        go_roundw
        case rel => exact ⟨k + 1, by omega, by go_num, HQ.out, trivial⟩
        case measure => simp [intOf]; omega
    · have hlt' : ¬ (k : Int) < (n : Int) := by omega
      obtain rfl : k = n := by omega
      have HQ := Lib.hid (show findR l x = -1 from findR_miss fun h => HT.out (by rw [List.take_of_length_le (Nat.le_of_eq HL.out)]; exact h))
      go_wp2_with fail
      go_ret
      exact ⟨by rw [HQ.out]; rfl, rfl⟩
theorem lit_row (v : World) (xs : List Int) (t : TypeId) : Ru (v.alloc (.cells (xs.map (Value.int .u32)).toArray t)) (some ⟨v.heap.size, 0, none⟩) xs := fun i x hx => by
  refine ⟨_, rfl, by simp, ?_⟩
  rw [Lnk.add2]
  unfold World.cell?
  dsimp only
  rw [(MapKept.heap_alloc v _).1]
  simp [hx]
/-- what an operation of the reference answers: a row, and an error -/
def Rr (e : Ending) (w' : World) (B : Nat) (p : Option Addr) (l l' : List Nat) (z : Int) : Prop := ∃ p' c', e = .returned (.tuple #[.slice p' l'.length c', .int .i64 z]) ∧ Ru w' p' (ints l') ∧ l'.length ≤ c' ∧ ((p' = p ∧ l' = l) ∨ ∀ y, p' = some y → B ≤ y.block)
theorem rr_new {w : World} {B n c : Nat} {q p : Option Addr} {l l0 : List Nat} {z : Int} (h : Ks w B (.slice q n c) (ints l)) (hl : l.length = n) : Rr (.returned (.tuple #[.slice q n c, .int .i64 z])) w B p l0 l z := by
  subst hl
  obtain ⟨q', c', h1, h2⟩ := ks_ru h
  rw [ints_len] at h1
  cases h1
  obtain ⟨q', k', hv, h3, h4⟩ := own_form h
  rw [ints_len] at hv h4
  cases hv
  exact ⟨q, c, rfl, h2, h4, .inr (ks_from h)⟩
set_option maxRecDepth 100000 in
theorem radd15_any {w : World} {p : Option Addr} {n c : Nat} {l : List Nat} (hl : l.length = n) (hn : n ≤ 100000) (hc : n ≤ c) (r : Ru w p (ints l)) (x : Nat) (hx : x < 4294967296) :
    Calls Try.prog 44 #[.slice p n c, .int .u32 (x : Int)] w fun e w' => Rr e w' w.heap.size p l (addL l x) (addC l x) ∧ Below w.heap.size w w' := by
  have HF := Lib.hid (fun (v : World) (hb : Below w.heap.size w v) => rfind_any (c := c) hl (by omega) (r.below hb) x)
  by_cases h : x < 4194304
  · have h1 : decide ((4194304 : Int) ≤ (x : Int)) = false := decide_eq_false (by omega)
    by_cases hm : x ∈ l
    · have ha : addC l x = 11 := by unfold addC; rw [if_pos h, if_pos hm]
      have hb : addL l x = l := if_neg fun k => k.2 hm
      have hf : findR l x = ((l.idxOf x : Nat) : Int) := if_pos hm
      rw [hf] at HF
      rw [ha, hb]
      obtain ⟨i, hi⟩ : ∃ i, l.idxOf x = i := ⟨_, rfl⟩
      rw [hi] at HF
      have HR := Lib.hid (show Ru w p (ints l) ∧ l.length = n ∧ n ≤ c from ⟨r, hl, hc⟩)
      obtain ⟨z, hz⟩ : ∃ z : Int, (x : Int) = z := ⟨_, rfl⟩
      rw [hz] at HF h1 ⊢
      clear hz h hx hm ha hb hf hi r hl hc
      go_enter Try.func44, Try.ntmps44
      go_wp2_with fail
      refine (HF.out _ (Below.refl _ _)).mono ?_
      rintro e w1 ⟨rfl, rfl⟩
      have hi0 : (0 : Int) ≤ (i : Int) := by omega
      go_wp2_with fail
      go_ret2
      obtain ⟨r0, hl0, hc0⟩ := HR.out
      subst hl0
      exact ⟨⟨p, c, rfl, r0, hc0, .inl ⟨rfl, rfl⟩⟩, Below.refl _ _⟩
    · have ha : addC l x = 0 := by unfold addC; rw [if_pos h, if_neg hm]
      have hb : addL l x = l ++ [x] := if_pos ⟨h, hm⟩
      have hf : findR l x = -1 := if_neg hm
      rw [hf] at HF
      rw [ha, hb]
      obtain ⟨z, hz⟩ : ∃ z : Int, (x : Int) = z := ⟨_, rfl⟩
      have HZ := Lib.hid hz
      rw [hz] at HF h1 ⊢
      have HR := Lib.hid (show Ru w p (ints l) ∧ l.length = n ∧ n ≤ c from ⟨r, hl, hc⟩)
      clear hz h hx hm ha hb hf r hl hc
      go_enter Try.func44, Try.ntmps44
      go_wp2_with fail
      refine (HF.out _ (Below.refl _ _)).mono ?_
      rintro e w1 ⟨rfl, rfl⟩
      obtain ⟨i0, hi0, hz0, hz1, hz2⟩ := u_parts
      have hln : ((ints l).map (Value.int .u32)).length = n := by rw [List.length_map, ints_len, HR.out.2.1]
      have HLN := Lib.hid hln
      clear hln
      go_wp2_with (first
        | (at_builtin; refine wpList_appG rfl (.const (.slice none 0 0)) (.tmp 14) 39 rfl w.heap.size 38 i0 (.int .u32 0) 4 Try.underlying39 hi0 hz0 hz1 hz2 rfl _ 0 [] rfl (World.ownsRow_nil _ _ _ _) _ n c _ rfl HLN.out HR.out.1.rg (u32_one _) (by omega) (by omega) (Nat.le_refl _) ?_; intro v2 w2 o2 b2 s2; rw [Nat.zero_add] at o2; obtain ⟨q2, k2, rfl, _, _⟩ := own_rg o2; have B2 := Lib.hid b2; have O2 := Lib.hid o2; have S2 := Lib.hid s2; clear o2 b2 s2)
        | (at_builtin; refine wpList_appG rfl (.tmp 15) (.tmp 17) 39 rfl w.heap.size 38 i0 (.int .u32 0) 4 Try.underlying39 hi0 hz0 hz1 hz2 rfl _ n _ rfl (O2.out.alloc _) _ 1 1 [.int .u32 z] rfl rfl (lit_row w2 [z] 38).rg (u32_one [z]) (by omega) (by omega) (by have := S2.out; simp; omega) ?_; intro v3 w3 o3 b3 s3; obtain ⟨q3, k3, rfl, _, _⟩ := own_rg o3; have B3 := Lib.hid b3; have O3 := Lib.hid o3; clear o3 b3))
      all_goals (
        go_ret2
        obtain ⟨r0, hl0, hc0⟩ := HR.out
        have K3 : Ks w3 w.heap.size (.slice q3 (n + 1) k3) (ints (l ++ [x])) := by
          unfold Ks
          have e1 : (ints (l ++ [x])).length = n + 1 := by rw [ints_len, List.length_append, hl0]; rfl
          have e2 : (ints (l ++ [x])).map (Value.int .u32) = [] ++ (ints l).map (Value.int .u32) ++ [.int .u32 z] := by rw [← HZ.out]; simp [ints]
          rw [e1, e2]
          exact O3.out
        exact ⟨rr_new K3 (by rw [List.length_append, hl0]; rfl), (B2.out.trans ((box_below _ _ _).mono S2.out)).trans B3.out⟩)
  · have h1 : decide ((4194304 : Int) ≤ (x : Int)) = true := decide_eq_true (by omega)
    have ha : addC l x = 2 := by unfold addC; rw [if_neg h]
    have hb : addL l x = l := if_neg fun k => h k.1
    rw [ha, hb]
    have HR := Lib.hid (show Ru w p (ints l) ∧ l.length = n ∧ n ≤ c from ⟨r, hl, hc⟩)
    obtain ⟨z, hz⟩ : ∃ z : Int, (x : Int) = z := ⟨_, rfl⟩
    rw [hz] at h1 ⊢
    clear hz h hx ha hb r hl hc HF
    go_enter Try.func44, Try.ntmps44
    go_wp2_with fail
    go_ret2
    obtain ⟨r0, hl0, hc0⟩ := HR.out
    subst hl0
    exact ⟨⟨p, c, rfl, r0, hc0, .inl ⟨rfl, rfl⟩⟩, Below.refl _ _⟩
set_option maxRecDepth 100000 in
set_option maxHeartbeats 4000000 in
theorem without_any {w : World} {p : Option Addr} {n c i : Nat} {l : List Nat} (hl : l.length = n) (hn : n ≤ 100000) (hc : n ≤ c) (r : Ru w p (ints l)) (hi : i < n) :
    Calls Try.prog 109 #[.slice p n c, .int .i64 (i : Int)] w fun e w' => Kl e w' w.heap.size (ints (l.take i ++ l.drop (i + 1))) ∧ Below w.heap.size w w' := by
  obtain ⟨i0, hi0, hz0, hz1, hz2⟩ := u_parts
  obtain ⟨y, rfl⟩ : ∃ y, p = some y := by
    obtain ⟨y, hy, -⟩ := r i _ (Lnk.ints_at (List.getElem?_eq_getElem (by omega)))
    exact ⟨y, hy⟩
  have c1 : (i : Int) ≤ (n : Int) := by omega
  have c0 : (0 : Int) ≤ (i : Int) := by omega
  have c2 : (n : Int) ≤ (c : Int) := by omega
  obtain ⟨j, hj⟩ : ∃ j, i + 1 = j := ⟨_, rfl⟩
  have c3 : IntKind.i64.wrap ((i : Int) + 1) = (j : Int) := by have := IntWalk.i64_in ((i : Int) + 1) (by omega); rw [this]; omega
  have c4 : (j : Int) ≤ (n : Int) := by omega
  have c6 : (i : Int) ≤ (c : Int) := by omega
  have c5 : (0 : Int) ≤ (j : Int) := by omega
  have hjn : j ≤ n := by omega
  have hln : (ints l).length = n := by rw [ints_len, hl]
  have R1 := Lib.hid (fun (v : World) (hb : Below w.heap.size w v) => (r.drop2 j c (by omega)).below hb)
  have R2 := Lib.hid ((r.take i).below (Below.drew (Below.refl w.heap.size w)))
  have HL1 := Lib.hid (show ((ints l).drop j).length = n - j from by rw [List.length_drop, hln])
  have HL2 := Lib.hid (show ((ints l).take i).length = i from by rw [List.length_take, hln]; omega)
  have BD := Lib.hid (Below.drew (Below.refl w.heap.size w))
  have HE := Lib.hid (show ints (l.take i ++ l.drop (i + 1)) = (ints l).take i ++ (ints l).drop j from by rw [hj]; simp [ints, List.map_take, List.map_drop])
  rw [HE.out]
  clear r hln hj HE
  go_enter Try.func109, Try.ntmps109
  go_wp2_with fail
  go_region_law (first
    | (refine step_appU0 rfl (.const (.slice none 0 0)) (.tmp 7) rfl w.heap.size rfl (some y) i c _ rfl HL2.out R2.out (by omega) BD.out.size ?_; intro q1 k1 w1 h1 b1; have K1 := Lib.hid h1; have B1 := Lib.hid b1; clear h1 b1)
    | (refine step_appU rfl (.tmp 8) (.tmp 12) rfl w.heap.size q1 i k1 _ rfl K1.out HL2.out _ (n - j) (c - j) _ rfl HL1.out (R1.out _ (BD.out.trans B1.out)) (by omega) (BD.out.trans B1.out).size ?_; intro q2 k2 w2 h2 b2; have K2 := Lib.hid h2; have B2 := Lib.hid b2; clear h2 b2))
  all_goals go_wp2_with fail
  all_goals go_ret
  all_goals exact ⟨⟨_, rfl, K2.out⟩, (BD.out.trans B1.out).trans B2.out⟩
end Go.Proofs.Ytajkcockeccdoaa.Lru
