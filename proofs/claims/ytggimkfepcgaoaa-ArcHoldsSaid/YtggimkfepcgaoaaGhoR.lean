/-
  Ghost lists (layer 28), the law of what holds: the map of when a key came; oldest.
-/
import Derived.Test.YtggimkfepcgaoaaGhoQ
import Derived.Maps.RangeWalk
set_option linter.unusedVariables false
set_option linter.unusedSimpArgs false
namespace Go.Proofs.Ytggimkfepcgaoaa.Gho
open Go Go.RowKit Kit Go.Maps Lnk
/-- a map of times, by its entries -/
structure Mi (D : DataW Unit) (S : List (Nat × Nat)) : Prop where
  at_ : ∀ k n, (k, n) ∈ S → has D (.int .u32 (k : Int)) = true ∧ ∀ z, D.atKey (.int .u32 (k : Int)) z = .lit (.int .i64 (n : Int))
  no : ∀ k : Nat, (∀ n, (k, n) ∉ S) → has D (.int .u32 (k : Int)) = false
  size : Maps.size D = S.length
  nd : (S.map Prod.fst).Nodup
theorem Mi.nil : Mi (.map []) [] := ⟨fun k n h => (by cases h), fun k _ => rfl, rfl, List.nodup_nil⟩
/-- the entries without a key -/
def wo (S : List (Nat × Nat)) (k : Nat) : List (Nat × Nat) := S.filter fun p => p.1 != k
theorem wo_mem {S : List (Nat × Nat)} {k : Nat} {p : Nat × Nat} : p ∈ wo S k ↔ p ∈ S ∧ p.1 ≠ k := by unfold wo; rw [List.mem_filter]; simp
theorem wo_fst {S : List (Nat × Nat)} {k : Nat} (h : (S.map Prod.fst).Nodup) : (wo S k).map Prod.fst = (S.map Prod.fst).erase k := by
  rw [List.Nodup.erase_eq_filter h]
  unfold wo
  rw [List.filter_map]
  rfl
theorem wo_no {S : List (Nat × Nat)} {k : Nat} (h : k ∉ S.map Prod.fst) : wo S k = S := by
  unfold wo
  rw [List.filter_eq_self]
  rintro ⟨a, b⟩ hm
  simp only [bne_iff_ne, ne_eq]
  rintro rfl
  exact h (List.mem_map.2 ⟨_, hm, rfl⟩)
theorem Mi.keys {D : DataW Unit} {S : List (Nat × Nat)} (h : Mi D S) (k : Nat) : has D (.int .u32 (k : Int)) = decide (k ∈ S.map Prod.fst) := by
  by_cases hk : k ∈ S.map Prod.fst
  · obtain ⟨⟨a, b⟩, hm, rfl⟩ := List.mem_map.1 hk
    rw [(h.at_ a b hm).1, decide_eq_true hk]
  · rw [h.no k fun n hn => hk (List.mem_map.2 ⟨_, hn, rfl⟩), decide_eq_false hk]
theorem Mi.put {D : DataW Unit} {S : List (Nat × Nat)} (h : Mi D S) (ht : Tidy D) (k n : Nat) : Mi (D.put (.int .u32 (k : Int)) (.lit (.int .i64 (n : Int)))) ((k, n) :: wo S k) := by
  have hkl : WideAt.IsKeyLit (Lit.int .u32 (k : Int)) := by trivial
  refine ⟨fun k' n' hm => ?_, fun k' hk' => ?_, ?_, ?_⟩
  · rcases List.mem_cons.1 hm with e | hm2
    · cases e
      exact ⟨has_put_same ht.isMap hkl _, fun z => atKey_put_same ht.isMap hkl _ z⟩
    · obtain ⟨hm3, hkk⟩ := wo_mem.1 hm2
      obtain ⟨a1, a2⟩ := h.at_ k' n' hm3
      exact ⟨by rw [has_put_other (key_ne hkk)]; exact a1, fun z => by rw [atKey_put_other (key_ne hkk)]; exact a2 z⟩
  · have hkk : k' ≠ k := by rintro rfl; exact hk' n (List.mem_cons_self ..)
    rw [has_put_other (key_ne hkk)]
    exact h.no k' fun n' hn' => hk' n' (List.mem_cons_of_mem _ (wo_mem.2 ⟨hn', hkk⟩))
  · rw [size_put ht, h.keys k, h.size]
    have hl : (wo S k).length = ((S.map Prod.fst).erase k).length := by rw [← wo_fst h.nd, List.length_map]
    rw [List.length_cons, hl, List.length_erase, List.length_map]
    by_cases hk : k ∈ S.map Prod.fst
    · have : 0 < S.length := by
        have := List.length_pos_of_mem hk
        rwa [List.length_map] at this
      simp only [hk, decide_true, if_true]
      omega
    · simp only [hk, decide_false, if_false]
      simp
  · rw [List.map_cons]
    refine List.nodup_cons.2 ⟨fun hm => ?_, ?_⟩
    · obtain ⟨⟨a, b⟩, hm2, e⟩ := List.mem_map.1 hm
      cases e
      exact (wo_mem.1 hm2).2 rfl
    · rw [wo_fst h.nd]; exact h.nd.erase _
theorem Mi.del {D : DataW Unit} {S : List (Nat × Nat)} (h : Mi D S) (ht : Tidy D) (k : Nat) : Mi (D.del (.int .u32 (k : Int))) (wo S k) := by
  refine ⟨fun k' n' hm => ?_, fun k' hk' => ?_, ?_, ?_⟩
  · obtain ⟨hm3, hkk⟩ := wo_mem.1 hm
    obtain ⟨a1, a2⟩ := h.at_ k' n' hm3
    exact ⟨by rw [has_del_other (key_ne hkk)]; exact a1, fun z => by rw [atKey_del_other (key_ne hkk)]; exact a2 z⟩
  · by_cases hkk : k' = k
    · subst hkk
      exact has_del_same
    · rw [has_del_other (key_ne hkk)]
      exact h.no k' fun n' hn' => hk' n' (wo_mem.2 ⟨hn', hkk⟩)
  · have h1 := size_del ht (k := .int .u32 (k : Int))
    rw [h.keys k, h.size] at h1
    have hl : (wo S k).length = ((S.map Prod.fst).erase k).length := by rw [← wo_fst h.nd, List.length_map]
    rw [hl, List.length_erase, List.length_map]
    by_cases hk : k ∈ S.map Prod.fst
    · simp only [hk, decide_true, if_true] at h1 ⊢
      omega
    · simp only [hk, decide_false, if_false] at h1 ⊢
      simpa using h1
  · rw [wo_fst h.nd]; exact h.nd.erase _
theorem und_mapi : Try.prog.underlying 74 = some (.map 38 3) := by kernel_rfl
theorem und_int : Try.prog.underlying 3 = some (.int .i64) := by kernel_rfl
set_option maxRecDepth 100000
theorem looki_in {W : World} {m N : Nat} {D : DataW Unit} {S : List (Nat × Nat)} (h3 : W.ownsMap Try.prog 38 (plainElem Try.prog 3) m N D) (h4 : Mi D S) {k n : Nat} (hk : k < 4294967296) (hm : (k, n) ∈ S) :
    (Instr.lookup 74 (.map (some m)) (.int .u32 (k : Int)) true).run Try.prog W = .ok (.tuple #[.int .i64 (n : Int), .bool true]) W := by
  have K := Maps.int_keyed (P := Try.prog) und_u32
  have hkey := Maps.keyOf_int_mk (P := Try.prog) und_u32 (wf32 hk)
  have hz : (zeroValue 3).run Try.prog W = .ok (.int .i64 0) W := by kernel_rfl
  obtain ⟨v, ps, hrun, hR⟩ := h3.look_ok K und_mapi hz (plainElem_int und_int (by decide)) hkey
  obtain ⟨c, rfl, hc, -⟩ := plainElem_int_inv und_int hR
  obtain ⟨hh, ha⟩ := h4.at_ k n hm
  have h1 := ha (.lit (.int .i64 0))
  have h2 := congrArg Prod.fst hc
  simp only at h2
  rw [h1] at h2
  injection h2 with h2
  injection h2 with _ h2
  rw [hrun, hh, h2]
theorem looki_one {W : World} {m N : Nat} {D : DataW Unit} {S : List (Nat × Nat)} (h3 : W.ownsMap Try.prog 38 (plainElem Try.prog 3) m N D) (h4 : Mi D S) {k n : Nat} (hk : k < 4294967296) (hm : (k, n) ∈ S) :
    (Instr.lookup 74 (.map (some m)) (.int .u32 (k : Int)) false).run Try.prog W = .ok (.int .i64 (n : Int)) W := by
  have K := Maps.int_keyed (P := Try.prog) und_u32
  have hkey := Maps.keyOf_int_mk (P := Try.prog) und_u32 (wf32 hk)
  have h := looki_in h3 h4 hk hm
  obtain ⟨es, clock, hb, F, hs, -⟩ := h3
  simp only [Instr.lookup, Sem.run_bind, run_underlying und_mapi, MapKept.run_getObj_map hb, K.check W es.isEmpty hkey, Result.andThen] at h ⊢
  rcases K.find W hkey es.toList F.keys with ⟨h1, h2⟩ | ⟨j, e0, h1, h2, h3⟩
  · exfalso
    simp [h1, Result.andThen, run_underlying und_mapi, MapKept.run_getObj_map hb, K.check W es.isEmpty hkey] at h
  · simp [h1, Result.andThen, run_underlying und_mapi, MapKept.run_getObj_map hb, K.check W es.isEmpty hkey] at h ⊢
    first | exact h | simpa using h
theorem looki_no {W : World} {m N : Nat} {D : DataW Unit} {S : List (Nat × Nat)} (h3 : W.ownsMap Try.prog 38 (plainElem Try.prog 3) m N D) (h4 : Mi D S) {k : Nat} (hk : k < 4294967296) (hm : ∀ n, (k, n) ∉ S) :
    ∃ v : Int, (Instr.lookup 74 (.map (some m)) (.int .u32 (k : Int)) true).run Try.prog W = .ok (.tuple #[.int .i64 v, .bool false]) W := by
  have K := Maps.int_keyed (P := Try.prog) und_u32
  have hkey := Maps.keyOf_int_mk (P := Try.prog) und_u32 (wf32 hk)
  have hz : (zeroValue 3).run Try.prog W = .ok (.int .i64 0) W := by kernel_rfl
  obtain ⟨v, ps, hrun, hR⟩ := h3.look_ok K und_mapi hz (plainElem_int und_int (by decide)) hkey
  obtain ⟨c, rfl, hc, -⟩ := plainElem_int_inv und_int hR
  exact ⟨c, by rw [hrun, h4.no k hm]⟩
/-- a map of times at block m -/
def Mo (W : World) (m nm : Nat) (S : List (Nat × Nat)) : Prop := ∃ D, W.ownsMap Try.prog 38 (plainElem Try.prog 3) m nm D ∧ Mi D S
end Go.Proofs.Ytggimkfepcgaoaa.Gho
