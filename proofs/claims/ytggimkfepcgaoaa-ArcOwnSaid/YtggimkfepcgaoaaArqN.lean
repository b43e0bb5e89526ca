/-
  Ghost lists (layer 28), the law of what holds: the map of when a key came; oldest.
-/
import Derived.Test.YtggimkfepcgaoaaMgA
import Derived.Maps.RangeWalk
import Derived.Test.YtggimkfepcgaoaaArcL
import Derived.Test.YtggimkfepcgaoaaArqM
set_option linter.unusedVariables false
set_option linter.unusedSimpArgs false
section
namespace Go.Proofs.Ytggimkfepcgaoaa.Gho
open Go Go.RowKit Kit Go.Maps Lnk
/-- a map of times, by its entries -/
structure Mi (D : DataW Unit) (S : List (Nat × Nat)) : Prop where
  at_ : ∀ k n, (k, n) ∈ S → has D (.int .u32 (k : Int)) = true ∧ ∀ z, D.atKey (.int .u32 (k : Int)) z = .lit (.int .i64 (n : Int))
  no : ∀ k : Nat, (∀ n, (k, n) ∉ S) → has D (.int .u32 (k : Int)) = false
  size : Maps.size D = S.length
  nd : (S.map Prod.fst).Nodup
theorem Mi.nil : Mi (.map []) [] := ⟨fun k n h => (by cases h), fun k _ => rfl, rfl, List.nodup_nil⟩
/-- the entries without a key -/
def wo (S : List (Nat × Nat)) (k : Nat) : List (Nat × Nat) := S.filter fun p => p.1 != k
theorem wo_mem {S : List (Nat × Nat)} {k : Nat} {p : Nat × Nat} : p ∈ wo S k ↔ p ∈ S ∧ p.1 ≠ k := by unfold wo; rw [List.mem_filter]; simp
theorem wo_fst {S : List (Nat × Nat)} {k : Nat} (h : (S.map Prod.fst).Nodup) : (wo S k).map Prod.fst = (S.map Prod.fst).erase k := by
  rw [List.Nodup.erase_eq_filter h]
  unfold wo
  rw [List.filter_map]
  rfl
theorem wo_no {S : List (Nat × Nat)} {k : Nat} (h : k ∉ S.map Prod.fst) : wo S k = S := by
  unfold wo
  rw [List.filter_eq_self]
  rintro ⟨a, b⟩ hm
  simp only [bne_iff_ne, ne_eq]
  rintro rfl
  exact h (List.mem_map.2 ⟨_, hm, rfl⟩)
theorem Mi.keys {D : DataW Unit} {S : List (Nat × Nat)} (h : Mi D S) (k : Nat) : has D (.int .u32 (k : Int)) = decide (k ∈ S.map Prod.fst) := by
  by_cases hk : k ∈ S.map Prod.fst
  · obtain ⟨⟨a, b⟩, hm, rfl⟩ := List.mem_map.1 hk
    rw [(h.at_ a b hm).1, decide_eq_true hk]
  · rw [h.no k fun n hn => hk (List.mem_map.2 ⟨_, hn, rfl⟩), decide_eq_false hk]
theorem Mi.put {D : DataW Unit} {S : List (Nat × Nat)} (h : Mi D S) (ht : Tidy D) (k n : Nat) : Mi (D.put (.int .u32 (k : Int)) (.lit (.int .i64 (n : Int)))) ((k, n) :: wo S k) := by
  have hkl : WideAt.IsKeyLit (Lit.int .u32 (k : Int)) := by trivial
  refine ⟨fun k' n' hm => ?_, fun k' hk' => ?_, ?_, ?_⟩
  · rcases List.mem_cons.1 hm with e | hm2
    · cases e
      exact ⟨has_put_same ht.isMap hkl _, fun z => atKey_put_same ht.isMap hkl _ z⟩
    · obtain ⟨hm3, hkk⟩ := wo_mem.1 hm2
      obtain ⟨a1, a2⟩ := h.at_ k' n' hm3
      exact ⟨by rw [has_put_other (key_ne hkk)]; exact a1, fun z => by rw [atKey_put_other (key_ne hkk)]; exact a2 z⟩
  · have hkk : k' ≠ k := by rintro rfl; exact hk' n (List.mem_cons_self ..)
    rw [has_put_other (key_ne hkk)]
    exact h.no k' fun n' hn' => hk' n' (List.mem_cons_of_mem _ (wo_mem.2 ⟨hn', hkk⟩))
  · rw [size_put ht, h.keys k, h.size]
    have hl : (wo S k).length = ((S.map Prod.fst).erase k).length := by rw [← wo_fst h.nd, List.length_map]
    rw [List.length_cons, hl, List.length_erase, List.length_map]
    by_cases hk : k ∈ S.map Prod.fst
    · have : 0 < S.length := by
        have := List.length_pos_of_mem hk
        rwa [List.length_map] at this
      simp only [hk, decide_true, if_true]
      omega
    · simp only [hk, decide_false, if_false]
      simp
  · rw [List.map_cons]
    refine List.nodup_cons.2 ⟨fun hm => ?_, ?_⟩
    · obtain ⟨⟨a, b⟩, hm2, e⟩ := List.mem_map.1 hm
      cases e
      exact (wo_mem.1 hm2).2 rfl
    · rw [wo_fst h.nd]; exact h.nd.erase _
theorem Mi.del {D : DataW Unit} {S : List (Nat × Nat)} (h : Mi D S) (ht : Tidy D) (k : Nat) : Mi (D.del (.int .u32 (k : Int))) (wo S k) := by
  refine ⟨fun k' n' hm => ?_, fun k' hk' => ?_, ?_, ?_⟩
  · obtain ⟨hm3, hkk⟩ := wo_mem.1 hm
    obtain ⟨a1, a2⟩ := h.at_ k' n' hm3
    exact ⟨by rw [has_del_other (key_ne hkk)]; exact a1, fun z => by rw [atKey_del_other (key_ne hkk)]; exact a2 z⟩
  · by_cases hkk : k' = k
    · subst hkk
      exact has_del_same
    · rw [has_del_other (key_ne hkk)]
      exact h.no k' fun n' hn' => hk' n' (wo_mem.2 ⟨hn', hkk⟩)
  · have h1 := size_del ht (k := .int .u32 (k : Int))
    rw [h.keys k, h.size] at h1
    have hl : (wo S k).length = ((S.map Prod.fst).erase k).length := by rw [← wo_fst h.nd, List.length_map]
    rw [hl, List.length_erase, List.length_map]
    by_cases hk : k ∈ S.map Prod.fst
    · simp only [hk, decide_true, if_true] at h1 ⊢
      omega
    · simp only [hk, decide_false, if_false] at h1 ⊢
      simpa using h1
  · rw [wo_fst h.nd]; exact h.nd.erase _
theorem und_mapi : Try.prog.underlying 74 = some (.map 38 3) := by kernel_rfl
theorem und_int : Try.prog.underlying 3 = some (.int .i64) := by kernel_rfl
set_option maxRecDepth 100000
theorem looki_in {W : World} {m N : Nat} {D : DataW Unit} {S : List (Nat × Nat)} (h3 : W.ownsMap Try.prog 38 (plainElem Try.prog 3) m N D) (h4 : Mi D S) {k n : Nat} (hk : k < 4294967296) (hm : (k, n) ∈ S) :
    (Instr.lookup 74 (.map (some m)) (.int .u32 (k : Int)) true).run Try.prog W = .ok (.tuple #[.int .i64 (n : Int), .bool true]) W := by
  have K := Maps.int_keyed (P := Try.prog) und_u32
  have hkey := Maps.keyOf_int_mk (P := Try.prog) und_u32 (wf32 hk)
  have hz : (zeroValue 3).run Try.prog W = .ok (.int .i64 0) W := by kernel_rfl
  obtain ⟨v, ps, hrun, hR⟩ := h3.look_ok K und_mapi hz (plainElem_int und_int (by decide)) hkey
  obtain ⟨c, rfl, hc, -⟩ := plainElem_int_inv und_int hR
  obtain ⟨hh, ha⟩ := h4.at_ k n hm
  have h1 := ha (.lit (.int .i64 0))
  have h2 := congrArg Prod.fst hc
  simp only at h2
  rw [h1] at h2
  injection h2 with h2
  injection h2 with _ h2
  rw [hrun, hh, h2]
theorem looki_one {W : World} {m N : Nat} {D : DataW Unit} {S : List (Nat × Nat)} (h3 : W.ownsMap Try.prog 38 (plainElem Try.prog 3) m N D) (h4 : Mi D S) {k n : Nat} (hk : k < 4294967296) (hm : (k, n) ∈ S) :
    (Instr.lookup 74 (.map (some m)) (.int .u32 (k : Int)) false).run Try.prog W = .ok (.int .i64 (n : Int)) W := by
  have K := Maps.int_keyed (P := Try.prog) und_u32
  have hkey := Maps.keyOf_int_mk (P := Try.prog) und_u32 (wf32 hk)
  have h := looki_in h3 h4 hk hm
  obtain ⟨es, clock, hb, F, hs, -⟩ := h3
  simp only [Instr.lookup, Sem.run_bind, run_underlying und_mapi, MapKept.run_getObj_map hb, K.check W es.isEmpty hkey, Result.andThen] at h ⊢
  rcases K.find W hkey es.toList F.keys with ⟨h1, h2⟩ | ⟨j, e0, h1, h2, h3⟩
  · exfalso
    simp [h1, Result.andThen, run_underlying und_mapi, MapKept.run_getObj_map hb, K.check W es.isEmpty hkey] at h
  · simp [h1, Result.andThen, run_underlying und_mapi, MapKept.run_getObj_map hb, K.check W es.isEmpty hkey] at h ⊢
    first | exact h | simpa using h
theorem looki_no {W : World} {m N : Nat} {D : DataW Unit} {S : List (Nat × Nat)} (h3 : W.ownsMap Try.prog 38 (plainElem Try.prog 3) m N D) (h4 : Mi D S) {k : Nat} (hk : k < 4294967296) (hm : ∀ n, (k, n) ∉ S) :
    ∃ v : Int, (Instr.lookup 74 (.map (some m)) (.int .u32 (k : Int)) true).run Try.prog W = .ok (.tuple #[.int .i64 v, .bool false]) W := by
  have K := Maps.int_keyed (P := Try.prog) und_u32
  have hkey := Maps.keyOf_int_mk (P := Try.prog) und_u32 (wf32 hk)
  have hz : (zeroValue 3).run Try.prog W = .ok (.int .i64 0) W := by kernel_rfl
  obtain ⟨v, ps, hrun, hR⟩ := h3.look_ok K und_mapi hz (plainElem_int und_int (by decide)) hkey
  obtain ⟨c, rfl, hc, -⟩ := plainElem_int_inv und_int hR
  exact ⟨c, by rw [hrun, h4.no k hm]⟩
/-- a map of times at block m -/
def Mo (W : World) (m nm : Nat) (S : List (Nat × Nat)) : Prop := ∃ D, W.ownsMap Try.prog 38 (plainElem Try.prog 3) m nm D ∧ Mi D S
end Go.Proofs.Ytggimkfepcgaoaa.Gho
end
section
namespace Go.Proofs.Ytggimkfepcgaoaa.Arc
open Go Go.RowKit Kit Go.Maps Lnk Gho
theorem und_mapb : Try.prog.underlying 106 = some (.map 38 4) := by kernel_rfl
theorem und_bool : Try.prog.underlying 4 = some .bool := by kernel_rfl
abbrev OwnB (W : World) (m N : Nat) (D : DataW Unit) : Prop := W.ownsMap Try.prog 38 (plainElem Try.prog 4) m N D
/-- the keys that are there -/
structure Mb (D : DataW Unit) (S : List Nat) : Prop where
  has_ : ∀ k : Nat, has D (.int .u32 (k : Int)) = decide (k ∈ S)
  val : ∀ k : Nat, k ∈ S → ∀ z, D.atKey (.int .u32 (k : Int)) z = .lit (.bool true)
  size : Maps.size D = S.length
  nd : S.Nodup
theorem Mb.nil : Mb (.map []) [] := ⟨fun k => rfl, fun k h => (by cases h), rfl, List.nodup_nil⟩
theorem Mb.put {D : DataW Unit} {S : List Nat} (h : Mb D S) (ht : Tidy D) (k : Nat) : Mb (D.put (.int .u32 (k : Int)) (.lit (.bool true))) (k :: S.erase k) := by
  have hkl : WideAt.IsKeyLit (Lit.int .u32 (k : Int)) := by trivial
  refine ⟨fun j => ?_, fun j hj z => ?_, ?_, List.nodup_cons.2 ⟨fun hm => (h.nd.mem_erase_iff.1 hm).1 rfl, h.nd.erase _⟩⟩
  · by_cases hjk : j = k
    · subst hjk; rw [has_put_same ht.isMap hkl]; simp
    · rw [has_put_other (key_ne hjk), h.has_]
      simp [hjk, h.nd.mem_erase_iff]
  · by_cases hjk : j = k
    · subst hjk; exact atKey_put_same ht.isMap hkl _ z
    · rw [atKey_put_other (key_ne hjk)]
      rcases List.mem_cons.1 hj with h1 | h1
      · exact absurd h1 hjk
      · exact h.val j (h.nd.mem_erase_iff.1 h1).2 z
  · rw [size_put ht, h.has_, h.size, List.length_cons, List.length_erase]
    by_cases hk : k ∈ S
    · have := List.length_pos_of_mem hk
      simp only [hk, decide_true, if_true]; omega
    · simp only [hk, decide_false, if_false]; simp
theorem Mb.del {D : DataW Unit} {S : List Nat} (h : Mb D S) (ht : Tidy D) (k : Nat) : Mb (D.del (.int .u32 (k : Int))) (S.erase k) := by
  refine ⟨fun j => ?_, fun j hj z => ?_, ?_, h.nd.erase _⟩
  · by_cases hjk : j = k
    · subst hjk; rw [has_del_same]; simp [h.nd.mem_erase_iff]
    · rw [has_del_other (key_ne hjk), h.has_]; simp [hjk, h.nd.mem_erase_iff]
  · have hj' := h.nd.mem_erase_iff.1 hj
    rw [atKey_del_other (key_ne hj'.1)]
    exact h.val j hj'.2 z
  · have h1 := size_del ht (k := .int .u32 (k : Int))
    rw [h.has_, h.size] at h1
    rw [List.length_erase]
    by_cases hk : k ∈ S
    · simp only [hk, decide_true, if_true] at h1 ⊢; omega
    · simp only [hk, decide_false, if_false] at h1 ⊢; simpa using h1
set_option maxRecDepth 100000 in
theorem lookb {W : World} {m N : Nat} {D : DataW Unit} {S : List Nat} (h3 : OwnB W m N D) (h4 : Mb D S) {k : Nat} (hk : k < 4294967296) :
    (Instr.lookup 106 (.map (some m)) (.int .u32 (k : Int)) false).run Try.prog W = .ok (.bool (decide (k ∈ S))) W := by
  have K := Maps.int_keyed (P := Try.prog) und_u32
  have hkey := Maps.keyOf_int_mk (P := Try.prog) und_u32 (wf32 hk)
  have hz : (zeroValue 4).run Try.prog W = .ok (.bool false) W := by kernel_rfl
  obtain ⟨v, ps, hrun, hR⟩ := h3.lookup K und_mapb hz (plainElem_bool und_bool false) hkey
  have hv : ∃ b, v = .bool b ∧ D.atKey (.int .u32 (k : Int)) (.lit (.bool false)) = .lit (.bool b) := by
    unfold plainElem at hR
    rw [und_bool] at hR
    cases v <;> simp at hR
    exact ⟨_, rfl, hR.1.symm⟩
  obtain ⟨b, rfl, hb⟩ := hv
  rw [hrun]
  by_cases hS : k ∈ S
  · rw [h4.val k hS] at hb
    injection hb with hb
    injection hb with hb
    rw [← hb, decide_eq_true hS]
  · rw [atKey_of_not_has (by rw [h4.has_, decide_eq_false hS])] at hb
    injection hb with hb
    injection hb with hb
    rw [← hb, decide_eq_false hS]
set_option maxRecDepth 100000 in
/-- a number that is not there is 0 -/
theorem looki_zero {W : World} {m N : Nat} {D : DataW Unit} {S : List (Nat × Nat)} (h3 : W.ownsMap Try.prog 38 (plainElem Try.prog 3) m N D) (h4 : Mi D S) {k : Nat} (hk : k < 4294967296) (hm : ∀ n, (k, n) ∉ S) :
    (Instr.lookup 74 (.map (some m)) (.int .u32 (k : Int)) false).run Try.prog W = .ok (.int .i64 0) W := by
  have K := Maps.int_keyed (P := Try.prog) und_u32
  have hkey := Maps.keyOf_int_mk (P := Try.prog) und_u32 (wf32 hk)
  have hz : (zeroValue 3).run Try.prog W = .ok (.int .i64 0) W := by kernel_rfl
  obtain ⟨v, ps, hrun, hR⟩ := h3.lookup K und_mapi hz (plainElem_int und_int (by decide)) hkey
  obtain ⟨c, rfl, hc, -⟩ := plainElem_int_inv und_int hR
  have h2 := congrArg Prod.fst hc
  simp only at h2
  rw [atKey_of_not_has (h4.no k hm)] at h2
  injection h2 with h2
  injection h2 with _ h2
  rw [hrun, ← h2]
/-- the calls: what, key -/
def Ac2 (B : Nat) (w : World) (a : Option Addr) (len : Nat) (f0 f1 : Nat → Int) : Prop := ∀ i, i < len → ∃ x, a = some x ∧ x.block < B ∧ w.cell? (x.add (i * 2)) = some (.int .i64 (f0 i)) ∧ w.cell? ⟨(x.add (i * 2)).block, (x.add (i * 2)).off + 1, none⟩ = some (.int .u32 (f1 i)) ∧ 0 ≤ f1 i ∧ f1 i < 4294967296
theorem a2_pos (x : Addr) (m k : Nat) (hk : k ≠ 0) : x.add (m + k) = ⟨(x.add m).block, (x.add m).off + k, none⟩ := by
  unfold Addr.add
  by_cases h1 : m = 0
  · subst h1; simp [hk]
  · simp [h1, hk, Nat.add_assoc]
theorem a2_block (x : Addr) (m : Nat) : (x.add m).block = x.block := by unfold Addr.add; split <;> rfl
theorem a2_lt {w : World} {x : Addr} {v : Value} (h : w.cell? x = some v) : x.block < w.heap.size := by
  rcases Nat.lt_or_ge x.block w.heap.size with h' | h'
  · exact h'
  · simp [World.cell?, Array.getElem?_eq_none h'] at h
theorem a2_u32 {z : Int} (h : (Lit.int .u32 z).wf = true) : 0 ≤ z ∧ z < 4294967296 := by
  have h' : (decide ((0 : Int) ≤ z) && decide (z ≤ 4294967295)) = true := h
  simp at h'
  omega
theorem ac2_of {w : World} {a : Option Addr} {len cap : Nat} (h : (a = none ∧ len = 0) ∨ ∃ x, a = some x ∧ len ≤ cap ∧ cap ≤ maxLen ∧ ∀ i, i < len → ∃ (z0 : Int) (z1 : Int), w.cell? (x.add (i * 2 + 0)) = some (.int .i64 z0) ∧ w.cell? (x.add (i * 2 + 1)) = some (.int .u32 z1) ∧ (Lit.int .i64 z0).wf = true ∧ (Lit.int .u32 z1).wf = true) :
    ∃ f0 f1, Ac2 w.heap.size w a len f0 f1 := by
  rcases h with ⟨-, rfl⟩ | ⟨x, rfl, -, -, h⟩
  · exact ⟨fun _ => 0, fun _ => 0, fun i hi => by omega⟩
  · have h' : ∀ i : Nat, ∃ p : Int × Int, i < len → x.block < w.heap.size ∧ w.cell? (x.add (i * 2)) = some (.int .i64 p.1) ∧ w.cell? ⟨(x.add (i * 2)).block, (x.add (i * 2)).off + 1, none⟩ = some (.int .u32 p.2) ∧ 0 ≤ p.2 ∧ p.2 < 4294967296 := fun i => by
      by_cases hi : i < len
      · obtain ⟨z0, z1, h0, h1, -, h3⟩ := h i hi
        rw [a2_pos x _ 1 (by decide)] at h1
        rw [Nat.add_zero] at h0
        have := a2_lt h0
        rw [a2_block] at this
        exact ⟨(z0, z1), fun _ => ⟨this, h0, h1, a2_u32 h3⟩⟩
      · exact ⟨(0, 0), fun hh => absurd hh hi⟩
    refine ⟨fun i => (h' i).choose.1, fun i => (h' i).choose.2, fun i hi => ?_⟩
    exact ⟨x, rfl, (h' i).choose_spec hi⟩
theorem Ac2.below {B : Nat} {w w' : World} {a : Option Addr} {len : Nat} {f0 f1 : Nat → Int} (h : Ac2 B w a len f0 f1) (hb : Below B w w') : Ac2 B w' a len f0 f1 := fun i hi => by
  obtain ⟨x, h0, hx, h3, h4, h6⟩ := h i hi
  have e := hb.block x.block hx
  refine ⟨x, h0, hx, ?_, ?_, h6⟩
  · exact (World.cell?_of_block (a := x.add (i * 2)) (show w'.heap[(x.add (i * 2)).block]? = w.heap[(x.add (i * 2)).block]? by rw [a2_block]; exact e)).trans h3
  · exact (World.cell?_of_block (a := ⟨(x.add (i * 2)).block, (x.add (i * 2)).off + 1, none⟩) (show w'.heap[(x.add (i * 2)).block]? = w.heap[(x.add (i * 2)).block]? by rw [a2_block]; exact e)).trans h4
/-- the state between two calls, and within a round (Y: the call's box) -/
structure Ah (w v : World) (o K s m N : Nat) (t : Int) (b : Nat → Nat) (L : Nat → List Nat) (D : DataW Unit) (S : List Nat) (Y : Nat → Prop) : Prop where
  ax : Ax w v o K s t b L (fun k => k = m ∨ Y k)
  ow : OwnB v m N D
  mb : Mb D S
  ml : w.heap.size ≤ m
  ym : ¬ Y m
section
variable {w v v' : World} {o K s m N : Nat} {t : Int} {b : Nat → Nat} {L : Nat → List Nat} {D : DataW Unit} {S : List Nat} {Y : Nat → Prop}
theorem ownB_keep {W W' : World} (h : OwnB W m N D) (hb : W'.heap[m]? = W.heap[m]?) : OwnB W' m N D := by
  obtain ⟨es, clock, h1, r⟩ := h
  exact ⟨es, clock, hb.trans h1, r⟩
theorem Ah.mlt (h : Ah w v o K s m N t b L D S Y) : m < v.heap.size := World.ownsMap.lt h.ow
theorem Ah.op {K' : Nat} {t' : Int} {L' : Nat → List Nat} (h : Ah w v o K s m N t b L D S Y) (hr : AxR w v v' o K' s t' b L' (fun k => k = m ∨ Y k)) : Ah w v' o K' s m N t' b L' D S Y :=
  ⟨hr.1, ownB_keep h.ow (hr.2.1 m (.inl rfl)), h.mb, h.ml, h.ym⟩
theorem Ah.below (h : Ah w v o K s m N t b L D S Y) (hb : Below v.heap.size v v') : Ah w v' o K s m N t b L D S Y :=
  ⟨h.ax.below' hb, ownB_keep h.ow (hb.block m h.mlt), h.mb, h.ml, h.ym⟩
/-- more blocks are set aside -/
theorem Ah.more {Y' : Nat → Prop} (h : Ah w v o K s m N t b L D S Y) (hb : Below v.heap.size v v') (hY : ∀ k, Y' k → Y k ∨ (v.heap.size ≤ k ∧ k < v'.heap.size)) : Ah w v' o K s m N t b L D S Y' :=
  ⟨(h.ax.below hb).only fun k hk => by
    rcases hk with hk | hk
    · exact .inl (.inl hk)
    · exact (hY k hk).imp .inr id, ownB_keep h.ow (hb.block m h.mlt), h.mb, h.ml, fun hm => by
    rcases hY m hm with h1 | h1
    · exact h.ym h1
    · have := h.mlt; omega⟩
theorem Ah.only {Y' : Nat → Prop} (h : Ah w v o K s m N t b L D S Y) (hY : ∀ k, Y' k → Y k) : Ah w v o K s m N t b L D S Y' :=
  ⟨h.ax.only fun k hk => hk.imp id (hY k), h.ow, h.mb, h.ml, fun hm => h.ym (hY m hm)⟩
/-- the map is turned -/
theorem Ah.turn {N' : Nat} {D' : DataW Unit} {S' : List Nat} (h : Ah w v o K s m N t b L D S Y) (hy : ∀ k, Y k → w.heap.size ≤ k) (ho : OwnB v' m N' D') (hk : Kp (fun k => k = m) v v') (hm : Mb D' S') : Ah w v' o K s m N' t b L D' S' Y :=
  ⟨(h.ax.aside hk (fun k _ e => by subst e; exact ⟨.inl rfl, h.ml⟩)).only fun k hk => .inl hk, ho, hm, h.ml, h.ym⟩
theorem kp_grownM {w v : World} {m : Nat} (h : w.grownBy v (some m)) : Kp (fun j => j = m) w v := by
  obtain ⟨e1, e2, e3, e4, e5⟩ := h
  refine ⟨?_, ?_, ?_, by omega, fun j hj hne => e5 j hj (by simpa using hne)⟩
  · first | exact e1 | exact e1.symm
  · first | exact e2 | exact e2.symm
  · first | exact e3 | exact e3.symm
/-- what lies aside lies as it lay -/
theorem Ah.aside (h : Ah w v o K s m N t b L D S Y) {K' : Nat} {t' : Int} {L' : Nat → List Nat} (hr : AxR w v v' o K' s t' b L' (fun k => k = m ∨ Y k)) {k : Nat} (hk : Y k) : v'.heap[k]? = v.heap[k]? := hr.2.1 k (.inr hk)
end
end Go.Proofs.Ytggimkfepcgaoaa.Arc
end
section
namespace Go.Proofs.Ytggimkfepcgaoaa.Arc
open Go Go.RowKit Kit Go.Maps Lnk Gho
/-- the rows of the four lists, in a row at block g, as long as block m2 alone is turned -/
structure Rf4 (V : World) (m2 g : Nat) (L : Nat → List Nat) (pp : Nat → Option Addr) (nn kk : Nat → Nat) : Prop where
  row : ∀ i, i < 4 → ∀ v, Kp (fun j => j = m2) V v → v.cell? ⟨g, i, none⟩ = some (.slice (pp i) (nn i) (kk i))
  len : ∀ i, i < 4 → (L i).length = nn i
  at_ : ∀ i, i < 4 → ∀ j y : Nat, (L i)[j]? = some y → ∃ ad, pp i = some ad ∧ ∀ v, Kp (fun j => j = m2) V v → v.cell? (ad.add j) = some (.int .u32 (y : Int))
theorem ru_rf {W V : World} {m2 : Nat} {p : Option Addr} {l : List Nat} (h : Ru W p (ints l)) (hb : Below W.heap.size W V) (hm : W.heap.size ≤ m2) : ∀ j y : Nat, l[j]? = some y → ∃ ad, p = some ad ∧ ∀ v, Kp (fun j => j = m2) V v → v.cell? (ad.add j) = some (.int .u32 (y : Int)) := fun j y hy => by
  obtain ⟨ad, rfl, h1, h2⟩ := h j (y : Int) (by unfold ints; rw [List.getElem?_map, hy]; rfl)
  refine ⟨ad, rfl, fun v hk => (World.cell?_of_block (a := ad.add j) ?_).trans h2⟩
  rw [add_block]
  exact (hk.block ad.block (Nat.lt_of_lt_of_le h1 hb.size) (by omega)).trans (hb.block ad.block h1)
theorem rf4_of {W V : World} {m2 g : Nat} {L : Nat → List Nat} {p0 p1 p2 p3 : Option Addr} {n0 n1 n2 n3 k0 k1 k2 k3 : Nat} (hr : Rows4 W L p0 p1 p2 p3) (hb : Below W.heap.size W V) (hm : W.heap.size ≤ m2) (hn : (L 0).length = n0 ∧ (L 1).length = n1 ∧ (L 2).length = n2 ∧ (L 3).length = n3) {ty : TypeId}
    (hx : V.heap[g]? = some (.cells #[.slice p0 n0 k0, .slice p1 n1 k1, .slice p2 n2 k2, .slice p3 n3 k3] ty (0, 0))) (hg : g ≠ m2) : ∃ pp nn kk, Rf4 V m2 g L pp nn kk := by
  have hgl := (Array.getElem?_eq_some_iff.1 hx).1
  refine ⟨fun i => match i with | 0 => p0 | 1 => p1 | 2 => p2 | _ => p3, fun i => match i with | 0 => n0 | 1 => n1 | 2 => n2 | _ => n3, fun i => match i with | 0 => k0 | 1 => k1 | 2 => k2 | _ => k3, fun i hi v hk => ?_, fun i hi => ?_, fun i hi => ?_⟩
  · have hv := (hk.block g hgl hg).trans hx
    match i, hi with
    | 0, _ => simp [World.cell?, hv]
    | 1, _ => simp [World.cell?, hv]
    | 2, _ => simp [World.cell?, hv]
    | 3, _ => simp [World.cell?, hv]
  · match i, hi with
    | 0, _ => exact hn.1
    | 1, _ => exact hn.2.1
    | 2, _ => exact hn.2.2.1
    | 3, _ => exact hn.2.2.2
  · match i, hi with
    | 0, _ => exact ru_rf hr.1 hb hm
    | 1, _ => exact ru_rf hr.2.1 hb hm
    | 2, _ => exact ru_rf hr.2.2.1 hb hm
    | 3, _ => exact ru_rf hr.2.2.2 hb hm
/-- the keys Q have come: the map of numbers at m2 -/
structure Tl (V v : World) (m2 B : Nat) (Q : List Nat) : Prop where
  kp : Kp (fun j => j = m2) V v
  mo : ∃ nm D, nm ≤ B ∧ v.ownsMap Try.prog 38 (plainElem Try.prog 3) m2 nm D ∧ Mi D (Q.map fun k => (k, 1))
/-- which keys have come: those of the lists before i, and the first j of list i -/
def Qm (L : Nat → List Nat) (i j : Nat) (Q : List Nat) : Prop := ∀ y, y ∈ Q ↔ (∃ i', i' < i ∧ y ∈ L i') ∨ y ∈ (L i).take j
theorem Qm.new {L : Nat → List Nat} {i j y : Nat} {Q : List Nat} (h : Qm L i j Q) (nd : Nd L) (hi : i < 4) (hy : (L i)[j]? = some y) : y ∉ Q := fun hq => by
  have hm := List.mem_of_getElem? hy
  rcases (h y).1 hq with ⟨i', h1, h2⟩ | h2
  · have := nd.two i' i y (by omega) hi h2 hm
    omega
  · have hn := nd.one i hi
    obtain ⟨hj, he⟩ := List.getElem?_eq_some_iff.1 hy
    obtain ⟨k, hk, hke⟩ := List.getElem_of_mem h2
    rw [List.length_take] at hk
    rw [List.getElem_take] at hke
    have := (List.getElem_inj hn).1 (hke.trans he.symm)
    omega
theorem Qm.next {L : Nat → List Nat} {i j y : Nat} {Q : List Nat} (h : Qm L i j Q) (hy : (L i)[j]? = some y) : Qm L i (j + 1) (y :: Q) := fun z => by
  rw [List.mem_cons, h z, List.take_add_one, hy, List.mem_append]
  simp only [Option.toList_some, List.mem_singleton]
  constructor
  · rintro (h | h | h)
    · exact .inr (.inr h)
    · exact .inl h
    · exact .inr (.inl h)
  · rintro (h | h | h)
    · exact .inr (.inl h)
    · exact .inr (.inr h)
    · exact .inl h
theorem Qm.end_ {L : Nat → List Nat} {i n : Nat} {Q : List Nat} (h : Qm L i n Q) (hn : (L i).length = n) : Qm L (i + 1) 0 Q := fun z => by
  rw [h z, List.take_of_length_le (by omega), List.take_zero]
  constructor
  · rintro (⟨i', h1, h2⟩ | h)
    · exact .inl ⟨i', by omega, h2⟩
    · exact .inl ⟨i, by omega, h⟩
  · rintro (⟨i', h1, h2⟩ | h)
    · rcases Nat.lt_or_ge i' i with h3 | h3
      · exact .inl ⟨i', h3, h2⟩
      · obtain rfl : i' = i := by omega
        exact .inr h2
    · cases h
theorem Qm.zero {L : Nat → List Nat} : Qm L 0 0 [] := fun z => by
  constructor
  · intro h; cases h
  · rintro (⟨i', h1, -⟩ | h)
    · omega
    · cases h
theorem Tl.zero {V v : World} {m2 B : Nat} {y : Nat} {Q : List Nat} (h : Tl V v m2 B Q) (hy : y < 4294967296) (hq : y ∉ Q) : (Instr.lookup 74 (.map (some m2)) (.int .u32 (y : Int)) false).run Try.prog v = .ok (.int .i64 0) v := by
  obtain ⟨nm, D, -, ho, hm⟩ := h.mo
  exact looki_zero ho hm hy fun n hn => hq (by obtain ⟨z, hz, e⟩ := List.mem_map.1 hn; cases e; exact hz)
theorem Tl.one {V v : World} {m2 B : Nat} {y : Nat} {Q : List Nat} (h : Tl V v m2 B Q) (hy : y < 4294967296) (hq : y ∈ Q) : (Instr.lookup 74 (.map (some m2)) (.int .u32 (y : Int)) false).run Try.prog v = .ok (.int .i64 1) v := by
  obtain ⟨nm, D, -, ho, hm⟩ := h.mo
  exact looki_one ho hm hy (List.mem_map.2 ⟨y, hq, rfl⟩)
theorem Tl.put {V v v' : World} {m2 B nm : Nat} {y : Nat} {Q : List Nat} {D : DataW Unit} (hk0 : Kp (fun j => j = m2) V v) (hm : Mi D (Q.map fun k => (k, 1))) (ht : Tidy D) (hq : y ∉ Q) (hk : Kp (fun j => j = m2) v v') (hB : nm ≤ B) (ho : v'.ownsMap Try.prog 38 (plainElem Try.prog 3) m2 nm (D.put (.int .u32 (y : Int)) (.lit (.int .i64 1)))) : Tl V v' m2 B (y :: Q) := by
  refine ⟨hk0.trans hk, nm, _, hB, ho, ?_⟩
  have h := hm.put ht y 1
  rw [wo_no (by
    intro h
    obtain ⟨⟨a, c⟩, h1, rfl⟩ := List.mem_map.1 h
    obtain ⟨z, hz, e⟩ := List.mem_map.1 h1
    cases e
    exact hq hz)] at h
  exact h
section
variable {w v v' : World} {o K s m N : Nat} {t : Int} {b : Nat → Nat} {L : Nat → List Nat} {D : DataW Unit} {S : List Nat} {Y : Nat → Prop}
/-- blocks set aside are turned -/
theorem Ah.keep {m2 : Nat} (h : Ah w v o K s m N t b L D S Y) (hk : Kp (fun j => j = m2) v v') (hY : Y m2) (hw : w.heap.size ≤ m2) : Ah w v' o K s m N t b L D S Y :=
  ⟨(h.ax.aside hk (fun k _ e => by subst e; exact ⟨.inr hY, hw⟩)).only fun k hk => .inl hk, ownB_keep h.ow (hk.block m h.mlt fun e => h.ym (e ▸ hY)), h.mb, h.ml, h.ym⟩
end
end Go.Proofs.Ytggimkfepcgaoaa.Arc
end
section
namespace Go.Proofs.Ytggimkfepcgaoaa.Arc
open Go Go.RowKit Kit Go.Maps Lnk Gho
/-- the zero reference, as cells -/
abbrev zc : Array Value := #[.int .i64 0, .slice none 0 0, .slice none 0 0, .slice none 0 0, .slice none 0 0, .int .i64 0]
/-- the reference, as cells -/
abbrev rc29 (s : Nat) (t : Int) (f : Nat → Value) : Array Value := #[.int .i64 (s : Int), f 0, f 1, f 2, f 3, .int .i64 t]
/-- the cache at o, the reference in the box rb, the box of the result behind it -/
structure Qn (XI : Nat → Prop) (wi w0 v : World) (o K s : Nat) (t : Int) (b : Nat → Nat) (L : Nat → List Nat) (X : Nat → Prop) (rb : Nat) (tr : Int) (Lr : Nat → List Nat) (f : Nat → Value) : Prop where
  ax : Ax w0 v o K s t b L X
  box : v.heap[rb]? = some (.cells (rc29 s tr f) 97 (0, 0))
  res : v.heap[rb + 1]? = some (.cells zc 97 (0, 0))
  rs : Rs v Lr f
  xr : X rb
  xs : X (rb + 1)
  lo : w0.heap.size ≤ rb
  ki : ∀ k, XI k → X k ∧ v.heap[k]? = wi.heap[k]? ∧ k < rb
  xf : ∀ i, i < 4 → ∀ p n c y, f i = .slice p n c → p = some y → X y.block ∧ y.block ≠ rb ∧ rb + 1 < y.block
/-- with the box of a call -/
structure Qg (XI : Nat → Prop) (wi w0 v : World) (o K s : Nat) (t : Int) (b : Nat → Nat) (L : Nat → List Nat) (X : Nat → Prop) (rb : Nat) (tr : Int) (Lr : Nat → List Nat) (f : Nat → Value) (bx : Nat) (what k : Int) : Prop where
  q : Qn XI wi w0 v o K s t b L X rb tr Lr f
  act : v.heap[bx]? = some (.cells #[.int .i64 what, .int .u32 k] 108 (0, 0))
  xb : X bx
  ne : bx ≠ rb ∧ bx ≠ rb + 1
section
variable {XI : Nat → Prop} {wi w0 v v' : World} {o K s : Nat} {t : Int} {b : Nat → Nat} {L : Nat → List Nat} {X : Nat → Prop} {rb : Nat} {tt : Int} {Lr : Nat → List Nat} {f : Nat → Value} {bx : Nat} {what k : Int}
theorem kp_x {h : Ax w0 v o K s t b L X} {o' K' s' : Nat} {t' : Int} {b' : Nat → Nat} {L' : Nat → List Nat} {X' : Nat → Prop} (h' : Ax w0 v' o' K' s' t' b' L' X') (hs : v.heap.size ≤ v'.heap.size) (hx : ∀ k, X k → v'.heap[k]? = v.heap[k]?) : Kp (fun j => ¬ X j) v v' :=
  ⟨h'.bl.os.trans h.bl.os.symm, h'.bl.tape.trans h.bl.tape.symm, h'.bl.output.trans h.bl.output.symm, hs, fun j _ hj => hx j (Classical.not_not.1 hj)⟩
theorem Qn.move {o' K' : Nat} {t' : Int} {b' : Nat → Nat} {L' : Nat → List Nat} (h : Qn XI wi w0 v o K s t b L X rb tt Lr f) (h' : Ax w0 v' o' K' s t' b' L' X) (hs : v.heap.size ≤ v'.heap.size) (hx : ∀ k, X k → v'.heap[k]? = v.heap[k]?) : Qn XI wi w0 v' o' K' s t' b' L' X rb tt Lr f :=
  ⟨h', (hx rb h.xr).trans h.box, (hx _ h.xs).trans h.res, fun i hi => (h.rs i hi).kp (kp_x (h := h.ax) h' hs hx) fun p n c hf y hy hn => hn (h.xf i hi p n c y hf hy).1, h.xr, h.xs, h.lo, fun k hk => ⟨(h.ki k hk).1, (hx k (h.ki k hk).1).trans (h.ki k hk).2.1, (h.ki k hk).2.2⟩, h.xf⟩
theorem Qg.move {o' K' : Nat} {t' : Int} {b' : Nat → Nat} {L' : Nat → List Nat} (h : Qg XI wi w0 v o K s t b L X rb tt Lr f bx what k) (h' : Ax w0 v' o' K' s t' b' L' X) (hs : v.heap.size ≤ v'.heap.size) (hx : ∀ k, X k → v'.heap[k]? = v.heap[k]?) : Qg XI wi w0 v' o' K' s t' b' L' X rb tt Lr f bx what k :=
  ⟨h.q.move h' hs hx, (hx _ h.xb).trans h.act, h.xb, h.ne⟩
/-- a step of the cache -/
theorem Qg.op {K' : Nat} {t' : Int} {L' : Nat → List Nat} (h : Qg XI wi w0 v o K s t b L X rb tt Lr f bx what k) (hr : AxR w0 v v' o K' s t' b L' X) : Qg XI wi w0 v' o K' s t' b L' X rb tt Lr f bx what k := h.move hr.1 hr.2.2 hr.2.1
theorem Qg.below (h : Qg XI wi w0 v o K s t b L X rb tt Lr f bx what k) (hb : Below v.heap.size v v') : Qg XI wi w0 v' o K s t b L X rb tt Lr f bx what k := h.move (h.q.ax.below' hb) hb.size fun k hk => hb.block k (h.q.ax.xlt k hk)
theorem Qn.below (h : Qn XI wi w0 v o K s t b L X rb tt Lr f) (hb : Below v.heap.size v v') : Qn XI wi w0 v' o K s t b L X rb tt Lr f := h.move (h.ax.below' hb) hb.size fun k hk => hb.block k (h.ax.xlt k hk)
theorem Qg.mono {K' : Nat} (h : Qg XI wi w0 v o K s t b L X rb tt Lr f bx what k) (hK : K ≤ K') : Qg XI wi w0 v o K' s t b L X rb tt Lr f bx what k := ⟨⟨h.q.ax.mono hK, h.q.box, h.q.res, h.q.rs, h.q.xr, h.q.xs, h.q.lo, h.q.ki, h.q.xf⟩, h.act, h.xb, h.ne⟩
theorem Qn.rlt (h : Qn XI wi w0 v o K s t b L X rb tt Lr f) : rb < v.heap.size ∧ rb + 1 < v.heap.size := ⟨(Array.getElem?_eq_some_iff.1 h.box).1, (Array.getElem?_eq_some_iff.1 h.res).1⟩
theorem Qg.blt (h : Qg XI wi w0 v o K s t b L X rb tt Lr f bx what k) : bx < v.heap.size := (Array.getElem?_eq_some_iff.1 h.act).1
theorem Qn.cells (h : Qn XI wi w0 v o K s t b L X rb tt Lr f) : v.cell? ⟨rb, 0, none⟩ = some (.int .i64 (s : Int)) ∧ v.cell? ⟨rb, 1, none⟩ = some (f 0) ∧ v.cell? ⟨rb, 2, none⟩ = some (f 1) ∧ v.cell? ⟨rb, 3, none⟩ = some (f 2) ∧ v.cell? ⟨rb, 4, none⟩ = some (f 3) ∧ v.cell? ⟨rb, 5, none⟩ = some (.int .i64 tt) ∧ ∀ j, v.frozen? ⟨rb, j, none⟩ = false := by
  have hx := h.box
  refine ⟨?_, ?_, ?_, ?_, ?_, ?_, fun j => ?_⟩ <;> simp [World.cell?, World.frozen?, hx, rc29]
theorem Qn.outs (h : Qn XI wi w0 v o K s t b L X rb tt Lr f) : v.cell? ⟨rb + 1, 0, none⟩ = some (.int .i64 0) ∧ v.cell? ⟨rb + 1, 1, none⟩ = some (.slice none 0 0) ∧ v.cell? ⟨rb + 1, 2, none⟩ = some (.slice none 0 0) ∧ v.cell? ⟨rb + 1, 3, none⟩ = some (.slice none 0 0) ∧ v.cell? ⟨rb + 1, 4, none⟩ = some (.slice none 0 0) ∧ v.cell? ⟨rb + 1, 5, none⟩ = some (.int .i64 0) ∧ ∀ j, v.frozen? ⟨rb + 1, j, none⟩ = false := by
  have hx := h.res
  refine ⟨?_, ?_, ?_, ?_, ?_, ?_, fun j => ?_⟩ <;> simp [World.cell?, World.frozen?, hx, zc]
theorem Qg.acts (h : Qg XI wi w0 v o K s t b L X rb tt Lr f bx what k) : v.cell? ⟨bx, 0, none⟩ = some (.int .i64 what) ∧ v.cell? ⟨bx, 1, none⟩ = some (.int .u32 k) := by
  have hx := h.act
  constructor <;> simp [World.cell?, hx]
/-- a call's box is made -/
theorem Qn.call (h : Qn XI wi w0 v o K s t b L X rb tt Lr f) (what k : Int) : ∃ X', Qg XI wi w0 (v.alloc (.cells #[.int .i64 what, .int .u32 k] 108)) o K s t b L X' rb tt Lr f v.heap.size what k := by
  have hb : Below v.heap.size v (v.alloc (.cells #[.int .i64 what, .int .u32 k] 108)) := by go_grown
  have hr := h.rlt
  have hb2 := h.below hb
  refine ⟨_, ⟨h.ax.below hb, hb2.box, hb2.res, hb2.rs, .inl h.xr, .inl h.xs, h.lo, fun k hk => ⟨.inl (h.ki k hk).1, (hb2.ki k hk).2⟩, fun i hi p n c y hf hy => ?_⟩, (MapKept.heap_alloc v _).1, .inr ⟨Nat.le_refl _, by rw [World.size_alloc]; omega⟩, by omega⟩
  have := h.xf i hi p n c y hf hy
  exact ⟨.inl this.1, this.2⟩
/-- the reference goes on: its new value is stored -/
theorem Qg.put {v8 v9 : World} {t' : Int} {L' : Nat → List Nat} {f' : Nat → Value} (h : Qg XI wi w0 v o K s t b L X rb tt Lr f bx what k) (r : Rs v8 L' f') (n : Nf v f f') (hb : Below v.heap.size v v8) (hb9 : Below v8.heap.size v8 v9) :
    ∃ X', Qg XI wi w0 ((((((v9.setCell ⟨rb, 0, none⟩ (.int .i64 (s : Int))).setCell ⟨rb, 1, none⟩ (f' 0)).setCell ⟨rb, 2, none⟩ (f' 1)).setCell ⟨rb, 3, none⟩ (f' 2)).setCell ⟨rb, 4, none⟩ (f' 3)).setCell ⟨rb, 5, none⟩ (.int .i64 t')) o K s t b L X' rb t' L' f' bx what k := by
  have hb79 := tr hb hb9
  have hs9 := hb9.size
  have hs8 := hb.size
  have hrl := h.q.rlt
  have h9 := h.below hb79
  obtain ⟨e, kk⟩ := sset (d0 := .int .i64 (s : Int)) (d1 := f' 0) (d2 := f' 1) (d3 := f' 2) (d4 := f' 3) (d5 := .int .i64 t') h9.q.box
  have ax := ((h.q.ax.below hb79).aside kk fun j _ hj => ⟨.inl (hj ▸ h.q.xr), hj ▸ h.q.lo⟩)
  have hsz := kk.size
  have hnew : ∀ i, i < 4 → ∀ p n c y, f' i = .slice p n c → p = some y → (X y.block ∧ y.block ≠ rb ∧ rb + 1 < y.block) ∨ (v.heap.size ≤ y.block ∧ y.block < v9.heap.size) := fun i hi p m c y hf hy => by
    rcases n i hi with e1 | e1
    · exact .inl (h.q.xf i hi p m c y (e1 ▸ hf) hy)
    · obtain ⟨p', n', c', g1, g2, g3, g4, g5⟩ := r i hi
      rw [hf] at g1
      cases g1
      exact .inr ⟨e1 p m c y hf hy, Nat.lt_of_lt_of_le (g5 y hy) hs9⟩
  refine ⟨_, ⟨ax, e, (kk.block _ (by omega) (by omega)).trans h9.q.res, fun i hi => ?_, .inl (.inl h.q.xr), .inl (.inl h.q.xs), h.q.lo, fun k hk => ⟨.inl (.inl (h.q.ki k hk).1), (kk.block k (Nat.lt_trans (h9.q.ki k hk).2.2 h9.q.rlt.1) (Nat.ne_of_lt (h9.q.ki k hk).2.2)).trans (h9.q.ki k hk).2.1, (h9.q.ki k hk).2.2⟩, fun i hi p m c y hf hy => ?_⟩, (kk.block _ (Nat.lt_of_lt_of_le h9.blt (Nat.le_refl _)) h.ne.1).trans h9.act, .inl (.inl h.xb), h.ne⟩
  · refine ((r i hi).below hb9).kp kk fun p m c hf y hy => ?_
    rcases hnew i hi p m c y hf hy with h1 | h1
    · exact h1.2.1
    · show ¬ y.block = rb
      omega
  · rcases hnew i hi p m c y hf hy with h1 | h1
    · exact ⟨.inl (.inl h1.1), h1.2⟩
    · exact ⟨.inl (.inr h1), by omega, by omega⟩
/-- a cache that goes on beside its copy -/
structure Dq (w0 w7 v : World) (o Ko s : Nat) (tz : Int) (b : Nat → Nat) (Lo : Nat → List Nat) (o' K : Nat) (t : Int) (b' : Nat → Nat) (L : Nat → List Nat) (lo : Nat) (X : Nat → Prop) : Prop where
  old : Ax w0 v o Ko s tz b Lo (fun k => X k ∨ (lo ≤ k ∧ k < w7.heap.size))
  nw : Ax w0 v o' K s t b' L (fun k => k < lo ∨ (w7.heap.size ≤ k ∧ k < v.heap.size))
  same : ∀ k, X k → v.heap[k]? = w7.heap[k]?
  le : w7.heap.size ≤ v.heap.size
  ll : lo ≤ w7.heap.size
  xl : ∀ k, X k → k < lo
theorem Dq.op {w7 : World} {Ko Ko' lo o' : Nat} {tz tz' : Int} {b' : Nat → Nat} {Lo Lo' : Nat → List Nat} (h : Dq w0 w7 v o Ko s tz b Lo o' K t b' L lo X) (hr : AxR w0 v v' o Ko' s tz' b Lo' (fun k => X k ∨ (lo ≤ k ∧ k < w7.heap.size))) : Dq w0 w7 v' o Ko' s tz' b Lo' o' K t b' L lo X := by
  obtain ⟨h1, h2, h3⟩ := hr
  have hb1 := h1.bl
  have hb0 := h.old.bl
  have hs0 := hb0.size
  have hk : Kp (fun k => w0.heap.size ≤ k ∧ ¬ (X k ∨ (lo ≤ k ∧ k < w7.heap.size))) v v' := ⟨hb1.os.trans hb0.os.symm, hb1.tape.trans hb0.tape.symm, hb1.output.trans hb0.output.symm, h3, fun k hk hn => by
    by_cases hlt : k < w0.heap.size
    · exact (hb1.block k hlt).trans (hb0.block k hlt).symm
    · exact h2 k (Classical.not_not.1 fun hx => hn ⟨by omega, hx⟩)⟩
  have hle := h.le
  have hll := h.ll
  refine ⟨h1, (h.nw.aside hk (fun k hlt hb => ⟨?_, hb.1⟩)).only fun k hx => ?_, fun k hx => (h2 k (.inl hx)).trans (h.same k hx), by omega, h.ll, h.xl⟩
  · by_cases hkl : k < lo
    · exact .inl hkl
    · refine .inr ⟨?_, hlt⟩
      rcases Nat.lt_or_ge k w7.heap.size with h7 | h7
      · exact absurd (.inr ⟨by omega, h7⟩) hb.2
      · exact h7
  · rcases hx with hx | hx
    · exact .inl (.inl hx)
    · by_cases hlt : k < v.heap.size
      · exact .inl (.inr ⟨hx.1, hlt⟩)
      · exact .inr ⟨by omega, hx.2⟩
theorem Dq.start {w6 w7 : World} {o' : Nat} {b' : Nat → Nat} (h : Ax w0 w6 o K s t b L X) (hb : Below w6.heap.size w6 w7) (hc : Ax w0 w7 o' K s t b' L (fun k => k < w6.heap.size)) : Dq w0 w7 w7 o K s t b L o' K t b' L w6.heap.size X :=
  ⟨h.below hb, hc.only fun k hk => (by rcases hk with hk | hk; exact hk; omega), fun _ _ => rfl, Nat.le_refl _, hb.size, h.xlt⟩
/-- the copy takes the cache's place -/
theorem Qg.copied {w7 : World} {Ko lo o' : Nat} {tz : Int} {b' : Nat → Nat} {Lo : Nat → List Nat} (h : Qg XI wi w0 w7 o K s t b L X rb tt Lr f bx what k) (hd : Dq w0 w7 v o Ko s tz b Lo o' K t b' L lo X) : Qg XI wi w0 v o' K s t b' L X rb tt Lr f bx what k :=
  h.move (hd.nw.only fun j hj => .inl (hd.xl j hj)) hd.le hd.same
/-- the reference is stored as the result -/
theorem Qn.fin (h : Qn XI wi w0 v o K s t b L X rb tt Lr f) : ∃ X', Ax w0 ((((((v.setCell ⟨rb + 1, 0, none⟩ (.int .i64 (s : Int))).setCell ⟨rb + 1, 1, none⟩ (f 0)).setCell ⟨rb + 1, 2, none⟩ (f 1)).setCell ⟨rb + 1, 3, none⟩ (f 2)).setCell ⟨rb + 1, 4, none⟩ (f 3)).setCell ⟨rb + 1, 5, none⟩ (.int .i64 tt)) o K s t b L X' ∧
    Rs ((((((v.setCell ⟨rb + 1, 0, none⟩ (.int .i64 (s : Int))).setCell ⟨rb + 1, 1, none⟩ (f 0)).setCell ⟨rb + 1, 2, none⟩ (f 1)).setCell ⟨rb + 1, 3, none⟩ (f 2)).setCell ⟨rb + 1, 4, none⟩ (f 3)).setCell ⟨rb + 1, 5, none⟩ (.int .i64 tt)) Lr f ∧
    ((((((v.setCell ⟨rb + 1, 0, none⟩ (.int .i64 (s : Int))).setCell ⟨rb + 1, 1, none⟩ (f 0)).setCell ⟨rb + 1, 2, none⟩ (f 1)).setCell ⟨rb + 1, 3, none⟩ (f 2)).setCell ⟨rb + 1, 4, none⟩ (f 3)).setCell ⟨rb + 1, 5, none⟩ (.int .i64 tt)).heap[rb + 1]? = some (.cells (rc29 s tt f) 97 (0, 0)) ∧ ∀ k, XI k → X' k ∧ ((((((v.setCell ⟨rb + 1, 0, none⟩ (.int .i64 (s : Int))).setCell ⟨rb + 1, 1, none⟩ (f 0)).setCell ⟨rb + 1, 2, none⟩ (f 1)).setCell ⟨rb + 1, 3, none⟩ (f 2)).setCell ⟨rb + 1, 4, none⟩ (f 3)).setCell ⟨rb + 1, 5, none⟩ (.int .i64 tt)).heap[k]? = wi.heap[k]? := by
  obtain ⟨e, kk⟩ := sset (d0 := .int .i64 (s : Int)) (d1 := f 0) (d2 := f 1) (d3 := f 2) (d4 := f 3) (d5 := .int .i64 tt) h.res
  have hlo := h.lo
  refine ⟨_, h.ax.aside kk fun j _ hj => ⟨hj ▸ h.xs, by subst hj; omega⟩, fun i hi => (h.rs i hi).kp kk fun p n c hf y hy => Nat.ne_of_gt (h.xf i hi p n c y hf hy).2.2, e, fun k hk => ⟨.inl (h.ki k hk).1, (kk.block k (Nat.lt_trans (h.ki k hk).2.2 h.rlt.1) (by show ¬ k = rb + 1; have := (h.ki k hk).2.2; omega)).trans (h.ki k hk).2.1⟩⟩
end
end Go.Proofs.Ytggimkfepcgaoaa.Arc
end
