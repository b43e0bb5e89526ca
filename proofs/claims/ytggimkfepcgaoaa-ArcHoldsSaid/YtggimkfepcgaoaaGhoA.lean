/-
  Ghost lists (layer 28): the map of the nodes; the object.
-/
import Derived.Test.YtggimkfepcgaoaaLnkI
import Derived.Test.YtggimkfepcgaoaaLnkJ
import Derived.Test.YtggimkfepcgaoaaLnkBc
import Derived.Test.YtggimkfepcgaoaaApp
import Derived.Maps.OwnSet
set_option linter.unusedVariables false
set_option linter.unusedSimpArgs false
namespace Go.Proofs.Ytggimkfepcgaoaa.Gho
open Go Go.RowKit Kit Go.Maps Lnk
/-- a map of numbers, by its entries -/
structure Mf (D : DataW Unit) (S : List (Nat × Nat)) : Prop where
  at_ : ∀ k n, (k, n) ∈ S → has D (.int .u32 (k : Int)) = true ∧ ∀ z, D.atKey (.int .u32 (k : Int)) z = .lit (.int .u32 (n : Int))
  no : ∀ k : Nat, (∀ n, (k, n) ∉ S) → has D (.int .u32 (k : Int)) = false
  size : Maps.size D = S.length
  nd : (S.map Prod.fst).Nodup
theorem key_ne {k k' : Nat} (h : k' ≠ k) : (Lit.int .u32 (k' : Int)) ≠ (Lit.int .u32 (k : Int)) := fun e => h (by injection e with e1 e2; omega)
theorem Mf.nil : Mf (.map []) [] := ⟨fun k n h => (by cases h), fun k _ => rfl, rfl, List.nodup_nil⟩
theorem Mf.perm {D : DataW Unit} {S S' : List (Nat × Nat)} (h : Mf D S) (p : S.Perm S') : Mf D S' :=
  ⟨fun k n hm => h.at_ k n (p.mem_iff.2 hm), fun k hk => h.no k fun n hn => hk n (p.mem_iff.1 hn), h.size.trans p.length_eq, (p.map Prod.fst).nodup_iff.1 h.nd⟩
theorem Mf.put {D : DataW Unit} {S : List (Nat × Nat)} (h : Mf D S) (ht : Tidy D) {k n : Nat} (hn : ∀ n, (k, n) ∉ S) : Mf (D.put (.int .u32 (k : Int)) (.lit (.int .u32 (n : Int)))) ((k, n) :: S) := by
  have hkl : WideAt.IsKeyLit (Lit.int .u32 (k : Int)) := by trivial
  refine ⟨fun k' n' hm => ?_, fun k' hk' => ?_, ?_, ?_⟩
  · rcases List.mem_cons.1 hm with e | hm2
    · cases e
      exact ⟨has_put_same ht.isMap hkl _, fun z => atKey_put_same ht.isMap hkl _ z⟩
    · have hkk : k' ≠ k := by rintro rfl; exact hn n' hm2
      obtain ⟨a1, a2⟩ := h.at_ k' n' hm2
      exact ⟨by rw [has_put_other (key_ne hkk)]; exact a1, fun z => by rw [atKey_put_other (key_ne hkk)]; exact a2 z⟩
  · have hkk : k' ≠ k := by rintro rfl; exact hk' n (List.mem_cons_self ..)
    rw [has_put_other (key_ne hkk)]
    exact h.no k' fun n' hn' => hk' n' (List.mem_cons_of_mem _ hn')
  · rw [size_put ht, h.no k hn, h.size]
    simp
  · rw [List.map_cons]
    exact List.nodup_cons.2 ⟨fun hm => by obtain ⟨⟨a, b⟩, hm2, e⟩ := List.mem_map.1 hm; cases e; exact hn b hm2, h.nd⟩
theorem Mf.del {D : DataW Unit} {S S' : List (Nat × Nat)} (h : Mf D S) (ht : Tidy D) {k n : Nat} (p : S.Perm ((k, n) :: S')) : Mf (D.del (.int .u32 (k : Int))) S' := by
  have h' := h.perm p
  have hnd := List.nodup_cons.1 (by simpa using h'.nd : (k :: S'.map Prod.fst).Nodup)
  refine ⟨fun k' n' hm => ?_, fun k' hk' => ?_, ?_, hnd.2⟩
  · have hkk : k' ≠ k := by rintro rfl; exact hnd.1 (List.mem_map.2 ⟨_, hm, rfl⟩)
    obtain ⟨a1, a2⟩ := h'.at_ k' n' (List.mem_cons_of_mem _ hm)
    exact ⟨by rw [has_del_other (key_ne hkk)]; exact a1, fun z => by rw [atKey_del_other (key_ne hkk)]; exact a2 z⟩
  · by_cases hkk : k' = k
    · subst hkk
      exact has_del_same
    · rw [has_del_other (key_ne hkk)]
      refine h'.no k' fun n' hn' => ?_
      rcases List.mem_cons.1 hn' with e | hm
      · cases e; exact hkk rfl
      · exact hk' n' hm
  · have h1 := size_del ht (k := .int .u32 (k : Int))
    rw [(h'.at_ k n (List.mem_cons_self ..)).1, h'.size] at h1
    simp at h1
    omega
theorem und_map : Try.prog.underlying 153 = some (.map 38 38) := by kernel_rfl
theorem und_u32 : Try.prog.underlying 38 = some (.int .u32) := by kernel_rfl
theorem wf32 {k : Nat} (h1 : k < 4294967296) : (Lit.int .u32 (k : Int)).wf = true := by
  show (decide ((0 : Int) ≤ (k : Int)) && decide ((k : Int) ≤ 4294967295)) = true
  simp
  omega
set_option maxRecDepth 100000
/-- what a look-up gives -/
theorem look_in {W : World} {m N : Nat} {D : DataW Unit} {S : List (Nat × Nat)} (h3 : W.ownsMap Try.prog 38 (plainElem Try.prog 38) m N D) (h4 : Mf D S) {k n : Nat} (hk : k < 4294967296) (hm : (k, n) ∈ S) :
    (Instr.lookup 153 (.map (some m)) (.int .u32 (k : Int)) true).run Try.prog W = .ok (.tuple #[.int .u32 (n : Int), .bool true]) W := by
  have K := Maps.int_keyed (P := Try.prog) und_u32
  have hkey := Maps.keyOf_int_mk (P := Try.prog) und_u32 (wf32 hk)
  have hz : (zeroValue 38).run Try.prog W = .ok (.int .u32 0) W := by kernel_rfl
  obtain ⟨v, ps, hrun, hR⟩ := h3.look_ok K und_map hz (plainElem_int und_u32 (by decide)) hkey
  obtain ⟨c, rfl, hc, -⟩ := plainElem_int_inv und_u32 hR
  obtain ⟨hh, ha⟩ := h4.at_ k n hm
  have h1 := ha (.lit (.int .u32 0))
  have h2 := congrArg Prod.fst hc
  simp only at h2
  rw [h1] at h2
  injection h2 with h2
  injection h2 with _ h2
  rw [hrun, hh, h2]
theorem look_no {W : World} {m N : Nat} {D : DataW Unit} {S : List (Nat × Nat)} (h3 : W.ownsMap Try.prog 38 (plainElem Try.prog 38) m N D) (h4 : Mf D S) {k : Nat} (hk : k < 4294967296) (hm : ∀ n, (k, n) ∉ S) :
    ∃ v : Int, (Instr.lookup 153 (.map (some m)) (.int .u32 (k : Int)) true).run Try.prog W = .ok (.tuple #[.int .u32 v, .bool false]) W := by
  have K := Maps.int_keyed (P := Try.prog) und_u32
  have hkey := Maps.keyOf_int_mk (P := Try.prog) und_u32 (wf32 hk)
  have hz : (zeroValue 38).run Try.prog W = .ok (.int .u32 0) W := by kernel_rfl
  obtain ⟨v, ps, hrun, hR⟩ := h3.look_ok K und_map hz (plainElem_int und_u32 (by decide)) hkey
  obtain ⟨c, rfl, hc, -⟩ := plainElem_int_inv und_u32 hR
  exact ⟨c, by rw [hrun, h4.no k hm]⟩
/-- the key of a node; the keys of a list -/
def ky (KL : List Nat) (n : Nat) : Nat := KL[n]?.getD 0
def kys (KL L : List Nat) : List Nat := L.map (ky KL)
def ent (KL L : List Nat) : List (Nat × Nat) := L.map fun n => (ky KL n, n)
/-- blocks of a ghost list -/
def Obg (b c q r g m : Nat) : Nat → Prop := fun k => k = b ∨ Ob c q r k ∨ k = g ∨ k = m
/-- a ghost list: its block b, its field at c, q, r, its keys at g, its map at m; the nodes in order, the free ones, the keys of the nodes -/
structure Gh (w : World) (b c q r cq cr N : Nat) (F : Lnk.Fd) (g kc m nm : Nat) (D : DataW Unit) (most : Int) (L fr KL : List Nat) : Prop where
  ob : w.heap[b]? = some (.cells #[.int .i64 most, .pointer (some ⟨c, 0, none⟩), .slice (some ⟨g, 0, none⟩) N kc, .map (some m)] 155 (0, 0))
  lo : Lo w c q r cq cr N F [L, fr]
  ks : w.ownsRow 0 38 1 (.slice (some ⟨g, 0, none⟩) N kc) N ((ints KL).map (Value.int .u32))
  kl : KL.length = N
  kw : ∀ k ∈ KL, k < 4294967296
  mp : w.ownsMap Try.prog 38 (plainElem Try.prog 38) m nm D
  mf : Mf D (ent KL L)
  pt : ∀ n, n < N → n ∈ L ∨ n ∈ fr
  db : b ≠ c ∧ b ≠ q ∧ b ≠ r ∧ b ≠ g ∧ b ≠ m
  dg : g ≠ c ∧ g ≠ q ∧ g ≠ r ∧ g ≠ m
  dm : m ≠ c ∧ m ≠ q ∧ m ≠ r
section
variable {w w' : World} {b c q r cq cr N : Nat} {F : Lnk.Fd} {g kc m nm : Nat} {D : DataW Unit} {most : Int} {L fr KL : List Nat}
theorem Gh.lt (H : Gh w b c q r cq cr N F g kc m nm D most L fr KL) : b < w.heap.size ∧ c < w.heap.size ∧ q < w.heap.size ∧ r < w.heap.size ∧ g < w.heap.size ∧ m < w.heap.size :=
  ⟨(Array.getElem?_eq_some_iff.1 H.ob).1, H.lo.lt.1, H.lo.lt.2.1, H.lo.lt.2.2, (H.ks.lt g rfl).2, World.ownsMap.lt H.mp⟩
theorem Gh.blk (H : Gh w b c q r cq cr N F g kc m nm D most L fr KL) {k : Nat} (hk : Obg b c q r g m k) : k < w.heap.size := by
  obtain ⟨h1, h2, h3, h4, h5, h6⟩ := H.lt
  rcases hk with rfl | (rfl | rfl | rfl) | rfl | rfl <;> assumption
theorem own_of {w w' : World} {B : Nat} {e : TypeId} {g n k : Nat} {xs : List Value} (h : w.ownsRow B e 1 (.slice (some ⟨g, 0, none⟩) n k) n xs) (e' : w'.heap[g]? = w.heap[g]?) : w'.ownsRow B e 1 (.slice (some ⟨g, 0, none⟩) n k) n xs := by
  obtain ⟨h0, ⟨hv, hn⟩ | ⟨g', cap, cur, hv, hb, hg, hr⟩⟩ := h
  · cases hv
  · cases hv
    exact ⟨h0, .inr ⟨g, k, cur, rfl, hb, e'.trans hg, hr⟩⟩
theorem map_of {w w' : World} {P : Program} {k : TypeId} {R : Value → Option (DataW Unit × List MemPlace)} {m N : Nat} {D : DataW Unit} (h : w.ownsMap P k R m N D) (hb : w'.heap[m]? = w.heap[m]?) : w'.ownsMap P k R m N D := by
  obtain ⟨es, clock, h1, r⟩ := h
  exact ⟨es, clock, hb.trans h1, r⟩
theorem Gh.of (H : Gh w b c q r cq cr N F g kc m nm D most L fr KL) (hb : ∀ k, Obg b c q r g m k → w'.heap[k]? = w.heap[k]?) : Gh w' b c q r cq cr N F g kc m nm D most L fr KL :=
  ⟨(hb b (.inl rfl)).trans H.ob, H.lo.of fun k hk => hb k (.inr (.inl hk)), own_of H.ks (hb g (.inr (.inr (.inl rfl)))), H.kl, H.kw, map_of H.mp (hb m (.inr (.inr (.inr rfl)))), H.mf, H.pt, H.db, H.dg, H.dm⟩
theorem Gh.below (H : Gh w b c q r cq cr N F g kc m nm D most L fr KL) (hb : Below w.heap.size w w') : Gh w' b c q r cq cr N F g kc m nm D most L fr KL :=
  H.of fun k hk => hb.block k (H.blk hk)
theorem Gh.cells (H : Gh w b c q r cq cr N F g kc m nm D most L fr KL) : w.cell? ⟨b, 0, none⟩ = some (.int .i64 most) ∧ w.cell? ⟨b, 1, none⟩ = some (.pointer (some ⟨c, 0, none⟩)) ∧ w.cell? ⟨b, 2, none⟩ = some (.slice (some ⟨g, 0, none⟩) N kc) ∧ w.cell? ⟨b, 3, none⟩ = some (.map (some m)) ∧ ∀ j, w.frozen? ⟨b, j, none⟩ = false := by
  have h1 := H.ob
  refine ⟨?_, ?_, ?_, ?_, fun j => ?_⟩ <;> simp [World.cell?, World.frozen?, h1]
theorem ent_mem {KL L : List Nat} {k n : Nat} : (k, n) ∈ ent KL L ↔ n ∈ L ∧ ky KL n = k := by
  unfold ent
  rw [List.mem_map]
  constructor
  · rintro ⟨x, h1, h2⟩; cases h2; exact ⟨h1, rfl⟩
  · rintro ⟨h1, rfl⟩; exact ⟨n, h1, rfl⟩
theorem ent_fst (KL L : List Nat) : (ent KL L).map Prod.fst = kys KL L := by unfold ent kys; rw [List.map_map]; rfl
theorem Gh.knd (H : Gh w b c q r cq cr N F g kc m nm D most L fr KL) : (kys KL L).Nodup := by rw [← ent_fst]; exact H.mf.nd
theorem Gh.nodeLt (H : Gh w b c q r cq cr N F g kc m nm D most L fr KL) {n : Nat} (hn : n ∈ L) : n < N := (H.lo.ring.mem 0 L n rfl hn).1
theorem Gh.kyLt (H : Gh w b c q r cq cr N F g kc m nm D most L fr KL) (n : Nat) : ky KL n < 4294967296 := by
  unfold ky
  cases h : KL[n]? with
  | none => show (0 : Nat) < _; omega
  | some k => exact H.kw k (List.mem_of_getElem? h)
/-- the node of a key that is there -/
theorem Gh.node (H : Gh w b c q r cq cr N F g kc m nm D most L fr KL) {k : Nat} (hk : k ∈ kys KL L) : ∃ n L1 L2, L = L1 ++ n :: L2 ∧ ky KL n = k ∧ (k, n) ∈ ent KL L := by
  obtain ⟨n, hn, e⟩ := List.mem_map.1 hk
  obtain ⟨L1, L2, e2⟩ := List.append_of_mem hn
  exact ⟨n, L1, L2, e2, e, ent_mem.2 ⟨hn, e⟩⟩
/-- what an operation leaves -/
def GhR (w w' : World) (b c q r g m nm B : Nat) (most : Int) (keys : List Nat) : Prop := ∃ q' r' cq cr N F g' kc D L fr KL, Gh w' b c q' r' cq cr N F g' kc m nm D most L fr KL ∧ kys KL L = keys ∧ (q' = q ∨ w.heap.size ≤ q') ∧ (r' = r ∨ w.heap.size ≤ r') ∧ (g' = g ∨ w.heap.size ≤ g') ∧ N ≤ B ∧ Kp (Obg b c q r g m) w w'
theorem GhR.same (H : Gh w b c q r cq cr N F g kc m nm D most L fr KL) (hb : Below w.heap.size w w') {B : Nat} (hB : N ≤ B) : GhR w w' b c q r g m nm B most (kys KL L) :=
  ⟨q, r, cq, cr, N, F, g, kc, D, L, fr, KL, H.below hb, rfl, .inl rfl, .inl rfl, .inl rfl, hB, Kp.of hb⟩
end
end Go.Proofs.Ytggimkfepcgaoaa.Gho
