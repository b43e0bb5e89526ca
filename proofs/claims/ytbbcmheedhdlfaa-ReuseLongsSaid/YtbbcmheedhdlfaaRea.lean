/-
  Texts in one: Map, ReuA, ReuB, ReuC, ReuD, ReuE.
-/
import Derived.Test.YtbbcmheedhdlfaaLnkI
import Derived.Test.YtbbcmheedhdlfaaApp
import Derived.Maps.OwnSet
import Derived.Test.YtbbcmheedhdlfaaLruD
import Derived.Test.YtbbcmheedhdlfaaLnkDa
set_option linter.unusedVariables false
set_option linter.unusedSimpArgs false
namespace Go.Proofs.Ytbbcmheedhdlfaa.Reu
open Go Go.RowKit Kit Go.Maps Lnk
/-- a map of numbers, by its entries -/
structure Mf (D : DataW Unit) (S : List (Nat × Nat)) : Prop where
  at_ : ∀ k n, (k, n) ∈ S → has D (.int .u32 (k : Int)) = true ∧ ∀ z, D.atKey (.int .u32 (k : Int)) z = .lit (.int .u32 (n : Int))
  no : ∀ k : Nat, (∀ n, (k, n) ∉ S) → has D (.int .u32 (k : Int)) = false
  size : Maps.size D = S.length
  nd : (S.map Prod.fst).Nodup
theorem key_ne {k k' : Nat} (h : k' ≠ k) : (Lit.int .u32 (k' : Int)) ≠ (Lit.int .u32 (k : Int)) := fun e => h (by injection e with e1 e2; omega)
theorem Mf.nil : Mf (.map []) [] := ⟨fun k n h => (by cases h), fun k _ => rfl, rfl, List.nodup_nil⟩
theorem Mf.perm {D : DataW Unit} {S S' : List (Nat × Nat)} (h : Mf D S) (p : S.Perm S') : Mf D S' :=
  ⟨fun k n hm => h.at_ k n (p.mem_iff.2 hm), fun k hk => h.no k fun n hn => hk n (p.mem_iff.1 hn), h.size.trans p.length_eq, (p.map Prod.fst).nodup_iff.1 h.nd⟩
theorem Mf.put {D : DataW Unit} {S : List (Nat × Nat)} (h : Mf D S) (ht : Tidy D) {k n : Nat} (hn : ∀ n, (k, n) ∉ S) : Mf (D.put (.int .u32 (k : Int)) (.lit (.int .u32 (n : Int)))) ((k, n) :: S) := by
  have hkl : WideAt.IsKeyLit (Lit.int .u32 (k : Int)) := by trivial
  refine ⟨fun k' n' hm => ?_, fun k' hk' => ?_, ?_, ?_⟩
  · rcases List.mem_cons.1 hm with e | hm2
    · cases e
      exact ⟨has_put_same ht.isMap hkl _, fun z => atKey_put_same ht.isMap hkl _ z⟩
    · have hkk : k' ≠ k := by rintro rfl; exact hn n' hm2
      obtain ⟨a1, a2⟩ := h.at_ k' n' hm2
      exact ⟨by rw [has_put_other (key_ne hkk)]; exact a1, fun z => by rw [atKey_put_other (key_ne hkk)]; exact a2 z⟩
  · have hkk : k' ≠ k := by rintro rfl; exact hk' n (List.mem_cons_self ..)
    rw [has_put_other (key_ne hkk)]
    exact h.no k' fun n' hn' => hk' n' (List.mem_cons_of_mem _ hn')
  · rw [size_put ht, h.no k hn, h.size]
    simp
  · rw [List.map_cons]
    exact List.nodup_cons.2 ⟨fun hm => by obtain ⟨⟨a, b⟩, hm2, e⟩ := List.mem_map.1 hm; cases e; exact hn b hm2, h.nd⟩
theorem Mf.del {D : DataW Unit} {S S' : List (Nat × Nat)} (h : Mf D S) (ht : Tidy D) {k n : Nat} (p : S.Perm ((k, n) :: S')) : Mf (D.del (.int .u32 (k : Int))) S' := by
  have h' := h.perm p
  have hnd := List.nodup_cons.1 (by simpa using h'.nd : (k :: S'.map Prod.fst).Nodup)
  refine ⟨fun k' n' hm => ?_, fun k' hk' => ?_, ?_, hnd.2⟩
  · have hkk : k' ≠ k := by rintro rfl; exact hnd.1 (List.mem_map.2 ⟨_, hm, rfl⟩)
    obtain ⟨a1, a2⟩ := h'.at_ k' n' (List.mem_cons_of_mem _ hm)
    exact ⟨by rw [has_del_other (key_ne hkk)]; exact a1, fun z => by rw [atKey_del_other (key_ne hkk)]; exact a2 z⟩
  · by_cases hkk : k' = k
    · subst hkk
      exact has_del_same
    · rw [has_del_other (key_ne hkk)]
      refine h'.no k' fun n' hn' => ?_
      rcases List.mem_cons.1 hn' with e | hm
      · cases e; exact hkk rfl
      · exact hk' n' hm
  · have h1 := size_del ht (k := .int .u32 (k : Int))
    rw [(h'.at_ k n (List.mem_cons_self ..)).1, h'.size] at h1
    simp at h1
    omega
theorem und_map : Try.prog.underlying 123 = some (.map 38 38) := by kernel_rfl
theorem und_u32 : Try.prog.underlying 38 = some (.int .u32) := by kernel_rfl
theorem wf32 {k : Nat} (h1 : k < 4294967296) : (Lit.int .u32 (k : Int)).wf = true := by
  show (decide ((0 : Int) ≤ (k : Int)) && decide ((k : Int) ≤ 4294967295)) = true
  simp
  omega
set_option maxRecDepth 100000
/-- what a look-up gives -/
theorem look_in {W : World} {m N : Nat} {D : DataW Unit} {S : List (Nat × Nat)} (h3 : W.ownsMap Try.prog 38 (plainElem Try.prog 38) m N D) (h4 : Mf D S) {k n : Nat} (hk : k < 4294967296) (hm : (k, n) ∈ S) :
    (Instr.lookup 123 (.map (some m)) (.int .u32 (k : Int)) true).run Try.prog W = .ok (.tuple #[.int .u32 (n : Int), .bool true]) W := by
  have K := Maps.int_keyed (P := Try.prog) und_u32
  have hkey := Maps.keyOf_int_mk (P := Try.prog) und_u32 (wf32 hk)
  have hz : (zeroValue 38).run Try.prog W = .ok (.int .u32 0) W := by kernel_rfl
  obtain ⟨v, ps, hrun, hR⟩ := h3.look_ok K und_map hz (plainElem_int und_u32 (by decide)) hkey
  obtain ⟨c, rfl, hc, -⟩ := plainElem_int_inv und_u32 hR
  obtain ⟨hh, ha⟩ := h4.at_ k n hm
  have h1 := ha (.lit (.int .u32 0))
  have h2 := congrArg Prod.fst hc
  simp only at h2
  rw [h1] at h2
  injection h2 with h2
  injection h2 with _ h2
  rw [hrun, hh, h2]
theorem look_no {W : World} {m N : Nat} {D : DataW Unit} {S : List (Nat × Nat)} (h3 : W.ownsMap Try.prog 38 (plainElem Try.prog 38) m N D) (h4 : Mf D S) {k : Nat} (hk : k < 4294967296) (hm : ∀ n, (k, n) ∉ S) :
    ∃ v : Int, (Instr.lookup 123 (.map (some m)) (.int .u32 (k : Int)) true).run Try.prog W = .ok (.tuple #[.int .u32 v, .bool false]) W := by
  have K := Maps.int_keyed (P := Try.prog) und_u32
  have hkey := Maps.keyOf_int_mk (P := Try.prog) und_u32 (wf32 hk)
  have hz : (zeroValue 38).run Try.prog W = .ok (.int .u32 0) W := by kernel_rfl
  obtain ⟨v, ps, hrun, hR⟩ := h3.look_ok K und_map hz (plainElem_int und_u32 (by decide)) hkey
  obtain ⟨c, rfl, hc, -⟩ := plainElem_int_inv und_u32 hR
  exact ⟨c, by rw [hrun, h4.no k hm]⟩
/-- the key of a node; the keys of a list -/
def ky (KL : List Nat) (n : Nat) : Nat := KL[n]?.getD 0
def kys (KL L : List Nat) : List Nat := L.map (ky KL)
def ent (KL L : List Nat) : List (Nat × Nat) := L.map fun n => (ky KL n, n)
theorem map_of {w w' : World} {P : Program} {k : TypeId} {R : Value → Option (DataW Unit × List MemPlace)} {m N : Nat} {D : DataW Unit} (h : w.ownsMap P k R m N D) (hb : w'.heap[m]? = w.heap[m]?) : w'.ownsMap P k R m N D := by
  obtain ⟨es, clock, h1, r⟩ := h
  exact ⟨es, clock, hb.trans h1, r⟩
theorem ent_mem {KL L : List Nat} {k n : Nat} : (k, n) ∈ ent KL L ↔ n ∈ L ∧ ky KL n = k := by
  unfold ent
  rw [List.mem_map]
  constructor
  · rintro ⟨x, h1, h2⟩; cases h2; exact ⟨h1, rfl⟩
  · rintro ⟨h1, rfl⟩; exact ⟨n, h1, rfl⟩
theorem ent_fst (KL L : List Nat) : (ent KL L).map Prod.fst = kys KL L := by unfold ent kys; rw [List.map_map]; rfl
end Go.Proofs.Ytbbcmheedhdlfaa.Reu
namespace Go.Proofs.Ytbbcmheedhdlfaa.Reu
open Go Go.RowKit Kit Go.Maps Lnk Lru
/-- what a request leaves; its distance -/
def nxt (D : List Nat) (k : Nat) : List Nat := D.erase k ++ [k]
def dist (D : List Nat) (k : Nat) : Int := if k ∈ D then (D.length : Int) - 1 - (D.idxOf k : Int) else -1
/-- blocks of a stack, its row of keys aside -/
def Ob7 (o u c q r m : Nat) : Nat → Prop := fun k => k = o ∨ Ob4 u c q r k ∨ k = m
/-- a stack: its block o, its list at u, its keys in kv, its map at m -/
structure Sk (w : World) (o u c q r cq cr N : Nat) (F : Lnk.Fd) (m nm : Nat) (M : DataW Unit) (kv : Value) (KL l : List Nat) : Prop where
  ob : w.heap[o]? = some (.cells #[.pointer (some ⟨u, 0, none⟩), kv, .map (some m)] 125 (0, 0))
  lu : Lu w u c q r cq cr N F l
  ks : w.ownsRow 0 38 1 kv KL.length ((ints KL).map (Value.int .u32))
  kw : ∀ k ∈ KL, k < 4294967296
  mp : w.ownsMap Try.prog 38 (plainElem Try.prog 38) m nm M
  mf : Mf M (ent KL l)
  pl : l.Perm (List.range KL.length)
  do_ : o ≠ u ∧ o ≠ c ∧ o ≠ q ∧ o ≠ r ∧ o ≠ m
  dm : m ≠ u ∧ m ≠ c ∧ m ≠ q ∧ m ≠ r
  dk : ∀ g, kv.ownBlock = some g → g ≠ o ∧ g ≠ u ∧ g ≠ c ∧ g ≠ q ∧ g ≠ r ∧ g ≠ m
theorem row_of {w w' : World} {B n : Nat} {e : TypeId} {v : Value} {xs : List Value} (h : w.ownsRow B e 1 v n xs) (e' : ∀ g, v.ownBlock = some g → w'.heap[g]? = w.heap[g]?) : w'.ownsRow B e 1 v n xs := by
  obtain ⟨h0, hv | ⟨g', cap, cur, hv, hb, hg, hr⟩⟩ := h
  · exact ⟨h0, .inl hv⟩
  · exact ⟨h0, .inr ⟨g', cap, cur, hv, hb, (e' g' (by rw [hv]; rfl)).trans hg, hr⟩⟩
section
variable {w w' : World} {o u c q r cq cr N : Nat} {F : Lnk.Fd} {m nm : Nat} {M : DataW Unit} {kv : Value} {KL l : List Nat}
theorem Sk.lt (H : Sk w o u c q r cq cr N F m nm M kv KL l) : o < w.heap.size ∧ u < w.heap.size ∧ c < w.heap.size ∧ q < w.heap.size ∧ r < w.heap.size ∧ m < w.heap.size :=
  ⟨(Array.getElem?_eq_some_iff.1 H.ob).1, H.lu.lt.1, H.lu.lt.2.1, H.lu.lt.2.2.1, H.lu.lt.2.2.2, World.ownsMap.lt H.mp⟩
theorem Sk.of (H : Sk w o u c q r cq cr N F m nm M kv KL l) (hb : ∀ k, Ob7 o u c q r m k → w'.heap[k]? = w.heap[k]?) (hk : ∀ g, kv.ownBlock = some g → w'.heap[g]? = w.heap[g]?) : Sk w' o u c q r cq cr N F m nm M kv KL l :=
  ⟨(hb o (.inl rfl)).trans H.ob, H.lu.of fun k hk => hb k (.inr (.inl hk)), row_of H.ks hk, H.kw, map_of H.mp (hb m (.inr (.inr rfl))), H.mf, H.pl, H.do_, H.dm, H.dk⟩
theorem Sk.below (H : Sk w o u c q r cq cr N F m nm M kv KL l) (hb : Below w.heap.size w w') : Sk w' o u c q r cq cr N F m nm M kv KL l := by
  obtain ⟨h1, h2, h3, h4, h5, h6⟩ := H.lt
  refine H.of (fun k hk => hb.block k ?_) (fun g hg => hb.block g (H.ks.lt g hg).2)
  rcases hk with rfl | (rfl | rfl | rfl | rfl) | rfl <;> assumption
theorem Sk.cells (H : Sk w o u c q r cq cr N F m nm M kv KL l) : w.cell? ⟨o, 0, none⟩ = some (.pointer (some ⟨u, 0, none⟩)) ∧ w.cell? ⟨o, 1, none⟩ = some kv ∧ w.cell? ⟨o, 2, none⟩ = some (.map (some m)) ∧ ∀ j, w.frozen? ⟨o, j, none⟩ = false := by
  have h1 := H.ob
  refine ⟨?_, ?_, ?_, fun j => ?_⟩ <;> simp [World.cell?, World.frozen?, h1]
theorem Sk.mem_lt (H : Sk w o u c q r cq cr N F m nm M kv KL l) {s : Nat} (h : s ∈ l) : s < KL.length := by
  have := H.pl.mem_iff.1 h
  simpa using this
theorem Sk.len (H : Sk w o u c q r cq cr N F m nm M kv KL l) : l.length = KL.length := by
  have := H.pl.length_eq
  simpa using this
theorem Sk.ndl (H : Sk w o u c q r cq cr N F m nm M kv KL l) : l.Nodup := H.pl.nodup_iff.2 List.nodup_range
theorem Sk.knd (H : Sk w o u c q r cq cr N F m nm M kv KL l) : (kys KL l).Nodup := by rw [← ent_fst]; exact H.mf.nd
theorem Sk.slot (H : Sk w o u c q r cq cr N F m nm M kv KL l) {k : Nat} (hk : k ∈ kys KL l) : ∃ s, s ∈ l ∧ ky KL s = k ∧ (k, s) ∈ ent KL l := by
  obtain ⟨s, hs, e⟩ := List.mem_map.1 hk
  exact ⟨s, hs, e, ent_mem.2 ⟨hs, e⟩⟩
end
theorem no_ent {KL l : List Nat} {k : Nat} (h : k ∉ kys KL l) : ∀ n, (k, n) ∉ ent KL l := fun n hn => by
  obtain ⟨h1, h2⟩ := ent_mem.1 hn
  exact h (List.mem_map.2 ⟨n, h1, h2⟩)
/-- the list of keys behind a request for one that is there -/
theorem map_erase {f : Nat → Nat} : ∀ (l : List Nat) (s : Nat), s ∈ l → (l.map f).Nodup → (l.erase s).map f = (l.map f).erase (f s)
  | [], s, h, _ => by cases h
  | x :: l, s, h, hn => by
    by_cases hx : x = s
    · subst hx; simp
    · have hs : s ∈ l := by rcases List.mem_cons.1 h with h | h; exact absurd h.symm hx; exact h
      have hn2 := List.nodup_cons.1 hn
      have hfx : f x ≠ f s := fun e => hn2.1 (by rw [e]; exact List.mem_map_of_mem hs)
      rw [List.erase_cons_tail (by simpa using hx), List.map_cons, List.map_cons, List.erase_cons_tail (by simpa using hfx), map_erase l s hs hn2.2]
theorem map_idx {f : Nat → Nat} : ∀ (l : List Nat) (s : Nat), s ∈ l → (l.map f).Nodup → (l.map f).idxOf (f s) = l.idxOf s
  | [], s, h, _ => by cases h
  | x :: l, s, h, hn => by
    by_cases hx : x = s
    · subst hx; simp
    · have hs : s ∈ l := by rcases List.mem_cons.1 h with h | h; exact absurd h.symm hx; exact h
      have hn2 := List.nodup_cons.1 hn
      have hfx : f x ≠ f s := fun e => hn2.1 (by rw [e]; exact List.mem_map_of_mem hs)
      rw [List.map_cons, List.idxOf_cons, List.idxOf_cons, map_idx l s hs hn2.2]
      have h1 : (f x == f s) = false := by simpa using hfx
      have h2 : (x == s) = false := by simpa using hx
      rw [h1, h2]
/-- what a request leaves of a stack -/
def SkR (w w' : World) (o u c q r m nm : Nat) (kv : Value) (D : List Nat) : Prop := ∃ c' q' r' cq cr N F M kv' KL l, Sk w' o u c' q' r' cq cr N F m nm M kv' KL l ∧ kys KL l = D ∧ (c' = c ∨ w.heap.size ≤ c') ∧ (q' = q ∨ w.heap.size ≤ q') ∧ (r' = r ∨ w.heap.size ≤ r') ∧ (∀ g, kv'.ownBlock = some g → kv.ownBlock = some g ∨ w.heap.size ≤ g) ∧ Kp (fun k => Ob7 o u c q r m k ∨ kv.ownBlock = some k) w w'
end Go.Proofs.Ytbbcmheedhdlfaa.Reu
namespace Go.Proofs.Ytbbcmheedhdlfaa.Reu
open Go Go.RowKit Kit Go.Maps Lnk Lru
/-- a stack in the midst of a request for a new key: its key is in the row, its slot in a box behind w -/
structure Nw (w v : World) (o u c q r cq cr N : Nat) (F : Lnk.Fd) (m nm : Nat) (M : DataW Unit) (kv kv' : Value) (n : Nat) (xs : List Value) (l : List Nat) : Prop where
  ob : v.heap[o]? = some (.cells #[.pointer (some ⟨u, 0, none⟩), kv', .map (some m)] 125 (0, 0))
  bx : v.heap[w.heap.size]? = some (.cells #[.int .u32 (n : Int)] 38 (0, 0))
  lu : Lu v u c q r cq cr N F l
  ks : v.ownsRow 0 38 1 kv' (n + 1) xs
  mp : v.ownsMap Try.prog 38 (plainElem Try.prog 38) m nm M
  kp : Kp (fun k => Ob7 o u c q r m k ∨ kv.ownBlock = some k) w v
  vb : ∀ g, kv'.ownBlock = some g → kv.ownBlock = some g ∨ w.heap.size + 2 ≤ g
theorem Nw.cells {w v : World} {o u c q r cq cr N : Nat} {F : Lnk.Fd} {m nm : Nat} {M : DataW Unit} {kv kv' : Value} {n : Nat} {xs : List Value} {l : List Nat} (h : Nw w v o u c q r cq cr N F m nm M kv kv' n xs l) : v.cell? ⟨o, 0, none⟩ = some (.pointer (some ⟨u, 0, none⟩)) ∧ v.cell? ⟨o, 2, none⟩ = some (.map (some m)) ∧ v.cell? ⟨w.heap.size, 0, none⟩ = some (.int .u32 (n : Int)) := by
  have h1 := h.ob
  have h2 := h.bx
  refine ⟨?_, ?_, ?_⟩ <;> simp [World.cell?, h1, h2]
theorem Nw.drew {w v : World} {o u c q r cq cr N : Nat} {F : Lnk.Fd} {m nm : Nat} {M : DataW Unit} {kv kv' : Value} {n : Nat} {xs : List Value} {l : List Nat} (h : Nw w v o u c q r cq cr N F m nm M kv kv' n xs l) : Nw w v.drew o u c q r cq cr N F m nm M kv kv' n xs l :=
  ⟨h.ob, h.bx, h.lu.below (Below.drew (Below.refl _ _)), row_of h.ks fun _ _ => rfl, h.mp.drew, h.kp.tr (Below.drew (Below.refl _ _)), h.vb⟩
theorem Nw.map {w v v3 : World} {o u c q r cq cr N : Nat} {F : Lnk.Fd} {m nm nm' : Nat} {M M' M0 : DataW Unit} {nm0 : Nat} {kv kv' : Value} {KL : List Nat} {n : Nat} {xs : List Value} {l : List Nat} (H : Sk w o u c q r cq cr N F m nm0 M0 kv KL l) (h : Nw w v o u c q r cq cr N F m nm M kv kv' n xs l) (ho : v3.ownsMap Try.prog 38 (plainElem Try.prog 38) m nm' M') (hg : v.grownBy v3 (some m)) : Nw w v3 o u c q r cq cr N F m nm' M' kv kv' n xs l := by
  have hl := H.lt
  have hs := h.kp.size
  have bl : ∀ k, k < v.heap.size → k ≠ m → v3.heap[k]? = v.heap[k]? := fun k hk hn => hg.block k hk (fun e => hn (by cases e; rfl))
  refine ⟨(bl o (by omega) H.do_.2.2.2.2).trans h.ob, (bl _ (Array.getElem?_eq_some_iff.1 h.bx).1 (by omega)).trans h.bx, h.lu.of fun k hk => bl k ?_ ?_, row_of h.ks fun g hg' => bl g (h.ks.lt g hg').2 ?_, ho, ⟨hg.os.trans h.kp.os, hg.tape.trans h.kp.tape, hg.output.trans h.kp.output, Nat.le_trans h.kp.size hg.size, fun k hk hn => (bl k (by omega) fun e => hn (.inl (.inr (.inr e)))).trans (h.kp.block k hk hn)⟩, h.vb⟩
  · rcases hk with rfl | rfl | rfl | rfl <;> omega
  · rcases hk with rfl | rfl | rfl | rfl
    · exact fun e => H.dm.1 e.symm
    · exact fun e => H.dm.2.1 e.symm
    · exact fun e => H.dm.2.2.1 e.symm
    · exact fun e => H.dm.2.2.2 e.symm
  · rcases h.vb g hg' with hk | hk
    · exact (H.dk g hk).2.2.2.2.2
    · omega
theorem Nw.start {w V w1 : World} {o u c q r cq cr N : Nat} {F : Lnk.Fd} {m nm : Nat} {M : DataW Unit} {kv kv' : Value} {KL : List Nat} {n : Nat} {xs : List Value} {l : List Nat} (H : Sk w o u c q r cq cr N F m nm M kv KL l) (hs : V.heap.size = w.heap.size + 2) (hb : Below w.heap.size w V) (hx : V.heap[w.heap.size]? = some (.cells #[.int .u32 (n : Int)] 38 (0, 0)))
    (ho : w1.ownsRow 0 38 1 kv' (n + 1) xs) (hg : V.grownBy w1 kv.ownBlock) (hv : kv'.ownBlock = kv.ownBlock ∨ kv'.ownBlock = some V.heap.size) :
    w1.cell? ⟨o, 1, none⟩ = some kv ∧ w1.frozen? ⟨o, 1, none⟩ = false ∧ Nw w (w1.setCell ⟨o, 1, none⟩ kv') o u c q r cq cr N F m nm M kv kv' n xs l := by
  have hl := H.lt
  have hgs := hg.size
  have bl : ∀ k, k < w.heap.size → kv.ownBlock ≠ some k → w1.heap[k]? = w.heap[k]? := fun k hk hn => (hg.block k (by omega) (fun e => hn e.symm)).trans (hb.block k hk)
  have ob1 : w1.heap[o]? = _ := (bl o hl.1 fun e => (H.dk o e).1 rfl).trans H.ob
  have b2 : ∀ k, k ≠ o → (w1.setCell ⟨o, 1, none⟩ kv').heap[k]? = w1.heap[k]? := fun k hk => Below.heap_setCell w1 ⟨o, 1, none⟩ _ k hk
  have vb : ∀ g, kv'.ownBlock = some g → kv.ownBlock = some g ∨ w.heap.size + 2 ≤ g := fun g h => by
    rcases hv with h2 | h2
    · exact .inl (h2 ▸ h)
    · rw [h2] at h; cases h; exact .inr (by omega)
  refine ⟨by simp [World.cell?, ob1], by simp [World.frozen?, ob1], heap_set (j := 1) ob1 kv', (b2 _ (by omega)).trans ((hg.block _ (by omega) fun e => ?_).trans hx), H.lu.of fun k hk => ?_, row_of ho fun g h => b2 g ?_, map_of H.mp ((b2 m (fun e => H.do_.2.2.2.2 e.symm)).trans (bl m hl.2.2.2.2.2 fun e => (H.dk m e).2.2.2.2.2 rfl)), ⟨?_, ?_, ?_, by simp; omega, fun k hk hn => (b2 k fun e => hn (.inl (.inl e))).trans (bl k hk fun e => hn (.inr e))⟩, vb⟩
  · exact absurd (H.ks.lt _ e.symm).2 (by omega)
  · rcases hk with rfl | rfl | rfl | rfl
    · exact (b2 _ (fun e => H.do_.1 e.symm)).trans (bl _ (by omega) fun e => (H.dk _ e).2.1 rfl)
    · exact (b2 _ (fun e => H.do_.2.1 e.symm)).trans (bl _ (by omega) fun e => (H.dk _ e).2.2.1 rfl)
    · exact (b2 _ (fun e => H.do_.2.2.1 e.symm)).trans (bl _ (by omega) fun e => (H.dk _ e).2.2.2.1 rfl)
    · exact (b2 _ (fun e => H.do_.2.2.2.1 e.symm)).trans (bl _ (by omega) fun e => (H.dk _ e).2.2.2.2.1 rfl)
  · rintro rfl
    rcases vb _ h with h | h
    · exact (H.dk _ h).1 rfl
    · omega
  · exact hg.os.trans hb.os
  · exact hg.tape.trans hb.tape
  · exact hg.output.trans hb.output
theorem ne_of {a b g s : Nat} (h : b = a ∨ s ≤ b) (hn : g ≠ a) (hs : g < s) : g ≠ b := by omega
theorem up_of {a b s t : Nat} (h : b = a ∨ t ≤ b) (hs : s ≤ t) : b = a ∨ s ≤ b := by omega
set_option maxRecDepth 100000 in
set_option maxHeartbeats 4000000 in
theorem use_new {w : World} {o u c q r cq cr N : Nat} {F : Lnk.Fd} {m nm : Nat} {M : DataW Unit} {kv : Value} {KL l : List Nat} (H : Sk w o u c q r cq cr N F m nm M kv KL l) (hlen : KL.length ≤ 1000000) (hnm : nm ≤ 1000000) (k : Nat) (hk : k < 4294967296) (hnk : k ∉ kys KL l) :
    Calls Try.prog 112 #[.pointer (some ⟨o, 0, none⟩), .int .u32 (k : Int)] w fun e w' => e = .returned (.int .i64 (-1)) ∧ SkR w w' o u c q r m (nm + 1) kv (kys KL l ++ [k]) := by
  have HH := Lib.hid H
  obtain ⟨v0, hlk⟩ := look_no H.mp H.mf hk (no_ent hnk)
  obtain ⟨c0, c1, c2, cf⟩ := H.cells
  obtain ⟨z, hz⟩ : ∃ z : Int, (k : Int) = z := ⟨_, rfl⟩
  rw [hz] at hlk ⊢
  have HZ := Lib.hid hz
  have HK := Lib.hid (show k < 4294967296 ∧ k ∉ kys KL l ∧ KL.length ≤ 1000000 ∧ nm ≤ 1000000 from ⟨hk, hnk, hlen, hnm⟩)
  obtain ⟨n, hn⟩ : ∃ n, KL.length = n := ⟨_, rfl⟩
  obtain ⟨va, vc, hkv⟩ : ∃ a c, kv = .slice a n c := by
    have h := H.ks
    rw [show KL.length = (ints KL).length by unfold ints; simp] at h
    rcases own_cases h with ⟨h, h2⟩ | ⟨g', cap', h, _⟩
    · exact ⟨none, 0, by rw [h]; congr 1; have := congrArg List.length h2; unfold ints at this; simp at this; rw [← hn, this]; rfl⟩
    · exact ⟨some ⟨g', 0, none⟩, cap', by rw [h, ← hn, show (ints KL).length = KL.length by unfold ints; simp]⟩
  obtain ⟨d0, d1, d2, df⟩ := (H.below (box_below w #[.int .u32 v0] 38)).cells
  obtain ⟨e0, e1, e2, ef⟩ := (H.below (box_below w #[.int .u32 (n : Int)] 38)).cells
  obtain ⟨i0, hi, hz0, hz1, hz2⟩ := u_parts
  have hln : l.length = n := by rw [← hn]; exact H.len
  have hnl : n ∉ l := fun h => by have := H.mem_lt h; omega
  have HKS := Lib.hid (show ((w.alloc (.cells #[.int .u32 (n : Int)] 38)).alloc (.cells #[.int .u32 z] 38)).ownsRow 0 38 1 (.slice va n vc) n ((ints KL).map (Value.int .u32)) from by
    have h := (H.ks.alloc (.cells #[.int .u32 (n : Int)] 38)).alloc (.cells #[.int .u32 z] 38)
    rwa [hkv, hn] at h)
  have HONE := Lib.hid (show ∀ j u, [Value.int .u32 z][j]? = some u → ((w.alloc (.cells #[.int .u32 (n : Int)] 38)).alloc (.cells #[.int .u32 z] 38)).cell? ((⟨w.heap.size + 1, 0, none⟩ : Addr).add j) = some u from by
    have h := cell_one_new (w.alloc (.cells #[.int .u32 (n : Int)] 38)) (.int .u32 z) 38
    rwa [World.size_alloc] at h)
  have hV := Lib.hid (show ((w.alloc (.cells #[.int .u32 (n : Int)] 38)).alloc (.cells #[.int .u32 z] 38)).heap.size = w.heap.size + 2 ∧ Below w.heap.size w ((w.alloc (.cells #[.int .u32 (n : Int)] 38)).alloc (.cells #[.int .u32 z] 38)) ∧ ((w.alloc (.cells #[.int .u32 (n : Int)] 38)).alloc (.cells #[.int .u32 z] 38)).heap[w.heap.size]? = some (.cells #[.int .u32 (n : Int)] 38 (0, 0)) from ⟨by simp, by go_grown, (Below.heap_alloc _ _ w.heap.size (by simp)).trans (MapKept.heap_alloc w _).1⟩)
  have HLN := Lib.hid (show l.length = n ∧ n ∉ l ∧ KL.length = n ∧ kv = .slice va n vc from ⟨hln, hnl, hn, hkv⟩)
  have K := Maps.int_keyed (P := Try.prog) und_u32
  have hkey : keyOf Try.prog 38 (.int .u32 z) = some (.int .u32 z) := by rw [← HZ.out]; exact Maps.keyOf_int_mk (P := Try.prog) und_u32 (wf32 HK.out.1)
  have hval : plainElem (H := Unit) Try.prog 38 (.int .u32 (n : Int)) = some (.lit (.int .u32 (n : Int)), []) := plainElem_int und_u32 (wf32 (by have := HK.out; omega))
  have HKV := Lib.hid (show keyOf Try.prog 38 (.int .u32 z) = some (.int .u32 z) ∧ plainElem (H := Unit) Try.prog 38 (.int .u32 (n : Int)) = some (.lit (.int .u32 (n : Int)), []) from ⟨hkey, hval⟩)
  clear H hk hnk hz hlen hnm hkey hval hln hnl
  rw [hkv] at c1 d1 e1
  have wu := IntWalk.u32_in (n : Int) (by have := HK.out; omega)
  clear hn hkv
  go_enter Try.func112, Try.ntmps112
  go_wp2_with (first
    | (at_builtin; refine wpList_append_own_at _ rfl _ _ 39 rfl 0 38 i0 (.int .u32 0) 1 4 Try.underlying39 hi hz0 hz1 hz2 rfl (by decide) (.slice va n vc) n ((ints KL).map (Value.int .u32)) rfl HKS.out ⟨w.heap.size + 1, 0, none⟩ 1 1 [.int .u32 z] rfl rfl HONE.out (by simp [Value.oneCell']) (by have := HK.out; have := HLN.out; unfold maxLen; omega) (by have := HK.out; have := HLN.out; omega) (Nat.zero_le _) ?_; intro v' w1 ho1 hg1 hn1 hb1; obtain ⟨g', cap', rfl⟩ := ownsRow_succ ho1; obtain ⟨a1, a2, a3⟩ := Nw.start HH.out hV.out.1 hV.out.2.1 hV.out.2.2 ho1 (HLN.out.2.2.2 ▸ hg1) (HLN.out.2.2.2 ▸ hb1); obtain ⟨a4, a5, a6⟩ := a3.cells; have A3 := Lib.hid a3.drew; clear ho1 hg1 hn1 hb1 a3 d0 d1 d2 df e0 e1 e2 ef c0 c1 c2 cf))
  obtain ⟨w3, hrun, ho3, hg3⟩ := A3.out.mp.update K und_map (by have := HK.out; unfold maxLen; omega) HKV.out.1 HKV.out.2
  have nw := Nw.map HH.out A3.out ho3 hg3
  have NW := Lib.hid nw
  clear ho3 hg3 nw
  apply region_one (R := fun x => x = w3)
  case first =>
    go_region_with fail
    all_goals (dsimp only [midQ]; exact ⟨rfl, rfl⟩)
  case rest =>
    rintro x rfl
    have nw := NW.out
    clear hrun
    obtain ⟨b4, b5, b6⟩ := nw.cells
    have HA := Lib.hid (Add_any nw.drew.lu n (by have := HK.out; have := HLN.out; omega))
    rw [show addC l n = 0 by unfold addC; rw [if_pos (by have := HK.out; have := HLN.out; omega), if_neg HLN.out.2.1], show addL l n = l ++ [n] from if_pos ⟨by have := HK.out; have := HLN.out; omega, HLN.out.2.1⟩] at HA
    clear a1 a2 a4 a5 a6 A3 nw
    go_wp2_with fail
    apply region_one (R := fun v => Opr x.drew v u c q r (l ++ [n]))
    case first =>
      go_region_with (go_at_call 30; refine HA.out.mono ?_; rintro e w4 ⟨rfl, op⟩)
      all_goals (dsimp only [midQ]; exact ⟨rfl, by assumption⟩)
    case rest =>
      intro w4 op
      have OP := Lib.hid op
      clear op b4 b5 b6
      go_wp2_with fail
      go_ret
      refine ⟨rfl, ?_⟩
      have H := HH.out
      have hK := HK.out
      have hN := HLN.out
      have nd := NW.out.drew
      obtain ⟨c', q', r', cq', cr', N', F', lu, hc, hq, hr, kp⟩ := OP.out
      have hl := H.lt
      have hs := nd.kp.size
      have hs4 := kp.size
      have hgl := nd.ks.lt g' rfl
      have hml := World.ownsMap.lt nd.mp
      have hg := nd.vb g' rfl
      have hgn : g' ≠ o ∧ g' ≠ u ∧ g' ≠ c ∧ g' ≠ q ∧ g' ≠ r ∧ g' ≠ m := by
        rcases hg with h | h
        · exact H.dk g' h
        · clear hgl hml hs hs4 hc hq hr kp lu nd hK hN
          obtain ⟨l1, l2, l3, l4, l5, l6⟩ := hl
          clear HK HKV HKS HONE hV HLN HH HZ HA NW OP
          omega
      have hoO : ¬ Ob4 u c q r o := fun h => by rcases h with h | h | h | h; exact H.do_.1 h; exact H.do_.2.1 h; exact H.do_.2.2.1 h; exact H.do_.2.2.2.1 h
      have hmO : ¬ Ob4 u c q r m := fun h => by rcases h with h | h | h | h; exact H.dm.1 h; exact H.dm.2.1 h; exact H.dm.2.2.1 h; exact H.dm.2.2.2 h
      have hgO : ¬ Ob4 u c q r g' := fun h => by rcases h with h | h | h | h; exact hgn.2.1 h; exact hgn.2.2.1 h; exact hgn.2.2.2.1 h; exact hgn.2.2.2.2.1 h
      have hkl : (KL ++ [k]).length = n + 1 := by rw [List.length_append, hN.2.2.1]; rfl
      have hkyl : ∀ s ∈ l, ky (KL ++ [k]) s = ky KL s := fun s hsl => by
        have := H.mem_lt hsl
        unfold ky
        rw [List.getElem?_append_left this]
      have hkyn : ky (KL ++ [k]) n = k := by
        unfold ky
        rw [← hN.2.2.1, List.getElem?_append_right (Nat.le_refl _)]
        simp
      have hent : ent (KL ++ [k]) (l ++ [n]) = ent KL l ++ [(k, n)] := by
        unfold ent
        rw [List.map_append, List.map_congr_left (g := fun s => (ky KL s, s)) fun s hsl => by rw [hkyl s hsl]]
        simp [hkyn]
      have hkys : kys (KL ++ [k]) (l ++ [n]) = kys KL l ++ [k] := by
        unfold kys
        rw [List.map_append, List.map_congr_left hkyl]
        simp [hkyn]
      have hmf := H.mf.put (H.mp.tidy K) (n := n) (no_ent hK.2.1)
      have hmp := nd.mp
      have hks := nd.ks
      rw [← HZ.out] at hmp hks
      refine ⟨c', q', r', cq', cr', N', F', _, .slice (some ⟨g', 0, none⟩) (n + 1) cap', KL ++ [k], l ++ [n], ⟨(kp.block o (Nat.lt_of_lt_of_le hl.1 hs) hoO).trans nd.ob, lu, ?_, ?_, map_of hmp (kp.block m hml hmO), ?_, ?_, ?_, ?_, ?_⟩, hkys, ?_, ?_, ?_, ?_, ?_⟩
      · rw [hkl, show (ints (KL ++ [k])).map (Value.int .u32) = (ints KL).map (Value.int .u32) ++ [.int .u32 (k : Int)] by unfold ints; simp]
        exact row_of hks fun g h => by cases h; exact kp.block g' hgl.2 hgO
      · intro y hy
        rcases List.mem_append.1 hy with h | h
        · exact H.kw y h
        · simp at h; subst h; exact hK.1
      · rw [hent]
        exact hmf.perm (List.perm_append_singleton (k, n) (ent KL l)).symm
      · rw [hkl, List.range_succ]
        exact (hN.2.2.1 ▸ H.pl).append_right [n]
      · exact ⟨H.do_.1, ne_of hc H.do_.2.1 (Nat.lt_of_lt_of_le hl.1 hs), ne_of hq H.do_.2.2.1 (Nat.lt_of_lt_of_le hl.1 hs), ne_of hr H.do_.2.2.2.1 (Nat.lt_of_lt_of_le hl.1 hs), H.do_.2.2.2.2⟩
      · exact ⟨H.dm.1, ne_of hc H.dm.2.1 hml, ne_of hq H.dm.2.2.1 hml, ne_of hr H.dm.2.2.2 hml⟩
      · intro g h
        obtain rfl : g' = g := by simpa [Value.ownBlock] using h
        exact ⟨hgn.1, hgn.2.1, ne_of hc hgn.2.2.1 hgl.2, ne_of hq hgn.2.2.2.1 hgl.2, ne_of hr hgn.2.2.2.2.1 hgl.2, hgn.2.2.2.2.2⟩
      · exact up_of hc hs
      · exact up_of hq hs
      · exact up_of hr hs
      · intro g h
        obtain rfl : g' = g := by simpa [Value.ownBlock] using h
        rcases hg with h | h
        · exact .inl h
        · exact .inr (Nat.le_trans (Nat.le_add_right _ 2) h)
      · refine ⟨kp.os.trans nd.kp.os, kp.tape.trans nd.kp.tape, kp.output.trans nd.kp.output, Nat.le_trans hs hs4, fun y hy hn => (kp.block y (Nat.lt_of_lt_of_le hy hs) fun h => hn (.inl (.inr (.inl h)))).trans (nd.kp.block y hy hn)⟩
end Go.Proofs.Ytbbcmheedhdlfaa.Reu
namespace Go.Proofs.Ytbbcmheedhdlfaa.Reu
open Go Go.RowKit Kit Go.Maps Lnk Lru Go.Shelf
attribute [local go_sem] Oper.semAt_some
/-- within the walk over the slots: the boxes of the slot and of the distance -/
structure Dq (w V1 : World) (s : Nat) (d : Int) (W : World) : Prop where
  b0 : W.heap[w.heap.size]? = some (.cells #[.int .u32 (s : Int)] 38 (0, 0))
  b1 : W.heap[w.heap.size + 1]? = some (.cells #[.int .i64 d] 3 (0, 0))
  kp : Kp (fun k => k = w.heap.size + 1) V1 W
theorem Dq.own {w V1 W W' : World} {s : Nat} {d : Int} {row : Option Nat} (h : Dq w V1 s d W) (hg : W.grownBy W' row) (hr : ∀ r, row = some r → V1.heap.size ≤ r ∧ ∃ o : Obj, W.heap[r]? = some o ∧ o.isCells = false) : Dq w V1 s d W' :=
  ⟨(grownBy_keeps_cells hg (fun r e => (hr r e).2) h.b0 rfl).trans h.b0, (grownBy_keeps_cells hg (fun r e => (hr r e).2) h.b1 rfl).trans h.b1,
    ⟨hg.os.trans h.kp.os, hg.tape.trans h.kp.tape, hg.output.trans h.kp.output, Nat.le_trans h.kp.size hg.size, fun k hk hn => (hg.block k (Nat.lt_of_lt_of_le hk h.kp.size) fun e => by have := (hr k e.symm).1; omega).trans (h.kp.block k hk hn)⟩⟩
theorem Dq.put {w V1 W : World} {s : Nat} {d : Int} (h : Dq w V1 s d W) (d' : Int) : Dq w V1 s d' (W.setCell ⟨w.heap.size + 1, 0, none⟩ (.int .i64 d')) :=
  ⟨(Below.heap_setCell W ⟨w.heap.size + 1, 0, none⟩ _ _ (by show w.heap.size ≠ w.heap.size + 1; omega)).trans h.b0, heap_set (j := 0) h.b1 (.int .i64 d'),
    ⟨h.kp.os, h.kp.tape, h.kp.output, by simpa using h.kp.size, fun k hk hn => (Below.heap_setCell W ⟨w.heap.size + 1, 0, none⟩ _ k hn).trans (h.kp.block k hk hn)⟩⟩
theorem heap_putObj_ne (W : World) (l : Nat) (ob : Obj) (k : Nat) (h : k ≠ l) : (W.putObj l ob).heap[k]? = W.heap[k]? := by
  simp only [World.putObj]
  exact Array.getElem?_setIfInBounds_ne (Ne.symm h)
theorem idx_prefix (s : Nat) : ∀ (l : List Nat) (pre : List Int), pre ++ [(s : Int)] <+: ints l → (∀ y ∈ pre, y ≠ (s : Int)) → l.idxOf s = pre.length
  | [], pre, h, _ => by
    have := h.length_le
    unfold ints at this
    simp at this
  | x :: l, [], h, _ => by
    obtain ⟨r, hr⟩ := h
    unfold ints at hr
    simp only [List.nil_append, List.map_cons, List.cons_append, List.cons.injEq] at hr
    have : x = s := by omega
    subst this
    simp
  | x :: l, y :: pre, h, hn => by
    obtain ⟨r, hr⟩ := h
    unfold ints at hr
    simp only [List.map_cons, List.cons_append, List.cons.injEq] at hr
    have hy := hn y (List.mem_cons_self ..)
    have hx : x ≠ s := fun e => hy (by rw [hr.1, e])
    have ih := idx_prefix s l pre ⟨r, by unfold ints; simpa using hr.2⟩ fun z hz => hn z (List.mem_cons_of_mem _ hz)
    rw [List.idxOf_cons, show (x == s) = false by simpa using hx, ih]
    simp
theorem old_done {w W w5 Wf : World} {o u c q r cq cr N : Nat} {F : Lnk.Fd} {m nm : Nat} {M : DataW Unit} {kv : Value} {KL l l' : List Nat} {D : Nat} (H : Sk w o u c q r cq cr N F m nm M kv KL l) (hb : Below w.heap.size w W) (op : Opr W w5 u c q r l') (hD : w.heap.size ≤ D) (hD2 : D < W.heap.size) (hf : ∀ k, k ≠ D → Wf.heap[k]? = w5.heap[k]?) (h1 : Wf.os = w5.os) (h2 : Wf.tape = w5.tape) (h3 : Wf.output = w5.output) (h4 : w5.heap.size ≤ Wf.heap.size) (hp : l'.Perm l) : SkR w Wf o u c q r m nm kv (kys KL l') := by
  obtain ⟨c', q', r', cq', cr', N', F', lu, hc, hq, hr, kp⟩ := op
  have HW := H.below hb
  have hl := H.lt
  have hs := hb.size
  have hs5 := kp.size
  have hoO : ¬ Ob4 u c q r o := fun h => by rcases h with h | h | h | h; exact H.do_.1 h; exact H.do_.2.1 h; exact H.do_.2.2.1 h; exact H.do_.2.2.2.1 h
  have hmO : ¬ Ob4 u c q r m := fun h => by rcases h with h | h | h | h; exact H.dm.1 h; exact H.dm.2.1 h; exact H.dm.2.2.1 h; exact H.dm.2.2.2 h
  have hlu := lu.lt
  have ne : ∀ {a b : Nat}, (b = a ∨ W.heap.size ≤ b) → a < w.heap.size → b ≠ D := fun h ha => by omega
  refine ⟨c', q', r', cq', cr', N', F', M, kv, KL, l', ⟨(hf o (by omega)).trans ((kp.block o (by omega) hoO).trans HW.ob), lu.of fun k hk => hf k ?_, row_of HW.ks fun g hg => ?_, H.kw, map_of HW.mp ((hf m (by omega)).trans (kp.block m (by omega) hmO)), H.mf.perm (hp.symm.map _), hp.trans H.pl, ?_, ?_, ?_⟩, rfl, up_of hc hs, up_of hq hs, up_of hr hs, fun g hg => .inl hg, ⟨h1.trans (kp.os.trans hb.os), h2.trans (kp.tape.trans hb.tape), h3.trans (kp.output.trans hb.output), by omega, fun k hk hn => (hf k (by omega)).trans ((kp.block k (by omega) fun h => hn (.inl (.inr (.inl h)))).trans (hb.block k hk))⟩⟩
  · rcases hk with rfl | rfl | rfl | rfl
    · omega
    · exact ne hc hl.2.2.1
    · exact ne hq hl.2.2.2.1
    · exact ne hr hl.2.2.2.2.1
  · have hgl := (H.ks.lt g hg).2
    have hgn := H.dk g hg
    exact (hf g (by omega)).trans (kp.block g (by omega) fun h => by rcases h with h | h | h | h; exact hgn.2.1 h; exact hgn.2.2.1 h; exact hgn.2.2.2.1 h; exact hgn.2.2.2.2.1 h)
  · exact ⟨H.do_.1, ne_of hc H.do_.2.1 (by omega), ne_of hq H.do_.2.2.1 (by omega), ne_of hr H.do_.2.2.2.1 (by omega), H.do_.2.2.2.2⟩
  · exact ⟨H.dm.1, ne_of hc H.dm.2.1 (by omega), ne_of hq H.dm.2.2.1 (by omega), ne_of hr H.dm.2.2.2 (by omega)⟩
  · intro g hg
    have hgl := (H.ks.lt g hg).2
    have hgn := H.dk g hg
    exact ⟨hgn.1, hgn.2.1, ne_of hc hgn.2.2.1 (by omega), ne_of hq hgn.2.2.2.1 (by omega), ne_of hr hgn.2.2.2.2.1 (by omega), hgn.2.2.2.2.2⟩
set_option maxRecDepth 100000 in
set_option maxHeartbeats 4000000 in
theorem use_old {w : World} {o u c q r cq cr N : Nat} {F : Lnk.Fd} {m nm : Nat} {M : DataW Unit} {kv : Value} {KL l : List Nat} (H : Sk w o u c q r cq cr N F m nm M kv KL l) (hlen : KL.length ≤ 1000000) (s : Nat) (hs : s ∈ l) (hk : ky KL s < 4294967296) :
    Calls Try.prog 112 #[.pointer (some ⟨o, 0, none⟩), .int .u32 (ky KL s : Int)] w fun e w' => e = .returned (.int .i64 ((l.length : Int) - 1 - (l.idxOf s : Int))) ∧ SkR w w' o u c q r m nm kv ((kys KL l).erase (ky KL s) ++ [ky KL s]) := by
  have HH := Lib.hid H
  have hlk := look_in H.mp H.mf hk (ent_mem.2 ⟨hs, rfl⟩)
  obtain ⟨c0', c1', c2', cf'⟩ := H.cells
  obtain ⟨z, hz⟩ : ∃ z : Int, (ky KL s : Int) = z := ⟨_, rfl⟩
  rw [hz] at hlk ⊢
  have HZ := Lib.hid hz
  have HS := Lib.hid (show s ∈ l ∧ KL.length ≤ 1000000 ∧ l.length = KL.length ∧ s < KL.length from ⟨hs, hlen, H.len, H.mem_lt hs⟩)
  have B0 := box_below w #[.int .u32 (s : Int)] 38
  obtain ⟨d0, d1, d2, df⟩ := (H.below B0).cells
  obtain ⟨n, hn⟩ : ∃ n, l.length = n := ⟨_, rfl⟩
  have hL := Len_any (H.below B0).lu
  rw [hn] at hL ⊢
  have HL := Lib.hid hL
  have HN := Lib.hid hn
  clear hL hn
  clear H hk hz hlen hs
  refine (callsIn_wide (n := 6)).1 ?_
  refine callsIn_of_wp_marks Try.func112 rfl trivial ?_ rfl
  simp only [Try.ntmps112, List.size_toArray, List.length_cons, List.length_nil, Nat.reduceAdd, Nat.reduceSub, Array.replicate_succ, Array.replicate_zero, List.push_toArray, List.append_toArray, List.nil_append, List.cons_append]
  gi_wp2
  refine ⟨trivial, ?_⟩
  refine (callsIn_wide.2 HL.out).mono ?_
  rintro e v1 ⟨rfl, rfl⟩
  have B1 := Lib.hid (by go_grown : Below w.heap.size w ((w.alloc (.cells #[.int .u32 (s : Int)] 38)).alloc (.cells #[.int .i64 (n : Int)] 3)))
  have X0 := Lib.hid (show ((w.alloc (.cells #[.int .u32 (s : Int)] 38)).alloc (.cells #[.int .i64 (n : Int)] 3)).heap[w.heap.size]? = some (.cells #[.int .u32 (s : Int)] 38 (0, 0)) from (Below.heap_alloc _ _ w.heap.size (by simp)).trans (MapKept.heap_alloc w _).1)
  have X1 := Lib.hid (show ((w.alloc (.cells #[.int .u32 (s : Int)] 38)).alloc (.cells #[.int .i64 (n : Int)] 3)).heap[w.heap.size + 1]? = some (.cells #[.int .i64 (n : Int)] 3 (0, 0)) from by simpa using (MapKept.heap_alloc (w.alloc (.cells #[.int .u32 (s : Int)] 38)) (.cells #[.int .i64 (n : Int)] 3)).1)
  have hsz := Lib.hid (show ((w.alloc (.cells #[.int .u32 (s : Int)] 38)).alloc (.cells #[.int .i64 (n : Int)] 3)).heap.size = w.heap.size + 2 by simp)
  have HV0 := Lib.hid (HH.out.below B1.out)
  obtain ⟨c0, c1, c2, cf⟩ := HV0.out.cells
  gi_wp2
  obtain ⟨V, hV⟩ : ∃ V, (w.alloc (.cells #[.int .u32 (s : Int)] 38)).alloc (.cells #[.int .i64 (n : Int)] 3) = V := ⟨_, rfl⟩
  rw [hV] at B1 X0 X1 hsz HV0 c0 c1 c2
  simp only [hV] at cf ⊢
  clear hV d0 d1 d2 df hlk B0 HL
  have HA := Lib.hid (All15_any HV0.out.lu)
  refine ⟨trivial, ?_⟩
  refine (callsIn_wide.2 HA.out).mono ?_
  rintro e V1 ⟨⟨g, p, cp, rfl, hg1, hg2, hcg, hru, hpf⟩, b1⟩
  gi_wp2
  have DQ := Lib.hid (show Dq w V1 s (n : Int) V1 from ⟨(b1.block _ (by have := hsz.out; omega)).trans X0.out, (b1.block _ (by have := hsz.out; omega)).trans X1.out, Kp.refl _ _⟩)
  have H1 := Lib.hid (HV0.out.below b1)
  have BV := Lib.hid (tr B1.out b1)
  have hVs := hsz.out
  clear c0 c1 c2 cf c0' c1' c2' cf' HA X0 X1 b1
  refine' wpIn_rangeFunc_ownF (encs := fun x : Int => #[.int .u32 x]) (Kp := fun A B => Mid (w.heap.size + 2) V1.heap.size A B ∧ A.heap.size ≤ B.heap.size) (S := fun ys => ys = ints l) (Sp := fun pre => pre <+: ints l) (N := (ints l).length) rfl (by decide) (gf := 76) (lb := #[.pointer (some ⟨g, 0, none⟩)]) rfl trivial (enters_of Try.func76 (by kernel_rfl) rfl)
    (w0 := V1)
    (fun L J Jx W hW _ _ hY h0 => allseq_in (fun A B => Mid (w.heap.size + 2) V1.heap.size A B ∧ A.heap.size ≤ B.heap.size) L g p cp (ints l) (by rw [ints_len]; exact HV0.out.lu.lo.len_le (k := 0) rfl) J Jx
      (fun W1 W2 hh r => hh.1.ru (fun y hy => by have := hpf y hy; omega) (fun i x hx y hy => by obtain ⟨y', hy', h1, -⟩ := hru i x hx; rw [hy] at hy'; cases hy'; exact h1) (.inl hh.2) r)
      hY W ((hW.cell (p := ⟨g, 0, none⟩) hg2).trans hcg) (hru.below hW) h0)
    (fun h k => ⟨h.1.trans k.1, Nat.le_trans h.2 k.2⟩) (fun W l o o' h1 h2 h3 h4 => ⟨Mid.putObj (Nat.le_refl _) W l o o' h1 h2 h3 h4, by simp [World.putObj]⟩) (Below.refl _ _) (fun _ => rfl)
    (fun pre W => Dq w V1 s ((n : Int) - (pre.length : Int)) W ∧ ∀ y ∈ pre, y ≠ (s : Int))
    (fun c pre W => c = .exit 0 ∧ ∃ pre0, pre = pre0 ++ [(s : Int)] ∧ (∀ y ∈ pre0, y ≠ (s : Int)) ∧ Dq w V1 s ((n : Int) - (pre.length : Int)) W)
    (fun pre W W' row hI hg hr => ⟨hI.1.own hg hr, hI.2⟩) (fun c pre W W' row hI hg hr => by obtain ⟨h1, pre0, h2, h3, h4⟩ := hI; exact ⟨h1, pre0, h2, h3, h4.own hg hr⟩) ⟨by simpa using DQ.out, fun _ h => by cases h⟩
    _ ?assign ?body ?done ?stop
  case assign =>
    intro L x W K hK
    gi_wp2
    exact hK
  case body =>
    rintro L pre x W ⟨dq, hne⟩ hlt
    have DW := Lib.hid dq
    have HNE := Lib.hid hne
    have hpl : (pre.length : Int) < (n : Int) := by have : pre.length < (ints l).length := hlt; rw [ints_len, HN.out] at this; omega
    have hn6 : (n : Int) ≤ 1000000 := by have := HS.out; have := HN.out; omega
    have k0 : W.cell? ⟨w.heap.size, 0, none⟩ = some (.int .u32 (s : Int)) := by simp [World.cell?, dq.b0]
    have k1 : W.cell? ⟨w.heap.size + 1, 0, none⟩ = some (.int .i64 ((n : Int) - (pre.length : Int))) := by simp [World.cell?, dq.b1]
    have f1 : W.frozen? ⟨w.heap.size + 1, 0, none⟩ = false := by simp [World.frozen?, dq.b1]
    obtain ⟨d, hd⟩ : ∃ d : Int, (n : Int) - (pre.length : Int) = d := ⟨_, rfl⟩
    rw [hd] at k1
    have wd := IntWalk.i64_in (d - 1) (by omega)
    have PD := Lib.hid (show Dq w V1 s ((n : Int) - ((pre ++ [x]).length : Int)) (W.setCell ⟨w.heap.size + 1, 0, none⟩ (.int .i64 (d - 1))) from by
      have h := dq.put (d - 1)
      rwa [show d - 1 = (n : Int) - ((pre ++ [x]).length : Int) by rw [List.length_append]; simp; omega] at h ⊢)
    have k2 : (W.setCell ⟨w.heap.size + 1, 0, none⟩ (.int .i64 (d - 1))).cell? ⟨w.heap.size, 0, none⟩ = some (.int .u32 (s : Int)) := by simp [World.cell?, PD.out.b0]
    clear dq hne hlt hd
    by_cases hx : x = (s : Int)
    · subst hx
      gi_wp2
      exact ⟨KeepsOthers.setCell _ _ _, rfl, pre, rfl, HNE.out, PD.out⟩
    · gi_wp2
      refine ⟨KeepsOthers.setCell _ _ _, ⟨?mid, by simp⟩, PD.out, fun y hy => ?_⟩
      case mid => exact fun b h1 h2 => Below.heap_setCell W ⟨w.heap.size + 1, 0, none⟩ _ b (by show b ≠ w.heap.size + 1; omega)
      rcases List.mem_append.1 hy with h | h
      · exact HNE.out y h
      · simp at h; subst h; exact hx
  case done =>
    rintro D ys W hD rfl ⟨dq, hne⟩ hK
    exfalso
    exact hne (s : Int) (by unfold ints; exact List.mem_map_of_mem HS.out.1) rfl
  case stop =>
    rintro D c pre W hD hsp ⟨rfl, pre0, hp, hne, dq⟩ hK
    subst hp
    have hidx := idx_prefix s l pre0 hsp hne
    have hBW : Below w.heap.size w W := BV.out.trans (dq.kp.below (fun k hk h => by omega) BV.out.size)
    have hDW := (Array.getElem?_eq_some_iff.1 hK).1
    have HBW := Lib.hid (show Below w.heap.size w W.drew ∧ w.heap.size ≤ D ∧ D < W.heap.size ∧ W.heap[D]? = some (Obj.deferred (some [])) from ⟨tr hBW (Below.drew (Below.refl _ _)), by have := BV.out.size; omega, hDW, hK⟩)
    have HW := HH.out.below hBW
    obtain ⟨c0, c1, c2, cf⟩ := HW.cells
    have k0 : W.cell? ⟨w.heap.size, 0, none⟩ = some (.int .u32 (s : Int)) := by simp [World.cell?, dq.b0]
    have HU := Lib.hid (Use_any (HH.out.below HBW.out.1).lu s (by have := HS.out; omega))
    rw [show remC l s = 0 by unfold remC; rw [if_pos (by have := HS.out; omega), if_pos HS.out.1], show useL l s = l.erase s ++ [s] from if_pos HS.out.1] at HU
    have DQ2 := Lib.hid dq
    have HID := Lib.hid hidx
    clear hsp hne dq hK hidx hBW hDW HW
    gi_wp2
    refine wpIn_wide.2 ?_
    apply region_one (R := fun v => Opr W.drew v u c q r (l.erase s ++ [s]))
    case first =>
      go_region_with (go_at_call 32; refine HU.out.mono ?_; rintro e w4 ⟨rfl, op⟩)
      all_goals (dsimp only [midQ]; exact ⟨rfl, by assumption⟩)
    case rest =>
      intro w5 op
      have OP := Lib.hid op
      have hl := HH.out.lt
      have k1 : w5.cell? ⟨w.heap.size + 1, 0, none⟩ = some (.int .i64 ((n : Int) - ((pre0 ++ [(s : Int)]).length : Int))) := by
        obtain ⟨_, _, _, _, _, _, _, _, _, _, _, kp⟩ := op
        have h := (kp.block (w.heap.size + 1) (Array.getElem?_eq_some_iff.1 DQ2.out.b1).1 fun h => by rcases h with h | h | h | h <;> omega).trans DQ2.out.b1
        simp [World.cell?, h]
      clear op c0 c1 c2 cf k0
      have hK5 : w5.heap[D]? = some (Obj.deferred (some [])) := by
        obtain ⟨c', q', r', _, _, _, _, lu, hc, hq, hr, kp⟩ := OP.out
        exact (kp.block D HBW.out.2.2.1 fun h => by rcases h with h | h | h | h <;> (have := HBW.out.2.1; omega)).trans HBW.out.2.2.2
      have hv : (n : Int) - ((pre0 ++ [(s : Int)]).length : Int) = (n : Int) - 1 - (l.idxOf s : Int) := by rw [HID.out, List.length_append]; simp; omega
      rw [hv] at k1
      gi_wp2
      refine ⟨by simp, .inl ⟨_, _, rfl, run_takeDeferred hK5, ?_⟩⟩
      refine ⟨.int .i64 ((n : Int) - 1 - (l.idxOf s : Int)), by simp [results, Try.results112, go_sem], rfl, ?_⟩
      have hkys : kys KL (l.erase s ++ [s]) = (kys KL l).erase (ky KL s) ++ [ky KL s] := by
        unfold kys
        rw [List.map_append, map_erase l s HS.out.1 HH.out.knd]
        rfl
      rw [← hkys]
      exact old_done HH.out HBW.out.1 OP.out HBW.out.2.1 HBW.out.2.2.1 (fun k hk => heap_putObj_ne w5 D _ k hk) rfl rfl rfl (by simp [World.putObj]) ((List.perm_append_singleton s (l.erase s)).trans (List.perm_cons_erase HS.out.1).symm)
end Go.Proofs.Ytbbcmheedhdlfaa.Reu
namespace Go.Proofs.Ytbbcmheedhdlfaa.Reu
open Go Go.RowKit Kit Go.Maps Lnk Lru
theorem SkR.mono {w w' : World} {o u c q r m nm nm' : Nat} {kv : Value} {D : List Nat} (h : SkR w w' o u c q r m nm kv D) (hn : nm ≤ nm') : SkR w w' o u c q r m nm' kv D := by
  obtain ⟨c', q', r', cq, cr, N, F, M, kv', KL, l, h1, h2⟩ := h
  exact ⟨c', q', r', cq, cr, N, F, M, kv', KL, l, ⟨h1.ob, h1.lu, h1.ks, h1.kw, h1.mp.mono hn, h1.mf, h1.pl, h1.do_, h1.dm, h1.dk⟩, h2⟩
theorem use_any {w : World} {o u c q r cq cr N : Nat} {F : Lnk.Fd} {m nm : Nat} {M : DataW Unit} {kv : Value} {KL l : List Nat} (H : Sk w o u c q r cq cr N F m nm M kv KL l) (hlen : KL.length ≤ 1000000) (hnm : nm ≤ 1000000) (k : Nat) (hk : k < 4294967296) :
    Calls Try.prog 112 #[.pointer (some ⟨o, 0, none⟩), .int .u32 (k : Int)] w fun e w' => e = .returned (.int .i64 (dist (kys KL l) k)) ∧ SkR w w' o u c q r m (nm + 1) kv (nxt (kys KL l) k) := by
  by_cases h : k ∈ kys KL l
  · obtain ⟨s, hs, rfl, he⟩ := H.slot h
    unfold dist nxt
    rw [if_pos h, show (kys KL l).length = l.length by unfold kys; simp, show (kys KL l).idxOf (ky KL s) = l.idxOf s from map_idx l s hs H.knd]
    exact (use_old H hlen s hs hk).mono fun e w' h => ⟨h.1, h.2.mono (Nat.le_succ _)⟩
  · unfold dist nxt
    rw [if_neg h, List.erase_of_not_mem h]
    exact use_new H hlen hnm k hk h
/-- the state of follow: the stack, its keys in their order, the row of distances -/
def Fo (w v : World) (o : Nat) (D : List Nat) (nm : Nat) (lv : Value) (xs : List Int) : Prop := ∃ u c q r cq cr N F m M kv KL l, Sk v o u c q r cq cr N F m nm M kv KL l ∧ kys KL l = D ∧ (w.heap.size ≤ o ∧ w.heap.size ≤ u ∧ w.heap.size ≤ c ∧ w.heap.size ≤ q ∧ w.heap.size ≤ r ∧ w.heap.size ≤ m) ∧ (∀ g, kv.ownBlock = some g → w.heap.size ≤ g) ∧ Below w.heap.size w v ∧ v.ownsRow w.heap.size 3 1 lv xs.length (xs.map (Value.int .i64)) ∧ ∀ g, lv.ownBlock = some g → ¬ (Ob7 o u c q r m g ∨ kv.ownBlock = some g)
theorem Fo.call {w v : World} {o nm : Nat} {D : List Nat} {lv : Value} {xs : List Int} (h : Fo w v o D nm lv xs) (hD : D.length ≤ 1000000) (hnm : nm ≤ 1000000) (k : Nat) (hk : k < 4294967296) :
    Calls Try.prog 112 #[.pointer (some ⟨o, 0, none⟩), .int .u32 (k : Int)] v fun e w' => e = .returned (.int .i64 (dist D k)) ∧ Fo w w' o (nxt D k) (nm + 1) lv xs := by
  obtain ⟨u, c, q, r, cq, cr, N, F, m, M, kv, KL, l, H, rfl, hge, hkv, hb, hrow, hsep⟩ := h
  refine (use_any H (by rw [← H.len]; have : (kys KL l).length = l.length := by unfold kys; simp
                        omega) hnm k hk).mono ?_
  rintro e w' ⟨he, c', q', r', cq', cr', N', F', M', kv', KL', l', H', hk', hc, hq, hr, hv, kp⟩
  have hs := hb.size
  refine ⟨he, u, c', q', r', cq', cr', N', F', m, M', kv', KL', l', H', hk', ⟨hge.1, hge.2.1, ?_, ?_, ?_, hge.2.2.2.2.2⟩, fun g hg => ?_, ((Kp.of hb).trans kp).below (fun k hk h => ?_) (Nat.le_refl _), row_of hrow fun g hg => kp.block g (hrow.lt g hg).2 (hsep g hg), fun g hg h => ?_⟩
  · omega
  · omega
  · omega
  · rcases hv g hg with h | h
    · exact hkv g h
    · omega
  · rcases h with (h | (h | h | h | h) | h) | h
    · omega
    · omega
    · omega
    · omega
    · omega
    · omega
    · have := hkv k h; omega
  · have hgl := (hrow.lt g hg).2
    have hn := hsep g hg
    rcases h with (h | (h | h | h | h) | h) | h
    · exact hn (.inl (.inl h))
    · exact hn (.inl (.inr (.inl (.inl h))))
    · rcases hc with e | e
      · exact hn (.inl (.inr (.inl (.inr (.inl (h.trans e))))))
      · omega
    · rcases hq with e | e
      · exact hn (.inl (.inr (.inl (.inr (.inr (.inl (h.trans e)))))))
      · omega
    · rcases hr with e | e
      · exact hn (.inl (.inr (.inl (.inr (.inr (.inr (h.trans e)))))))
      · omega
    · exact hn (.inl (.inr (.inr h)))
    · rcases hv g h with e | e
      · exact hn (.inr e)
      · omega
theorem Fo.app {w v v' : World} {o nm : Nat} {D : List Nat} {lv lv' : Value} {xs : List Int} {x : Int} (h : Fo w v o D nm lv xs) (hrow' : v'.ownsRow w.heap.size 3 1 lv' (xs ++ [x]).length ((xs ++ [x]).map (Value.int .i64))) (hg : v.grownBy v' lv.ownBlock) (hb' : lv'.ownBlock = lv.ownBlock ∨ ∃ g, lv'.ownBlock = some g ∧ v.heap.size ≤ g) : Fo w v' o D nm lv' (xs ++ [x]) := by
  obtain ⟨u, c, q, r, cq, cr, N, F, m, M, kv, KL, l, H, hk, hge, hkv, hb, hrow, hsep⟩ := h
  have hl := H.lt
  have bl : ∀ k, k < v.heap.size → (Ob7 o u c q r m k ∨ kv.ownBlock = some k) → v'.heap[k]? = v.heap[k]? := fun k hk h => hg.block k hk fun e => hsep k e.symm h
  refine ⟨u, c, q, r, cq, cr, N, F, m, M, kv, KL, l, H.of (fun k hk => bl k ?_ (.inl hk)) (fun g hg' => bl g (H.ks.lt g hg').2 (.inr hg')), hk, hge, hkv, ⟨hg.os.trans hb.os, hg.tape.trans hb.tape, hg.output.trans hb.output, Nat.le_trans hb.size hg.size, fun k hk => (hg.block k (Nat.lt_of_lt_of_le hk hb.size) fun e => by have := (hrow.lt k e.symm).1; omega).trans (hb.block k hk)⟩, hrow', fun g hg' h => ?_⟩
  · rcases hk with rfl | (rfl | rfl | rfl | rfl) | rfl <;> omega
  · rcases hb' with e | ⟨g', e, e2⟩
    · exact hsep g (e ▸ hg') h
    · rw [e] at hg'
      cases hg'
      rcases h with (h | (h | h | h | h) | h) | h
      · omega
      · omega
      · omega
      · omega
      · omega
      · omega
      · have := (H.ks.lt _ h).2; omega
end Go.Proofs.Ytbbcmheedhdlfaa.Reu
namespace Go.Proofs.Ytbbcmheedhdlfaa.Reu
open Go Go.RowKit Kit Go.Maps Lnk Lru
theorem info_int : (Try.prog.info? 3).map (fun i => (i.size, i.bytes, i.zero)) = some (1, 8, some (.int .i64 0)) := by kernel_rfl
theorem i_parts : ∃ i, Try.prog.info? 3 = some i ∧ i.zero = some (.int .i64 0) ∧ i.size = 1 ∧ i.bytes = 8 := by
  have h := info_int
  cases hi : Try.prog.info? 3 with
  | none => rw [hi] at h; cases h
  | some i => rw [hi] at h; simp at h; exact ⟨i, rfl, h.2.2, h.1, h.2.1⟩
theorem mk_cap {n : Nat} (hn : n ≤ 1000000) (v : World) : (Instr.makeSlice 64 (.int .i64 0) (.int .i64 (n : Int))).run Try.prog v = .ok (.slice (some ⟨v.heap.size, 0, none⟩) 0 n) (v.alloc (.cells (madeCells #[.int .i64 0] n) 3)) := by
  obtain ⟨i0, hi0, hz0, hz1, hz2⟩ := i_parts
  have hr := run_make (P := Try.prog) v 64 3 i0 (.int .i64 0) Try.underlying64 hi0 hz0 .i64 .i64 0 (n : Int) (Int.le_refl _) (by omega) (by rw [hz2]; omega) (by omega)
  rw [hz1] at hr
  simp only [Int.toNat_zero, Int.toNat_natCast] at hr
  simpa [Value.cells] using hr
/-- the keys behind a trace; its distances -/
def stk (D : List Nat) : List Nat → List Nat
  | [] => D
  | x :: xs => stk (nxt D x) xs
def dists (D : List Nat) : List Nat → List Int
  | [] => []
  | x :: xs => dist D x :: dists (nxt D x) xs
theorem stk_snoc (x : Nat) : ∀ (a : List Nat) (D : List Nat), stk D (a ++ [x]) = nxt (stk D a) x
  | [], D => rfl
  | y :: a, D => stk_snoc x a (nxt D y)
theorem dists_snoc (x : Nat) : ∀ (a : List Nat) (D : List Nat), dists D (a ++ [x]) = dists D a ++ [dist (stk D a) x]
  | [], D => rfl
  | y :: a, D => by rw [List.cons_append]; simp only [dists, stk]; rw [dists_snoc x a]; rfl
theorem dists_len : ∀ (a : List Nat) (D : List Nat), (dists D a).length = a.length
  | [], D => rfl
  | y :: a, D => by simp only [dists, List.length_cons]; rw [dists_len a]
theorem nxt_len (D : List Nat) (k : Nat) : (nxt D k).length ≤ D.length + 1 := by
  unfold nxt
  have := List.length_erase_le (a := k) (l := D)
  simp
  omega
theorem stk_len : ∀ (a : List Nat) (D : List Nat), (stk D a).length ≤ D.length + a.length
  | [], D => Nat.le_refl _
  | y :: a, D => by
    have h1 := nxt_len D y
    have h2 := stk_len a (nxt D y)
    simp only [stk, List.length_cons]
    omega
theorem Fo.below {w v v' : World} {o nm : Nat} {D : List Nat} {lv : Value} {xs : List Int} (h : Fo w v o D nm lv xs) (hb : Below v.heap.size v v') : Fo w v' o D nm lv xs := by
  obtain ⟨u, c, q, r, cq, cr, N, F, m, M, kv, KL, l, H, hk, hge, hkv, hbl, hrow, hsep⟩ := h
  exact ⟨u, c, q, r, cq, cr, N, F, m, M, kv, KL, l, H.below hb, hk, hge, hkv, tr hbl hb, row_of hrow fun g hg => hb.block g (hrow.lt g hg).2, hsep⟩
theorem Fo.row {w v : World} {o nm : Nat} {D : List Nat} {lv : Value} {xs : List Int} (h : Fo w v o D nm lv xs) : v.ownsRow w.heap.size 3 1 lv xs.length (xs.map (Value.int .i64)) ∧ Below w.heap.size w v := by
  obtain ⟨u, c, q, r, cq, cr, N, F, m, M, kv, KL, l, H, hk, hge, hkv, hbl, hrow, hsep⟩ := h
  exact ⟨hrow, hbl⟩
theorem Fo.start {w w1 : World} {u c q r n : Nat} {F : Lnk.Fd} (lu : Lu w1 u c q r 2 1 1 F []) (hge : w.heap.size ≤ u ∧ w.heap.size ≤ c ∧ w.heap.size ≤ q ∧ w.heap.size ≤ r) (hb : Below w.heap.size w w1) (hn : n ≤ 1000000) :
    Fo w (((w1.alloc (.map #[] 0)).alloc (.cells #[.pointer (some ⟨u, 0, none⟩), .slice none 0 0, .map (some w1.heap.size)] 125)).alloc (.cells (madeCells #[.int .i64 0] n) 3)) (w1.heap.size + 1) [] 0 (.slice (some ⟨w1.heap.size + 1 + 1, 0, none⟩) 0 n) [] := by
  have hs := hb.size
  have hl := lu.lt
  have e2 := (MapKept.heap_alloc (w1.alloc (.map #[] 0)) (.cells #[.pointer (some ⟨u, 0, none⟩), .slice none 0 0, .map (some w1.heap.size)] 125)).1
  have e3 := (Below.heap_alloc ((w1.alloc (.map #[] 0)).alloc (.cells #[.pointer (some ⟨u, 0, none⟩), .slice none 0 0, .map (some w1.heap.size)] 125)) (.cells (madeCells #[.int .i64 0] n) 3) (w1.heap.size + 1) (by simp)).trans (by simpa only [World.size_alloc] using e2)
  have mp := ((w1.ownsMap_made Try.prog 38 (plainElem (H := Unit) Try.prog 38)).alloc (.cells #[.pointer (some ⟨u, 0, none⟩), .slice none 0 0, .map (some w1.heap.size)] 125)).alloc (.cells (madeCells #[.int .i64 0] n) 3)
  have hrow := World.ownsRow_made (base := w.heap.size) (e := 3) (size := 1) ((w1.alloc (.map #[] 0)).alloc (.cells #[.pointer (some ⟨u, 0, none⟩), .slice none 0 0, .map (some w1.heap.size)] 125)) (madeCells #[.int .i64 0] n) n (by simp; omega) (by unfold maxLen; omega) (by rw [Nat.mul_one]; exact size_madeCells _ _)
  simp only [World.size_alloc] at hrow
  refine ⟨u, c, q, r, 2, 1, 1, F, w1.heap.size, .map [], .slice none 0 0, [], [], ⟨e3, lu.below (by go_grown), World.ownsRow_nil _ _ _ _, (fun k h => by cases h), mp, Mf.nil, List.Perm.refl _, by omega, by omega, fun g hg => by cases hg⟩, rfl, by omega, fun g hg => (by cases hg), tr hb (by go_grown), hrow, fun g hg h => ?_⟩
  cases hg
  rcases h with (h | (h | h | h | h) | h) | h
  · simp at h
  · simp at h; omega
  · simp at h; omega
  · simp at h; omega
  · simp at h; omega
  · simp at h; omega
  · cases h
set_option maxRecDepth 100000 in
theorem follow_long {w : World} {p : Option Addr} {n c : Nat} (hn : 4096 < n) :
    Calls Try.prog 94 #[.slice p n c] w fun e w' => e = .returned (.tuple #[.pointer none, .slice none 0 0, .int .i64 5]) ∧ w = w' := by
  have h : (4096 : Int) < (n : Int) := by omega
  clear hn
  go_enter Try.func94, Try.ntmps94
  go_wp2_with fail
  go_returns
  exact ⟨rfl, rfl⟩
set_option maxRecDepth 100000 in
set_option maxHeartbeats 4000000 in
theorem follow_any {w : World} {p : Option Addr} {n c : Nat} {T : List Nat} (hT : T.length = n) (hn : n ≤ 4096) (hr : Ru w p (ints T)) (hw : ∀ x ∈ T, x < 4294967296) :
    Calls Try.prog 94 #[.slice p n c] w fun e w' => ∃ o lv, e = .returned (.tuple #[.pointer (some ⟨o, 0, none⟩), lv, .int .i64 0]) ∧ Fo w w' o (stk [] T) n lv (dists [] T) := by
  have h1 : ¬ (4096 : Int) < (n : Int) := by omega
  have HT := Lib.hid (show T.length = n ∧ n ≤ 4096 ∧ Ru w p (ints T) ∧ (∀ x ∈ T, x < 4294967296) from ⟨hT, hn, hr, hw⟩)
  have HN := Lib.hid (New_any w)
  have hmm := @run_makeMap Try.prog
  clear hT hn hr hw
  go_enter Try.func94, Try.ntmps94
  go_wp2_with fail
  refine HN.out.mono ?_
  rintro e w1 ⟨⟨u, c1, q, r, F, rfl, lu, hu, hc, hq, hr⟩, b1⟩
  have HL := Lib.hid (show Lu w1 u c1 q r 2 1 1 F [] ∧ (w.heap.size ≤ u ∧ w.heap.size ≤ c1 ∧ w.heap.size ≤ q ∧ w.heap.size ≤ r) ∧ Below w.heap.size w w1 from ⟨lu, ⟨hu, hc, hq, hr⟩, b1⟩)
  clear lu hu hc hq hr b1
  have hmk := mk_cap (n := n) (by have := HT.out.2.1; omega)
  go_wp2_with fail
  clear hmk hmm
  have F0 := Lib.hid (Fo.start HL.out.1 HL.out.2.1 HL.out.2.2 (n := n) (by have := HT.out.2.1; omega))
  obtain ⟨i0, hi, hz0, hz1, hz2⟩ := i_parts
  go_loopw [21, 6] (fun iv lv wr => ∃ j : Nat, j ≤ n ∧ iv = .int .i64 (j : Int) ∧ Hid (Fo w wr (w1.heap.size + 1) (stk [] (T.take j)) j lv (dists [] (T.take j)))) (fun iv _ _ => n - (intOf iv).toNat)
  case atStart => exact ⟨0, Nat.zero_le _, rfl, F0⟩
  case round =>
    obtain ⟨j, hj, rfl, G0⟩ := hrel
    clear F0
    have hlD : (stk [] (T.take j)).length ≤ 4096 := by have h := stk_len (T.take j) []; have := HT.out.2.1; simp at h; omega
    have hlX : (dists [] (T.take j)).length = j := by rw [dists_len, List.length_take, HT.out.1]; omega
    have hr0 := G0.out.row.1
    rw [hlX] at hr0
    obtain ⟨a, kc, rfl, -, -⟩ := own_form hr0
    by_cases hjn : j < n
    · have i1 : (j : Int) < (n : Int) := by omega
      have i2 : (0 : Int) ≤ (j : Int) := by omega
      obtain ⟨k, hk⟩ : ∃ k, T[j]? = some k := ⟨T[j]'(by rw [HT.out.1]; exact hjn), List.getElem?_eq_getElem _⟩
      obtain ⟨y, rfl, hyb, hyc⟩ := (HT.out.2.2.1.below G0.out.row.2) j (k : Int) (by unfold ints; rw [List.getElem?_map, hk]; rfl)
      have hk2 := HT.out.2.2.2 k (List.mem_of_getElem? hk)
      have htk : T.take (j + 1) = T.take j ++ [k] := by rw [List.take_add_one, hk]; rfl
      have HC := Lib.hid (G0.out.call (by omega) (by have := HT.out.2.1; omega) k hk2)
      have HTK := Lib.hid (show stk [] (T.take (j + 1)) = nxt (stk [] (T.take j)) k ∧ dists [] (T.take (j + 1)) = dists [] (T.take j) ++ [dist (stk [] (T.take j)) k] from by rw [htk]; exact ⟨stk_snoc _ _ _, dists_snoc _ _ _⟩)
      have wi := IntWalk.i64_in ((j : Int) + 1) (by have := HT.out.2.1; omega)
      have HLX := Lib.hid hlX
      obtain ⟨z, hz⟩ : ∃ z : Int, (k : Int) = z := ⟨_, rfl⟩
      rw [hz] at hyc HC
      obtain ⟨d, hd⟩ : ∃ d : Int, dist (stk [] (T.take j)) k = d := ⟨_, rfl⟩
      rw [hd] at HC HTK
      clear hk hk2 htk hz hd hr0 hlD hlX
      go_wp2_with fail
      refine HC.out.mono ?_
      rintro e w2 ⟨rfl, f2⟩
      have F2 := Lib.hid f2
      have hrow2 := f2.row.1
      rw [HLX.out] at hrow2
      have HR2 := Lib.hid (hrow2.alloc (.cells #[.int .i64 d] 3))
      have FA := Lib.hid (f2.below (box_below w2 #[.int .i64 d] 3))
      have HONE := Lib.hid (cell_one_new w2 (.int .i64 d) 3)
      have HW2 := Lib.hid (show w.heap.size ≤ (w2.alloc (.cells #[.int .i64 d] 3)).heap.size from FA.out.row.2.size)
      clear f2 hrow2 HC
      go_wp2_with (at_builtin; refine wpList_append_own_at _ rfl _ _ 64 rfl w.heap.size 3 i0 (.int .i64 0) 1 8 Try.underlying64 hi hz0 hz1 hz2 rfl (by decide) (.slice a j kc) j ((dists [] (T.take j)).map (Value.int .i64)) rfl HR2.out ⟨w2.heap.size, 0, none⟩ 1 1 [.int .i64 d] rfl rfl HONE.out (by simp [Value.oneCell']) (by have := HT.out.2.1; unfold maxLen; omega) (by have := HT.out.2.1; omega) HW2.out ?_; intro v' w3 ho3 hg3 hn3 hb3; have F3 := Lib.hid (FA.out.app (x := d) (lv' := v') (by rw [List.length_append, HLX.out, List.map_append]; exact ho3) hg3 (by rcases hb3 with h | h; exact .inl h; exact .inr ⟨_, h, Nat.le_refl _⟩)); clear ho3 hg3 hn3 hb3)
      go_roundw
      case rel => exact ⟨j + 1, by omega, by go_num, Lib.hid (by rw [HTK.out.1, HTK.out.2]; exact F3.out)⟩
      case measure => simp [intOf]; omega
    · have i1 : ¬ (j : Int) < (n : Int) := by omega
      obtain rfl : j = n := by omega
      have htk : T.take j = T := List.take_of_length_le (by rw [HT.out.1]; exact Nat.le_refl _)
      have G1 := Lib.hid G0.out
      rw [htk] at G1
      clear hr0 hlD hlX hjn hj G0 htk
      go_wp2_with fail
      go_returns
      exact ⟨_, _, rfl, G1.out⟩
end Go.Proofs.Ytbbcmheedhdlfaa.Reu
