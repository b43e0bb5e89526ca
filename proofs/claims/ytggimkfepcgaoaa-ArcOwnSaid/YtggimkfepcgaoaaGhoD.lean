/-
  Ghost lists (layer 28): the map of the nodes; the object.
-/
import Derived.Test.YtggimkfepcgaoaaLnkJ
import Derived.Test.YtggimkfepcgaoaaLnkBc
import Derived.Test.YtggimkfepcgaoaaApp
import Derived.Maps.OwnSet
import Derived.Lib.AppendZeros
set_option linter.unusedVariables false
set_option linter.unusedSimpArgs false
section
namespace Go.Proofs.Ytggimkfepcgaoaa.Gho
open Go Go.RowKit Kit Go.Maps Lnk
/-- a map of numbers, by its entries -/
structure Mf (D : DataW Unit) (S : List (Nat × Nat)) : Prop where
  at_ : ∀ k n, (k, n) ∈ S → has D (.int .u32 (k : Int)) = true ∧ ∀ z, D.atKey (.int .u32 (k : Int)) z = .lit (.int .u32 (n : Int))
  no : ∀ k : Nat, (∀ n, (k, n) ∉ S) → has D (.int .u32 (k : Int)) = false
  size : Maps.size D = S.length
  nd : (S.map Prod.fst).Nodup
theorem key_ne {k k' : Nat} (h : k' ≠ k) : (Lit.int .u32 (k' : Int)) ≠ (Lit.int .u32 (k : Int)) := fun e => h (by injection e with e1 e2; omega)
theorem Mf.nil : Mf (.map []) [] := ⟨fun k n h => (by cases h), fun k _ => rfl, rfl, List.nodup_nil⟩
theorem Mf.perm {D : DataW Unit} {S S' : List (Nat × Nat)} (h : Mf D S) (p : S.Perm S') : Mf D S' :=
  ⟨fun k n hm => h.at_ k n (p.mem_iff.2 hm), fun k hk => h.no k fun n hn => hk n (p.mem_iff.1 hn), h.size.trans p.length_eq, (p.map Prod.fst).nodup_iff.1 h.nd⟩
theorem Mf.put {D : DataW Unit} {S : List (Nat × Nat)} (h : Mf D S) (ht : Tidy D) {k n : Nat} (hn : ∀ n, (k, n) ∉ S) : Mf (D.put (.int .u32 (k : Int)) (.lit (.int .u32 (n : Int)))) ((k, n) :: S) := by
  have hkl : WideAt.IsKeyLit (Lit.int .u32 (k : Int)) := by trivial
  refine ⟨fun k' n' hm => ?_, fun k' hk' => ?_, ?_, ?_⟩
  · rcases List.mem_cons.1 hm with e | hm2
    · cases e
      exact ⟨has_put_same ht.isMap hkl _, fun z => atKey_put_same ht.isMap hkl _ z⟩
    · have hkk : k' ≠ k := by rintro rfl; exact hn n' hm2
      obtain ⟨a1, a2⟩ := h.at_ k' n' hm2
      exact ⟨by rw [has_put_other (key_ne hkk)]; exact a1, fun z => by rw [atKey_put_other (key_ne hkk)]; exact a2 z⟩
  · have hkk : k' ≠ k := by rintro rfl; exact hk' n (List.mem_cons_self ..)
    rw [has_put_other (key_ne hkk)]
    exact h.no k' fun n' hn' => hk' n' (List.mem_cons_of_mem _ hn')
  · rw [size_put ht, h.no k hn, h.size]
    simp
  · rw [List.map_cons]
    exact List.nodup_cons.2 ⟨fun hm => by obtain ⟨⟨a, b⟩, hm2, e⟩ := List.mem_map.1 hm; cases e; exact hn b hm2, h.nd⟩
theorem Mf.del {D : DataW Unit} {S S' : List (Nat × Nat)} (h : Mf D S) (ht : Tidy D) {k n : Nat} (p : S.Perm ((k, n) :: S')) : Mf (D.del (.int .u32 (k : Int))) S' := by
  have h' := h.perm p
  have hnd := List.nodup_cons.1 (by simpa using h'.nd : (k :: S'.map Prod.fst).Nodup)
  refine ⟨fun k' n' hm => ?_, fun k' hk' => ?_, ?_, hnd.2⟩
  · have hkk : k' ≠ k := by rintro rfl; exact hnd.1 (List.mem_map.2 ⟨_, hm, rfl⟩)
    obtain ⟨a1, a2⟩ := h'.at_ k' n' (List.mem_cons_of_mem _ hm)
    exact ⟨by rw [has_del_other (key_ne hkk)]; exact a1, fun z => by rw [atKey_del_other (key_ne hkk)]; exact a2 z⟩
  · by_cases hkk : k' = k
    · subst hkk
      exact has_del_same
    · rw [has_del_other (key_ne hkk)]
      refine h'.no k' fun n' hn' => ?_
      rcases List.mem_cons.1 hn' with e | hm
      · cases e; exact hkk rfl
      · exact hk' n' hm
  · have h1 := size_del ht (k := .int .u32 (k : Int))
    rw [(h'.at_ k n (List.mem_cons_self ..)).1, h'.size] at h1
    simp at h1
    omega
theorem und_map : Try.prog.underlying 153 = some (.map 38 38) := by kernel_rfl
theorem und_u32 : Try.prog.underlying 38 = some (.int .u32) := by kernel_rfl
theorem wf32 {k : Nat} (h1 : k < 4294967296) : (Lit.int .u32 (k : Int)).wf = true := by
  show (decide ((0 : Int) ≤ (k : Int)) && decide ((k : Int) ≤ 4294967295)) = true
  simp
  omega
set_option maxRecDepth 100000
/-- what a look-up gives -/
theorem look_in {W : World} {m N : Nat} {D : DataW Unit} {S : List (Nat × Nat)} (h3 : W.ownsMap Try.prog 38 (plainElem Try.prog 38) m N D) (h4 : Mf D S) {k n : Nat} (hk : k < 4294967296) (hm : (k, n) ∈ S) :
    (Instr.lookup 153 (.map (some m)) (.int .u32 (k : Int)) true).run Try.prog W = .ok (.tuple #[.int .u32 (n : Int), .bool true]) W := by
  have K := Maps.int_keyed (P := Try.prog) und_u32
  have hkey := Maps.keyOf_int_mk (P := Try.prog) und_u32 (wf32 hk)
  have hz : (zeroValue 38).run Try.prog W = .ok (.int .u32 0) W := by kernel_rfl
  obtain ⟨v, ps, hrun, hR⟩ := h3.look_ok K und_map hz (plainElem_int und_u32 (by decide)) hkey
  obtain ⟨c, rfl, hc, -⟩ := plainElem_int_inv und_u32 hR
  obtain ⟨hh, ha⟩ := h4.at_ k n hm
  have h1 := ha (.lit (.int .u32 0))
  have h2 := congrArg Prod.fst hc
  simp only at h2
  rw [h1] at h2
  injection h2 with h2
  injection h2 with _ h2
  rw [hrun, hh, h2]
theorem look_no {W : World} {m N : Nat} {D : DataW Unit} {S : List (Nat × Nat)} (h3 : W.ownsMap Try.prog 38 (plainElem Try.prog 38) m N D) (h4 : Mf D S) {k : Nat} (hk : k < 4294967296) (hm : ∀ n, (k, n) ∉ S) :
    ∃ v : Int, (Instr.lookup 153 (.map (some m)) (.int .u32 (k : Int)) true).run Try.prog W = .ok (.tuple #[.int .u32 v, .bool false]) W := by
  have K := Maps.int_keyed (P := Try.prog) und_u32
  have hkey := Maps.keyOf_int_mk (P := Try.prog) und_u32 (wf32 hk)
  have hz : (zeroValue 38).run Try.prog W = .ok (.int .u32 0) W := by kernel_rfl
  obtain ⟨v, ps, hrun, hR⟩ := h3.look_ok K und_map hz (plainElem_int und_u32 (by decide)) hkey
  obtain ⟨c, rfl, hc, -⟩ := plainElem_int_inv und_u32 hR
  exact ⟨c, by rw [hrun, h4.no k hm]⟩
/-- the key of a node; the keys of a list -/
def ky (KL : List Nat) (n : Nat) : Nat := KL[n]?.getD 0
def kys (KL L : List Nat) : List Nat := L.map (ky KL)
def ent (KL L : List Nat) : List (Nat × Nat) := L.map fun n => (ky KL n, n)
/-- blocks of a ghost list -/
def Obg (b c q r g m : Nat) : Nat → Prop := fun k => k = b ∨ Ob c q r k ∨ k = g ∨ k = m
/-- a ghost list: its block b, its field at c, q, r, its keys at g, its map at m; the nodes in order, the free ones, the keys of the nodes -/
structure Gh (w : World) (b c q r cq cr N : Nat) (F : Lnk.Fd) (g kc m nm : Nat) (D : DataW Unit) (most : Int) (L fr KL : List Nat) : Prop where
  ob : w.heap[b]? = some (.cells #[.int .i64 most, .pointer (some ⟨c, 0, none⟩), .slice (some ⟨g, 0, none⟩) N kc, .map (some m)] 155 (0, 0))
  lo : Lo w c q r cq cr N F [L, fr]
  ks : w.ownsRow 0 38 1 (.slice (some ⟨g, 0, none⟩) N kc) N ((ints KL).map (Value.int .u32))
  kl : KL.length = N
  kw : ∀ k ∈ KL, k < 4294967296
  mp : w.ownsMap Try.prog 38 (plainElem Try.prog 38) m nm D
  mf : Mf D (ent KL L)
  pt : ∀ n, n < N → n ∈ L ∨ n ∈ fr
  db : b ≠ c ∧ b ≠ q ∧ b ≠ r ∧ b ≠ g ∧ b ≠ m
  dg : g ≠ c ∧ g ≠ q ∧ g ≠ r ∧ g ≠ m
  dm : m ≠ c ∧ m ≠ q ∧ m ≠ r
section
variable {w w' : World} {b c q r cq cr N : Nat} {F : Lnk.Fd} {g kc m nm : Nat} {D : DataW Unit} {most : Int} {L fr KL : List Nat}
theorem Gh.lt (H : Gh w b c q r cq cr N F g kc m nm D most L fr KL) : b < w.heap.size ∧ c < w.heap.size ∧ q < w.heap.size ∧ r < w.heap.size ∧ g < w.heap.size ∧ m < w.heap.size :=
  ⟨(Array.getElem?_eq_some_iff.1 H.ob).1, H.lo.lt.1, H.lo.lt.2.1, H.lo.lt.2.2, (H.ks.lt g rfl).2, World.ownsMap.lt H.mp⟩
theorem Gh.blk (H : Gh w b c q r cq cr N F g kc m nm D most L fr KL) {k : Nat} (hk : Obg b c q r g m k) : k < w.heap.size := by
  obtain ⟨h1, h2, h3, h4, h5, h6⟩ := H.lt
  rcases hk with rfl | (rfl | rfl | rfl) | rfl | rfl <;> assumption
theorem own_of {w w' : World} {B : Nat} {e : TypeId} {g n k : Nat} {xs : List Value} (h : w.ownsRow B e 1 (.slice (some ⟨g, 0, none⟩) n k) n xs) (e' : w'.heap[g]? = w.heap[g]?) : w'.ownsRow B e 1 (.slice (some ⟨g, 0, none⟩) n k) n xs := by
  obtain ⟨h0, ⟨hv, hn⟩ | ⟨g', cap, cur, hv, hb, hg, hr⟩⟩ := h
  · cases hv
  · cases hv
    exact ⟨h0, .inr ⟨g, k, cur, rfl, hb, e'.trans hg, hr⟩⟩
theorem map_of {w w' : World} {P : Program} {k : TypeId} {R : Value → Option (DataW Unit × List MemPlace)} {m N : Nat} {D : DataW Unit} (h : w.ownsMap P k R m N D) (hb : w'.heap[m]? = w.heap[m]?) : w'.ownsMap P k R m N D := by
  obtain ⟨es, clock, h1, r⟩ := h
  exact ⟨es, clock, hb.trans h1, r⟩
theorem Gh.of (H : Gh w b c q r cq cr N F g kc m nm D most L fr KL) (hb : ∀ k, Obg b c q r g m k → w'.heap[k]? = w.heap[k]?) : Gh w' b c q r cq cr N F g kc m nm D most L fr KL :=
  ⟨(hb b (.inl rfl)).trans H.ob, H.lo.of fun k hk => hb k (.inr (.inl hk)), own_of H.ks (hb g (.inr (.inr (.inl rfl)))), H.kl, H.kw, map_of H.mp (hb m (.inr (.inr (.inr rfl)))), H.mf, H.pt, H.db, H.dg, H.dm⟩
theorem Gh.below (H : Gh w b c q r cq cr N F g kc m nm D most L fr KL) (hb : Below w.heap.size w w') : Gh w' b c q r cq cr N F g kc m nm D most L fr KL :=
  H.of fun k hk => hb.block k (H.blk hk)
theorem Gh.cells (H : Gh w b c q r cq cr N F g kc m nm D most L fr KL) : w.cell? ⟨b, 0, none⟩ = some (.int .i64 most) ∧ w.cell? ⟨b, 1, none⟩ = some (.pointer (some ⟨c, 0, none⟩)) ∧ w.cell? ⟨b, 2, none⟩ = some (.slice (some ⟨g, 0, none⟩) N kc) ∧ w.cell? ⟨b, 3, none⟩ = some (.map (some m)) ∧ ∀ j, w.frozen? ⟨b, j, none⟩ = false := by
  have h1 := H.ob
  refine ⟨?_, ?_, ?_, ?_, fun j => ?_⟩ <;> simp [World.cell?, World.frozen?, h1]
theorem ent_mem {KL L : List Nat} {k n : Nat} : (k, n) ∈ ent KL L ↔ n ∈ L ∧ ky KL n = k := by
  unfold ent
  rw [List.mem_map]
  constructor
  · rintro ⟨x, h1, h2⟩; cases h2; exact ⟨h1, rfl⟩
  · rintro ⟨h1, rfl⟩; exact ⟨n, h1, rfl⟩
theorem ent_fst (KL L : List Nat) : (ent KL L).map Prod.fst = kys KL L := by unfold ent kys; rw [List.map_map]; rfl
theorem Gh.knd (H : Gh w b c q r cq cr N F g kc m nm D most L fr KL) : (kys KL L).Nodup := by rw [← ent_fst]; exact H.mf.nd
theorem Gh.nodeLt (H : Gh w b c q r cq cr N F g kc m nm D most L fr KL) {n : Nat} (hn : n ∈ L) : n < N := (H.lo.ring.mem 0 L n rfl hn).1
theorem Gh.kyLt (H : Gh w b c q r cq cr N F g kc m nm D most L fr KL) (n : Nat) : ky KL n < 4294967296 := by
  unfold ky
  cases h : KL[n]? with
  | none => show (0 : Nat) < _; omega
  | some k => exact H.kw k (List.mem_of_getElem? h)
/-- the node of a key that is there -/
theorem Gh.node (H : Gh w b c q r cq cr N F g kc m nm D most L fr KL) {k : Nat} (hk : k ∈ kys KL L) : ∃ n L1 L2, L = L1 ++ n :: L2 ∧ ky KL n = k ∧ (k, n) ∈ ent KL L := by
  obtain ⟨n, hn, e⟩ := List.mem_map.1 hk
  obtain ⟨L1, L2, e2⟩ := List.append_of_mem hn
  exact ⟨n, L1, L2, e2, e, ent_mem.2 ⟨hn, e⟩⟩
/-- what an operation leaves -/
def GhR (w w' : World) (b c q r g m nm B : Nat) (most : Int) (keys : List Nat) : Prop := ∃ q' r' cq cr N F g' kc D L fr KL, Gh w' b c q' r' cq cr N F g' kc m nm D most L fr KL ∧ kys KL L = keys ∧ (q' = q ∨ w.heap.size ≤ q') ∧ (r' = r ∨ w.heap.size ≤ r') ∧ (g' = g ∨ w.heap.size ≤ g') ∧ N ≤ B ∧ Kp (Obg b c q r g m) w w'
theorem GhR.same (H : Gh w b c q r cq cr N F g kc m nm D most L fr KL) (hb : Below w.heap.size w w') {B : Nat} (hB : N ≤ B) : GhR w w' b c q r g m nm B most (kys KL L) :=
  ⟨q, r, cq, cr, N, F, g, kc, D, L, fr, KL, H.below hb, rfl, .inl rfl, .inl rfl, .inl rfl, hB, Kp.of hb⟩
end
end Go.Proofs.Ytggimkfepcgaoaa.Gho
end
section
namespace Go.Proofs.Ytggimkfepcgaoaa.Gho
open Go Go.RowKit Kit Go.Maps Lnk
section
variable {w w' : World} {b c q r cq cr N : Nat} {F : Lnk.Fd} {g kc m nm : Nat} {D : DataW Unit} {most : Int} {L fr KL : List Nat}
set_option maxRecDepth 100000
theorem gzero_any (H : Gh w b c q r cq cr N F g kc m nm D most L fr KL) :
    Calls Try.prog 115 #[.pointer (some ⟨b, 0, none⟩)] w fun e w' => e = .returned (.bool false) ∧ w = w' := by
  obtain ⟨c0, c1, c2, c3, -⟩ := H.cells
  clear H
  go_enter Try.func115, Try.ntmps115
  go_wp2_with fail
  go_ret
  exact ⟨rfl, rfl⟩
theorem glen_any (H : Gh w b c q r cq cr N F g kc m nm D most L fr KL) :
    Calls Try.prog 42 #[.pointer (some ⟨b, 0, none⟩)] w fun e w' => e = .returned (.int .i64 (L.length : Int)) ∧ w = w' := by
  have HZ := Lib.hid (gzero_any H)
  obtain ⟨c0, c1, c2, c3, -⟩ := H.cells
  have hlm : (Builtin.len_ #[153] 3 #[.map (some m)]).run Try.prog w = .ok (.int .i64 (L.length : Int)) w := by
    rw [H.mp.len und_map, H.mf.size]
    unfold ent
    rw [List.length_map]
  clear H
  go_enter Try.func42, Try.ntmps42
  go_wp2_with fail
  refine HZ.out.mono ?_
  rintro e w1 ⟨rfl, rfl⟩
  go_wp2_with fail
  go_ret
  exact ⟨rfl, rfl⟩
theorem gmost_any (H : Gh w b c q r cq cr N F g kc m nm D most L fr KL) :
    Calls Try.prog 41 #[.pointer (some ⟨b, 0, none⟩)] w fun e w' => e = .returned (.int .i64 most) ∧ w = w' := by
  have HZ := Lib.hid (gzero_any H)
  obtain ⟨c0, c1, c2, c3, -⟩ := H.cells
  clear H
  go_enter Try.func41, Try.ntmps41
  go_wp2_with fail
  refine HZ.out.mono ?_
  rintro e w1 ⟨rfl, rfl⟩
  go_wp2_with fail
  go_ret
  exact ⟨rfl, rfl⟩
theorem kys_ent {KL L : List Nat} {k : Nat} (h : k ∉ kys KL L) : ∀ n, (k, n) ∉ ent KL L := fun n hn => by
  obtain ⟨h1, h2⟩ := ent_mem.1 hn
  exact h (List.mem_map.2 ⟨n, h1, h2⟩)
theorem ghas_any (H : Gh w b c q r cq cr N F g kc m nm D most L fr KL) (k : Nat) (hk : k < 4294967296) :
    Calls Try.prog 47 #[.pointer (some ⟨b, 0, none⟩), .int .u32 (k : Int)] w fun e w' => e = .returned (.bool (decide (k ∈ kys KL L))) ∧ w = w' := by
  have HZ := Lib.hid (gzero_any H)
  obtain ⟨c0, c1, c2, c3, -⟩ := H.cells
  have hlk : ∃ v : Int, (Instr.lookup 153 (.map (some m)) (.int .u32 (k : Int)) true).run Try.prog w = .ok (.tuple #[.int .u32 v, .bool (decide (k ∈ kys KL L))]) w := by
    by_cases h : k ∈ kys KL L
    · obtain ⟨n, L1, L2, -, -, he⟩ := H.node h
      exact ⟨_, by rw [look_in H.mp H.mf hk he, decide_eq_true h]⟩
    · obtain ⟨v, hv⟩ := look_no H.mp H.mf hk (kys_ent h)
      exact ⟨v, by rw [hv, decide_eq_false h]⟩
  obtain ⟨v, hlk⟩ := hlk
  generalize decide (k ∈ kys KL L) = d at *
  obtain ⟨z, hz⟩ : ∃ z : Int, (k : Int) = z := ⟨_, rfl⟩
  rw [hz] at hlk ⊢
  clear H hz hk
  go_enter Try.func47, Try.ntmps47
  go_wp2_with fail
  refine HZ.out.mono ?_
  rintro e w1 ⟨rfl, rfl⟩
  go_wp2_with fail
  go_ret
  exact ⟨rfl, rfl⟩
/-- a node goes to the front of a list -/
theorem gmove_raw {w : World} {b c q r cq cr N : Nat} {F : Lnk.Fd} {Ls : List (List Nat)} {v0 v2 v3 : Value} (LO : Lo w c q r cq cr N F Ls) (ob : w.heap[b]? = some (.cells #[v0, .pointer (some ⟨c, 0, none⟩), v2, v3] 155 (0, 0))) (db : b ≠ c ∧ b ≠ q ∧ b ≠ r) {h j x : Nat} {l1 l2 l : List Nat} (hh : Ls[h]? = some (l1 ++ x :: l2)) (hj : (Ls.set h (l1 ++ l2))[j]? = some l) :
    Calls Try.prog 116 #[.pointer (some ⟨b, 0, none⟩), .int .u32 (x : Int), .int .i64 (j : Int)] w fun e w' => e = .returned (.int .i64 0) ∧ (∃ F', Lo w' c q r cq cr N F' ((Ls.set h (l1 ++ l2)).set j (x :: l))) ∧ Kp (Ob c q r) w w' := by
  have hring := LO.ring
  have hxN : x < N := (hring.mem h _ x hh (by simp)).1
  have HR := Lib.hid (Remove_ok LO hh)
  have c1 : w.cell? ⟨b, 1, none⟩ = some (.pointer (some ⟨c, 0, none⟩)) := by simp [World.cell?, ob]
  have HB := Lib.hid ob
  have HD := Lib.hid db
  have HX := Lib.hid hxN
  have HJ := Lib.hid hj
  clear LO ob db hring hh hj hxN
  obtain ⟨z, hz⟩ : ∃ z : Int, (x : Int) = z := ⟨_, rfl⟩
  have HZ := Lib.hid hz
  obtain ⟨y, hy⟩ : ∃ y : Int, (j : Int) = y := ⟨_, rfl⟩
  have HY := Lib.hid hy
  rw [hz] at HR
  rw [hz, hy]
  clear hz hy
  go_enter Try.func116, Try.ntmps116
  go_wp2_with fail
  refine HR.out.mono ?_
  rintro e w1 ⟨rfl, lo1, kp1⟩
  have HF := Lib.hid (Front_ok lo1 HJ.out HX.out ((lo1.ring.free_iff HX.out).1 (by simp [unlinkF])))
  have KP1 := Lib.hid kp1
  have c1' : w1.cell? ⟨b, 1, none⟩ = some (.pointer (some ⟨c, 0, none⟩)) := by
    have hb := (kp1.block b (Array.getElem?_eq_some_iff.1 HB.out).1 (fun h => by rcases h with h | h | h; exact HD.out.1 h; exact HD.out.2.1 h; exact HD.out.2.2 h)).trans HB.out
    simp [World.cell?, hb]
  rw [HZ.out, HY.out] at HF
  clear c1 lo1 kp1
  go_wp2_with fail
  refine HF.out.mono ?_
  rintro e w2 ⟨rfl, lo2, kp2⟩
  have LO2 := Lib.hid lo2
  have KP2 := Lib.hid (KP1.out.trans kp2)
  clear lo2 kp2
  go_wp2_with fail
  go_ret
  exact ⟨rfl, ⟨_, LO2.out⟩, KP2.out⟩
end
end Go.Proofs.Ytggimkfepcgaoaa.Gho
end
section
namespace Go.Proofs.Ytggimkfepcgaoaa.Gho
open Go Go.RowKit Kit Go.Maps Lnk
theorem zeros_list (z : Value) (n : Nat) : (Builtin.zeroCells #[z] n).toList = List.replicate n z := by
  refine List.eq_replicate_iff.2 ⟨by rw [Array.length_toList, size_zeroCells]; simp, fun u hu => ?_⟩
  simp [Builtin.zeroCells] at hu
  obtain ⟨a, _, rfl⟩ := hu
  simp [Nat.mod_one]
theorem run_append_zeros2 {P : Program} (w : World) (t tn ty e : TypeId) (i : TypeInfo) (z : Value) (ht : P.underlying t = some (.slice e)) (htn : P.underlying tn = some (.int .i64)) (hi : P.info? e = some i) (hz : i.zero = some z) (hs1 : i.size = 1) (hzc : z.cells = #[z]) (hz1 : z.oneCell' = true) (hb4 : i.bytes ≤ 100000)
    (base : Nat) (hbase : base ≤ w.heap.size) {g cap : Nat} (m : Nat) (xs : List Value) (hown : w.ownsRow base e 1 (.slice (some ⟨g, 0, none⟩) m cap) m xs) (n : Nat) (h0 : 0 < n) (hn : m + n ≤ 100000000) :
    ∃ g' k w', (Builtin.append_ #[t, tn] ty #[.slice (some ⟨g, 0, none⟩) m cap, .int .i64 (n : Int)]).run P w = .ok (.slice (some ⟨g', 0, none⟩) (m + n) k) w' ∧ w'.ownsRow base e 1 (.slice (some ⟨g', 0, none⟩) (m + n) k) (m + n) (xs ++ List.replicate n z) ∧ (g' = g ∨ w.heap.size ≤ g') ∧ Kp (fun k => k = g) w w' := by
  have hbn : n * i.bytes ≤ 281474976710656 := by
    have := Nat.mul_le_mul (show n ≤ 100000000 by omega) hb4
    omega
  have hbm : (m + n) * i.bytes ≤ 140737488355328 := by
    have := Nat.mul_le_mul hn hb4
    omega
  have hn0 : n ≠ 0 := by omega
  have hw : IntKind.i64.wrap (n : Int) = n := by rw [IntKind.wrap_i64]; omega
  have hneg : ¬ ((n : Int) < 0) := by omega
  have h48i : ¬ (281474976710656 < (n : Int) * (i.bytes : Int)) := by rw [← Int.natCast_mul]; omega
  have hns : ¬ (n * i.size = 0) := by rw [hs1]; omega
  have hxl := hown.1
  rcases hown.2 with ⟨hv, -⟩ | ⟨g2, cap2, cur, hv, hbg, hg, hnc, hcm, hcs, htake⟩
  · cases hv
  · cases hv
    have hgb : base ≤ g := hbg
    by_cases hroom : m + n ≤ cap
    · have hzl : (Builtin.zeroCells #[z] n).toList.length = n := by rw [Array.length_toList, size_zeroCells]; simp
      have h1 : ∀ u ∈ (Builtin.zeroCells #[z] n).toList, u.oneCell' = true := fun u hu => by
        simp [Builtin.zeroCells] at hu
        obtain ⟨a, _, rfl⟩ := hu
        simpa [Nat.mod_one] using hz1
      have hst := run_storeCells_at P g m e (Builtin.zeroCells #[z] n).toList 0 cur w hg (by rw [hzl]; simp; omega) h1
      simp only [Nat.add_zero] at hst
      refine ⟨g, cap, w.setRow g (cur.toList.take m ++ (Builtin.zeroCells #[z] n).toList ++ cur.toList.drop (m + (Builtin.zeroCells #[z] n).toList.length)).toArray, ?_, ?_, .inl rfl, ?_⟩
      · simp [Builtin.append_, run_underlying ht, run_underlying htn, sizeOf, typeInfo, zeroValue, hi, hz, asInt, asIntOf, hw, hneg, hns, hn0, hs1, h48i, hroom, hzc, Addr.add_lit, hst]
      · rw [Nat.mul_one] at htake
        refine ⟨by simp [hxl], .inr ⟨g, cap, _, rfl, hbg, setRow_heap w g cur _ e (0, 0) hg, hroom, hcm, ?_, ?_⟩⟩
        · simp [size_zeroCells]; omega
        · rw [htake, zeros_list, Nat.mul_one]
          simp only [List.append_assoc]
          rw [← List.append_assoc, List.take_left' (by simp [hxl])]
      · refine ⟨rfl, rfl, rfl, by simp, fun k hk hne => ?_⟩
        exact setRow_other w g k _ hne
    · have hnr : ¬ (m + n ≤ cap) := hroom
      have h63' : ¬ (9223372036854775807 < ((m : Int) + (n : Int))) := by omega
      have h48' : ¬ (281474976710656 < Builtin.nextslicecap (m + n) cap * i.bytes) := by
        have := growslice_fits (show cap < m + n by omega) hbm
        omega
      have holds : ∀ j u, xs[j]? = some u → w.drew.cell? ((⟨g, 0, none⟩ : Addr).add j) = some u := fun j u hj => by simpa using hown.cells (g := g) rfl j u hj
      have hfo := run_firstCells_some (P := P) w.drew 1 m ⟨g, 0, none⟩ m cap xs (by rw [hown.1]) holds
      have hge := grownCap_ge w (m + n) cap e
      refine ⟨w.heap.size, grownCap w (m + n) cap e, w.drew.alloc (.cells (xs.toArray ++ Builtin.zeroCells #[z] n ++ Builtin.zeroCells #[z] (grownCap w (m + n) cap e - (m + n))) e), ?_, ?_, .inr (Nat.le_refl _), ?_⟩
      · simp [Builtin.append_, run_underlying ht, run_underlying htn, sizeOf, typeInfo, zeroValue, hi, hz, asInt, asIntOf, hw, hneg, hns, hn0, hs1, h48i, hnr, h63', h48', hzc, Question.forced, hfo, newRow, grownCap]
      · refine ⟨by simp [hxl], .inr ⟨w.heap.size, _, _, rfl, hbase, (MapKept.heap_alloc w.drew _).1, hge, grownCap_le_maxLen w (m + n) cap e (by unfold maxLen; omega), ?_, ?_⟩⟩
        · simp [size_zeroCells, hxl]; omega
        · rw [Nat.mul_one]
          simp only [Array.toList_append, List.toList_toArray, zeros_list]
          rw [List.take_left' (by simp [hxl])]
      · exact Kp.of (((Below.refl w.heap.size w).drew).alloc (Nat.le_refl _) _)
end Go.Proofs.Ytggimkfepcgaoaa.Gho
end
section
namespace Go.Proofs.Ytggimkfepcgaoaa.Gho
open Go Go.RowKit Kit Go.Maps Lnk
theorem rnL_ok {N : Nat} {t : Nat → Nat} {h : Nat} (D : List (List Nat)) (R : List (List Nat)) (hD : D.length = h) : ∀ (l m : List Nat), (∀ x ∈ l, t x < N) → ((D ++ m :: R).flatten ++ l.map t).Nodup → rnL N t h l (D ++ m :: R) = some (D ++ (m ++ l.map t) :: R)
  | [], m, _, _ => by simp [rnL]
  | n :: l, m, h1, h2 => by
    have hfree : ∀ k ∈ D ++ m :: R, t n ∉ k := by
      intro k hk hx
      have : t n ∈ (D ++ m :: R).flatten := List.mem_flatten.2 ⟨k, hk, hx⟩
      rw [List.nodup_append] at h2
      exact h2.2.2 _ this (t n) (by simp) rfl
    have hat : (D ++ m :: R)[h]? = some m := by rw [← hD]; simp
    have hs : (D ++ m :: R).set h (m ++ [t n]) = D ++ (m ++ [t n]) :: R := by rw [← hD]; simp
    have ha : addB N (D ++ m :: R) h (t n) = some (D ++ (m ++ [t n]) :: R) := by
      unfold addB
      rw [if_pos ⟨h1 n (by simp), hfree⟩, hat, Option.getD_some, hs]
    rw [rnL, ha]
    show rnL N t h l (D ++ (m ++ [t n]) :: R) = _
    rw [rnL_ok D R hD l (m ++ [t n]) (fun x hx => h1 x (by simp [hx])) ?_]
    · simp
    · refine (List.Perm.nodup_iff ?_).1 h2
      simp only [List.flatten_append, List.flatten_cons, List.map_cons, List.append_assoc]
      refine List.Perm.append_left _ (List.Perm.append_left _ ?_)
      show List.Perm (R.flatten ++ ([t n] ++ l.map t)) ([t n] ++ (R.flatten ++ l.map t))
      rw [← List.append_assoc, ← List.append_assoc]
      exact List.Perm.append_right _ List.perm_append_comm
theorem rnA_ok {N : Nat} {t : Nat → Nat} : ∀ (Ls D : List (List Nat)) (h : Nat), D.length = h → (∀ l ∈ Ls, ∀ x ∈ l, t x < N) → (D.flatten ++ Ls.flatten.map t).Nodup → rnA N t h Ls (D ++ List.replicate Ls.length []) = some (D ++ Ls.map (List.map t))
  | [], D, h, _, _, _ => by simp [rnA]
  | l :: Ls, D, h, hD, h1, h2 => by
    simp only [List.flatten_cons, List.map_append] at h2
    have e : rnL N t h l (D ++ [] :: List.replicate Ls.length []) = some (D ++ ([] ++ l.map t) :: List.replicate Ls.length []) := by
      refine rnL_ok D _ hD l [] (h1 l (by simp)) ?_
      rw [← List.append_assoc] at h2
      have := (List.nodup_append.1 h2).1
      simpa using this
    rw [rnA, List.length_cons, List.replicate_succ, e]
    show rnA N t (h + 1) Ls _ = _
    have := rnA_ok Ls (D ++ [l.map t]) (h + 1) (by simp [hD]) (fun k hk => h1 k (by simp [hk])) (by simpa using h2)
    simpa using this
theorem kp_trans2' {b1 b2 : Nat → Prop} {x y z : World} (h : Kp b1 x y) (k : Kp b2 y z) (hb : ∀ n, n < x.heap.size → b2 n → b1 n) : Kp b1 x z :=
  ⟨k.os.trans h.os, k.tape.trans h.tape, k.output.trans h.output, Nat.le_trans h.size k.size, fun n hn hne => (k.block n (Nat.lt_of_lt_of_le hn h.size) fun h2 => hne (hb n hn h2)).trans (h.block n hn hne)⟩
/-- what grow leaves: a free node, and the keys as they are -/
def GrQ (w w' : World) (b c q r g m nm B : Nat) (D : DataW Unit) (most : Int) (L keys : List Nat) : Prop := ∃ q' r' cq' cr' N' F' g' kc' x fr' KL', Gh w' b c q' r' cq' cr' N' F' g' kc' m nm D most L (x :: fr') KL' ∧ kys KL' L = keys ∧ (q' = q ∨ w.heap.size ≤ q') ∧ (r' = r ∨ w.heap.size ≤ r') ∧ (g' = g ∨ w.heap.size ≤ g') ∧ N' ≤ B ∧ Kp (Obg b c q r g m) w w'
/-- as many places as numbers -/
theorem all_len : ∀ (N : Nat) (l : List Nat), (∀ n, n < N → n ∈ l) → N ≤ l.length
  | 0, _, _ => Nat.zero_le _
  | N + 1, l, h => by
    have h1 := all_len N (l.erase N) fun n hn => (List.mem_erase_of_ne (by omega)).2 (h n (by omega))
    have h2 := List.length_erase_of_mem (h N (by omega))
    have h3 := List.length_pos_of_mem (h N (by omega))
    omega
theorem ky_app {KL M : List Nat} {n : Nat} (hn : n < KL.length) : ky (KL ++ M) n = ky KL n := by unfold ky; rw [List.getElem?_append_left hn]
theorem kys_app {KL M L : List Nat} (h : ∀ n ∈ L, n < KL.length) : kys (KL ++ M) L = kys KL L := List.map_congr_left fun n hn => ky_app (h n hn)
theorem ent_app {KL M L : List Nat} (h : ∀ n ∈ L, n < KL.length) : ent (KL ++ M) L = ent KL L := List.map_congr_left fun n hn => by rw [ky_app (h n hn)]
theorem same_map2 {N M : Nat} (hNM : N ≤ M) {l : List Nat} (hn : l.Nodup) (hl : ∀ x ∈ l, x < N) : rnA M (fun n => (List.range N)[n]?.getD 0) 0 [l, []] (List.replicate [l, ([] : List Nat)].length []) = some [l, []] := by
  have hm : l.map (fun n => (List.range N)[n]?.getD 0) = l := by
    conv => rhs; rw [← List.map_id l]
    exact List.map_congr_left fun x hx => by simp [hl x hx]
  have := rnA_ok (N := M) (t := fun n => (List.range N)[n]?.getD 0) [l, []] [] 0 rfl (fun l' hl' x hx => by
    simp at hl'
    rcases hl' with rfl | rfl
    · have := hl x hx
      simp [this]; omega
    · cases hx) (by simpa [hm] using hn)
  simpa [hm] using this
set_option maxRecDepth 100000 in
set_option maxHeartbeats 4000000 in
theorem ggrow_new {w : World} {b c q r cq cr N : Nat} {F : Lnk.Fd} {g kc m nm : Nat} {D : DataW Unit} {most : Int} {L KL : List Nat} (H : Gh w b c q r cq cr N F g kc m nm D most L [] KL) (hN : N ≤ 1000000) {B : Nat} (hB : 2 * L.length ≤ B) :
    Calls Try.prog 146 #[.pointer (some ⟨b, 0, none⟩)] w fun e w' => e = .returned (.int .i64 0) ∧ GrQ w w' b c q r g m nm B D most L (kys KL L) := by
  have hNB := Lib.hid (show N + N ≤ B by
    have := all_len N L fun n hn => by
      rcases H.pt n hn with h | h
      · exact h
      · cases h
    omega)
  clear hB
  have HLN := Lib.hid (Len_ok H.lo (k := 1) rfl)
  have HNO := Lib.hid (Nodes_any H.lo)
  have HH := Lib.hid H
  obtain ⟨c0, c1, c2, c3, cf⟩ := H.cells
  have n1 := H.lo.n1
  have hmk := fun v => App.mk_row (t := 39) (e := 38) (z := .int .u32 0) (bytes := 4) (by kernel_rfl) (by kernel_rfl) rfl (by omega) N (by omega) v
  clear H
  go_enter Try.func146, Try.ntmps146
  go_wp2_with fail
  refine HLN.out.mono ?_
  rintro e w1 ⟨rfl, rfl⟩
  go_wp2_with fail
  refine HNO.out.mono ?_
  rintro e w1 ⟨rfl, rfl⟩
  go_wp2_with fail
  clear hmk c0 c1 c2 c3 cf
  have R0 := Lib.hid (Row.made w (.int .u32 0) rfl N 38)
  have B0 := Lib.hid (box_below w (madeCells #[.int .u32 0] N) 38)
  go_loopw [24] (fun iv wr => ∃ j : Nat, j ≤ N ∧ iv = .int .i64 (j : Int) ∧ Row wr w.heap.size N 38 (fun k => if k < j then .int .u32 (k : Int) else .int .u32 0) ∧ Below w.heap.size w wr) (fun iv _ => N - (intOf iv).toNat)
  case atStart => exact ⟨0, by omega, rfl, by simpa [Value.cells] using R0.out, B0.out⟩
  case round =>
    obtain ⟨j, hj, rfl, rw0, b0⟩ := hrel
    have RW := Lib.hid rw0
    have BW := Lib.hid b0
    by_cases hjN : j = N
    · subst hjN
      have H1 := Lib.hid (HH.out.below b0)
      obtain ⟨c0, c1, c2, c3, cf⟩ := H1.out.cells
      obtain ⟨a2, ha2⟩ : ∃ a2 : Nat, j + j = a2 := ⟨_, rfl⟩
      have HA2 := Lib.hid ha2
      have w1 : IntKind.i64.wrap (2 * (j : Int)) = (a2 : Int) := by rw [IntWalk.i64_in _ (by omega)]; omega
      have hru : Lnk.Ru wr (some ⟨w.heap.size, 0, none⟩) (ints (List.range j)) := fun i z hz => by
        unfold ints at hz
        rw [List.getElem?_map] at hz
        by_cases hi : i < j
        · rw [List.getElem?_range hi] at hz
          cases hz
          refine ⟨_, rfl, rw0.lt, ?_⟩
          rw [Lnk.add2, rw0.cell i hi]
          simp [hi]
        · rw [List.getElem?_eq_none (by simpa using hi)] at hz
          cases hz
      have h0 := Renumber_by (ct := j) (M := a2) H1.out.lo (List.length_range ..) hru (fun z hz => by have := List.mem_range.1 hz; omega) (by omega) (by omega)
      have hsm : rnA a2 (fun n => (List.range j)[n]?.getD 0) 0 [L, []] (List.replicate [L, ([] : List Nat)].length []) = some [L, []] := same_map2 (by omega) (H1.out.lo.ring.nodup 0 L rfl) (fun z hz => (H1.out.lo.ring.mem 0 L z rfl hz).1)
      rw [hsm] at h0
      unfold RnR at h0
      have HRN := Lib.hid h0
      clear h0 hsm hru rw0 b0 hj R0 B0 ha2
      go_wp2_with fail
      refine HRN.out.mono ?_
      rintro e v1 ⟨rfl, ⟨q', r', cq', cr', F', lo', hq', hr'⟩, kp⟩
      have h1 := H1.out
      have hl1 := h1.lt
      have ob1 := (kp.block b hl1.1 h1.db.1).trans h1.ob
      have own1 := own_of h1.ks (kp.block g hl1.2.2.2.2.1 h1.dg.1)
      obtain ⟨i0, hi0, hz0, hz1, hz2⟩ := u_parts
      obtain ⟨g', k2, v2, hap, own2, hg2, kp2⟩ := run_append_zeros2 v1 39 3 39 38 i0 (.int .u32 0) Try.underlying39 Try.underlying3 hi0 hz0 hz1 rfl rfl (by omega) 0 (Nat.zero_le _) j _ own1 j (by omega) (by omega)
      rw [HA2.out] at hap own2
      have hbg : b ≠ g := h1.db.2.2.2.1
      have ob2 := (kp2.block b (Nat.lt_of_lt_of_le hl1.1 kp.size) hbg).trans ob1
      have HV := Lib.hid (show Lo v1 c q' r' cq' cr' a2 F' [L, []] ∧ wr.heap.size ≤ q' ∧ wr.heap.size ≤ r' ∧ v2.ownsRow 0 38 1 (.slice (some ⟨g', 0, none⟩) a2 k2) a2 ((ints KL).map (Value.int .u32) ++ List.replicate j (.int .u32 0)) ∧ (g' = g ∨ v1.heap.size ≤ g') ∧ Kp (fun k => k = g) v1 v2 ∧ Kp (fun k => k = c) wr v1 ∧ v2.heap[b]? = some (.cells #[.int .i64 most, .pointer (some ⟨c, 0, none⟩), .slice (some ⟨g, 0, none⟩) j kc, .map (some m)] 155 (0, 0)) from ⟨lo', hq', hr', own2, hg2, kp2, kp, ob2⟩)
      have d1 : v1.cell? ⟨b, 1, none⟩ = some (.pointer (some ⟨c, 0, none⟩)) := by simp [World.cell?, ob1]
      have d2 : v1.cell? ⟨b, 2, none⟩ = some (.slice (some ⟨g, 0, none⟩) j kc) := by simp [World.cell?, ob1]
      have e2 : v2.cell? ⟨b, 2, none⟩ = some (.slice (some ⟨g, 0, none⟩) j kc) := by simp [World.cell?, ob2]
      have ef : v2.frozen? ⟨b, 2, none⟩ = false := by simp [World.frozen?, ob2]
      clear lo' hq' hr' own2 hg2 kp2 kp ob2 ob1 own1 h1 hl1 hbg c0 c1 c2 c3 cf hi0 hz0 hz1 hz2
      go_wp2_with (at_builtin; refine Lib.wpList_append_run _ rfl _ _ _ _ rfl _ _ rfl rfl _ _ hap ?_)
      have hX := HV.out
      have h1 := H1.out
      have hl1 := h1.lt
      have hs1 := hX.2.2.2.2.2.2.1.size
      have hs2 := hX.2.2.2.2.2.1.size
      have hq1 := hX.1.lt
      have gne : g' ≠ b ∧ g' ≠ c ∧ g' ≠ q' ∧ g' ≠ r' ∧ g' ≠ m := by
        have := h1.db
        have := h1.dg
        rcases hX.2.2.2.2.1 with h | h
        · subst h; exact ⟨fun e => h1.db.2.2.2.1 e.symm, h1.dg.1, by omega, by omega, h1.dg.2.2.2⟩
        · exact ⟨by omega, by omega, by omega, by omega, by omega⟩
      have bq : b ≠ q' ∧ b ≠ r' ∧ m ≠ q' ∧ m ≠ r' := ⟨by omega, by omega, by omega, by omega⟩
      obtain ⟨V0, hV0⟩ : ∃ V0, v2.setCell ⟨b, 2, none⟩ (.slice (some ⟨g', 0, none⟩) a2 k2) = V0 := ⟨_, rfl⟩
      have hsz : V0.heap.size = v2.heap.size := by rw [← hV0]; simp
      have k0 : ∀ k, k ≠ b → V0.heap[k]? = v2.heap[k]? := fun k hk => by rw [← hV0]; exact Below.heap_setCell v2 ⟨b, 2, none⟩ _ k hk
      have k1 : ∀ k, k < v1.heap.size → k ≠ b → k ≠ g → V0.heap[k]? = v1.heap[k]? := fun k hk h2 h3 => (k0 k h2).trans (hX.2.2.2.2.2.1.block k hk h3)
      have LO0 : Lo V0 c q' r' cq' cr' a2 F' [L, []] := hX.1.of fun k hk => by
        rcases hk with rfl | rfl | rfl
        · exact k1 _ hq1.1 (fun e => h1.db.1 e.symm) (fun e => h1.dg.1 e.symm)
        · exact k1 _ hq1.2.1 (fun e => bq.1 e.symm) (by omega)
        · exact k1 _ hq1.2.2 (fun e => bq.2.1 e.symm) (by omega)
      have OB0 : V0.heap[b]? = some (.cells #[.int .i64 most, .pointer (some ⟨c, 0, none⟩), .slice (some ⟨g', 0, none⟩) a2 k2, .map (some m)] 155 (0, 0)) := by
        rw [← hV0]
        exact heap_set (j := 2) hX.2.2.2.2.2.2.2 (.slice (some ⟨g', 0, none⟩) a2 k2)
      have OW0 := own_of hX.2.2.2.1 (k0 g' gne.1)
      have MP0 : V0.ownsMap Try.prog 38 (plainElem Try.prog 38) m nm D := map_of h1.mp ((k1 m (by omega) (fun e => h1.db.2.2.2.2 e.symm) (fun e => h1.dg.2.2.2 e.symm)).trans (hX.2.2.2.2.2.2.1.block m hl1.2.2.2.2.2 h1.dm.1))
      have KP0 : Kp (Obg b c q r g m) w V0 := by
        have hw := BW.out.size
        refine ⟨?_, ?_, ?_, by omega, fun k hk hn => ?_⟩
        · rw [← hV0]; exact hX.2.2.2.2.2.1.os.trans (hX.2.2.2.2.2.2.1.os.trans BW.out.os)
        · rw [← hV0]; exact hX.2.2.2.2.2.1.tape.trans (hX.2.2.2.2.2.2.1.tape.trans BW.out.tape)
        · rw [← hV0]; exact hX.2.2.2.2.2.1.output.trans (hX.2.2.2.2.2.2.1.output.trans BW.out.output)
        · exact (k1 k (by omega) (fun e => hn (.inl e)) (fun e => hn (.inr (.inr (.inl e))))).trans ((hX.2.2.2.2.2.2.1.block k (by omega) (fun e => hn (.inr (.inl (.inl e))))).trans (BW.out.block k hk))
      have HE := Lib.hid (show (g' ≠ b ∧ g' ≠ c ∧ g' ≠ q' ∧ g' ≠ r' ∧ g' ≠ m) ∧ (b ≠ q' ∧ b ≠ r' ∧ m ≠ q' ∧ m ≠ r') ∧ (V0.heap[b]? = some (.cells #[.int .i64 most, .pointer (some ⟨c, 0, none⟩), .slice (some ⟨g', 0, none⟩) a2 k2, .map (some m)] 155 (0, 0))) ∧ V0.ownsRow 0 38 1 (.slice (some ⟨g', 0, none⟩) a2 k2) a2 ((ints KL).map (Value.int .u32) ++ List.replicate j (.int .u32 0)) ∧ V0.ownsMap Try.prog 38 (plainElem Try.prog 38) m nm D ∧ Kp (Obg b c q r g m) w V0 ∧ w.heap.size ≤ q' ∧ w.heap.size ≤ r' ∧ (g' = g ∨ w.heap.size ≤ g') from ⟨gne, bq, OB0, OW0, MP0, KP0, by have := BW.out.size; omega, by have := BW.out.size; omega, by
        rcases hX.2.2.2.2.1 with h | h
        · exact .inl h
        · exact .inr (by have := BW.out.size; omega)⟩)
      have HLO0 := Lib.hid LO0
      rw [hV0]
      clear hX h1 hl1 hs1 hs2 hq1 gne bq hV0 hsz k0 k1 LO0 OB0 OW0 MP0 KP0 HV d1 d2 e2 ef hap
      go_loopw [7] (fun iv x => ∃ (k i : Nat) (F2 : Lnk.Fd), k ≤ j ∧ Hid (i = j + k) ∧ iv = .int .i64 (i : Int) ∧ Hid (Lo x c q' r' cq' cr' a2 F2 [L, (List.range k).map (j + ·)]) ∧ Hid (Kp (Ob c q' r') V0 x)) (fun iv _ => a2 - (intOf iv).toNat)
      case atStart => exact ⟨0, j, F', Nat.zero_le _, Lib.hid rfl, rfl, HLO0, Lib.hid (Kp.refl _ _)⟩
      case round =>
        obtain ⟨k, i, F2, hk, HI, rfl, LO, KP⟩ := hrel
        have hi := HI.out
        clear HLO0
        have ha := HA2.out
        have hbO : ¬ Ob c q' r' b := fun h => by rcases h with h | h | h; exact H1.out.db.1 h; exact HE.out.2.1.1 h; exact HE.out.2.1.2.1 h
        have hob := (KP.out.block b (Array.getElem?_eq_some_iff.1 HE.out.2.2.1).1 hbO).trans HE.out.2.2.1
        by_cases hkj : k < j
        · have i1 : (i : Int) < (a2 : Int) := by omega
          have wu := IntWalk.u32_in (i : Int) (by omega)
          have wi := IntWalk.i64_in ((i : Int) + 1) (by omega)
          have c1 : wr.cell? ⟨b, 1, none⟩ = some (.pointer (some ⟨c, 0, none⟩)) := by simp [World.cell?, hob]
          have hfr : Free [L, (List.range k).map (j + ·)] i := fun h l hl => by
            match h, hl with
            | 0, hl => simp at hl; subst hl; exact fun hm => by have := H1.out.nodeLt hm; omega
            | 1, hl => simp at hl; subst hl; exact fun hm => by obtain ⟨y, hy, e⟩ := List.mem_map.1 hm; have := List.mem_range.1 hy; omega
            | h + 2, hl => simp at hl
          have HBK := Lib.hid (Back_ok LO.out (h := 1) (n := i) rfl (by omega) hfr)
          have hset : [L, (List.range k).map (j + ·)].set 1 ((List.range k).map (j + ·) ++ [i]) = [L, (List.range (k + 1)).map (j + ·)] := by
            rw [List.range_succ, hi]
            simp
          rw [hset] at HBK
          have i2 : i < a2 ∧ i ≤ 2000000 := ⟨by omega, by omega⟩
          clear hfr hset hob LO hi ha
          go_wp2_with fail
          refine HBK.out.mono ?_
          rintro e x1 ⟨rfl, lo1, kp1⟩
          have LO1 := Lib.hid lo1
          have KP1 := Lib.hid (KP.out.trans kp1)
          clear lo1 kp1 KP c1 HBK
          go_wp2_with fail
          go_roundw
          case rel => exact ⟨k + 1, i + 1, _, by omega, Lib.hid (by have := HI.out; omega), by go_num, LO1, KP1⟩
          case measure => simp [intOf] <;> omega
        · have i1 : ¬ (i : Int) < (a2 : Int) := by omega
          obtain rfl : k = j := by omega
          clear hi
          go_wp2_with fail
          go_ret
          refine ⟨rfl, ?_⟩
          have h1 := H1.out
          have hE := HE.out
          have hs0 := KP.out.size
          have hkl : ∀ n ∈ L, n < KL.length := fun n hn => by rw [h1.kl]; exact h1.nodeLt hn
          have hg'O : ¬ Ob c q' r' g' := fun h => by rcases h with h | h | h; exact hE.1.2.1 h; exact hE.1.2.2.1 h; exact hE.1.2.2.2.1 h
          have hmO : ¬ Ob c q' r' m := fun h => by rcases h with h | h | h; exact h1.dm.1 h; exact hE.2.1.2.2.1 h; exact hE.2.1.2.2.2 h
          have hgl := (hE.2.2.2.1.lt g' rfl).2
          have hml := World.ownsMap.lt hE.2.2.2.2.1
          obtain ⟨y, fr', hfr⟩ : ∃ y fr', (List.range k).map (k + ·) = y :: fr' := by
            cases k with
            | zero => omega
            | succ k => exact ⟨_, _, by rw [List.range_succ_eq_map]; rfl⟩
          have hlo := LO.out
          rw [hfr] at hlo
          refine ⟨q', r', cq', cr', a2, F2, g', k2, y, fr', KL ++ List.replicate k 0, ⟨hob, hlo, ?_, by rw [List.length_append, List.length_replicate, h1.kl]; exact ha, fun z hz => ?_, map_of hE.2.2.2.2.1 (KP.out.block m hml hmO), by rw [ent_app hkl]; exact h1.mf, fun n hn => ?_, ⟨h1.db.1, hE.2.1.1, hE.2.1.2.1, hE.1.1.symm, h1.db.2.2.2.2⟩, ⟨hE.1.2.1, hE.1.2.2.1, hE.1.2.2.2.1, hE.1.2.2.2.2⟩, ⟨h1.dm.1, hE.2.1.2.2.1, hE.2.1.2.2.2⟩⟩, kys_app hkl, .inr hE.2.2.2.2.2.2.1, .inr hE.2.2.2.2.2.2.2.1, hE.2.2.2.2.2.2.2.2, by have := hNB.out; omega, ?_⟩
          · have e1 : (ints (KL ++ List.replicate k 0)).map (Value.int .u32) = (ints KL).map (Value.int .u32) ++ List.replicate k (.int .u32 0) := by unfold ints; simp
            rw [e1]
            exact own_of hE.2.2.2.1 (KP.out.block g' hgl hg'O)
          · rcases List.mem_append.1 hz with hz | hz
            · exact h1.kw z hz
            · have := List.eq_of_mem_replicate hz; omega
          · rcases Nat.lt_or_ge n k with h | h
            · rcases h1.pt n h with h | h
              · exact .inl h
              · cases h
            · refine .inr ?_
              rw [← hfr]
              exact List.mem_map.2 ⟨n - k, List.mem_range.2 (by omega), by omega⟩
          · refine kp_trans2' hE.2.2.2.2.2.1 KP.out fun x hx h => ?_
            rcases h with h | h | h
            · exact .inr (.inl (.inl h))
            · omega
            · omega
    · have hjl : (j : Int) < (N : Int) := by omega
      have j0 : (0 : Int) ≤ (j : Int) := by omega
      have wu := IntWalk.u32_in (j : Int) (by omega)
      have wi := IntWalk.i64_in ((j : Int) + 1) (by omega)
      have f1 := rw0.fr j
      have k1 := rw0.cell j (by omega)
      rw [if_neg (by omega)] at k1
      have RS := Lib.hid ((rw0.set j (.int .u32 (j : Int))).congr (g := fun k => if k < j + 1 then .int .u32 (k : Int) else .int .u32 0) (fun k _ => by
        by_cases hk : k = j
        · subst hk; simp
        · by_cases hk2 : k < j
          · simp [hk, hk2, show k < j + 1 by omega]
          · simp [hk, hk2, show ¬ k < j + 1 by omega]))
      have BS := Lib.hid (BW.out.setCell (p := ⟨w.heap.size, j, none⟩) (Nat.le_refl _) (.int .u32 (j : Int)))
      clear rw0 b0
      go_wp2_with fail
      go_roundw
      case rel => exact ⟨j + 1, by omega, by go_num, RS.out, BS.out⟩
      case measure => simp [intOf]; omega
end Go.Proofs.Ytggimkfepcgaoaa.Gho
end
