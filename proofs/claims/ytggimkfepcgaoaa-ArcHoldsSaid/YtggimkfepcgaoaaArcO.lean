/-
  Adaptive replacement (layer 29), the law of what holds: the maps, the state.
-/
import Derived.Test.YtggimkfepcgaoaaArcJ
import Derived.Test.YtggimkfepcgaoaaArcL
import Derived.Test.YtggimkfepcgaoaaGhoR
set_option linter.unusedVariables false
set_option linter.unusedSimpArgs false
section
namespace Go.Proofs.Ytggimkfepcgaoaa.Arc
open Go Go.RowKit Kit Go.Maps Lnk Gho
theorem und_mapb : Try.prog.underlying 106 = some (.map 38 4) := by kernel_rfl
theorem und_bool : Try.prog.underlying 4 = some .bool := by kernel_rfl
abbrev OwnB (W : World) (m N : Nat) (D : DataW Unit) : Prop := W.ownsMap Try.prog 38 (plainElem Try.prog 4) m N D
/-- the keys that are there -/
structure Mb (D : DataW Unit) (S : List Nat) : Prop where
  has_ : ∀ k : Nat, has D (.int .u32 (k : Int)) = decide (k ∈ S)
  val : ∀ k : Nat, k ∈ S → ∀ z, D.atKey (.int .u32 (k : Int)) z = .lit (.bool true)
  size : Maps.size D = S.length
  nd : S.Nodup
theorem Mb.nil : Mb (.map []) [] := ⟨fun k => rfl, fun k h => (by cases h), rfl, List.nodup_nil⟩
theorem Mb.put {D : DataW Unit} {S : List Nat} (h : Mb D S) (ht : Tidy D) (k : Nat) : Mb (D.put (.int .u32 (k : Int)) (.lit (.bool true))) (k :: S.erase k) := by
  have hkl : WideAt.IsKeyLit (Lit.int .u32 (k : Int)) := by trivial
  refine ⟨fun j => ?_, fun j hj z => ?_, ?_, List.nodup_cons.2 ⟨fun hm => (h.nd.mem_erase_iff.1 hm).1 rfl, h.nd.erase _⟩⟩
  · by_cases hjk : j = k
    · subst hjk; rw [has_put_same ht.isMap hkl]; simp
    · rw [has_put_other (key_ne hjk), h.has_]
      simp [hjk, h.nd.mem_erase_iff]
  · by_cases hjk : j = k
    · subst hjk; exact atKey_put_same ht.isMap hkl _ z
    · rw [atKey_put_other (key_ne hjk)]
      rcases List.mem_cons.1 hj with h1 | h1
      · exact absurd h1 hjk
      · exact h.val j (h.nd.mem_erase_iff.1 h1).2 z
  · rw [size_put ht, h.has_, h.size, List.length_cons, List.length_erase]
    by_cases hk : k ∈ S
    · have := List.length_pos_of_mem hk
      simp only [hk, decide_true, if_true]; omega
    · simp only [hk, decide_false, if_false]; simp
theorem Mb.del {D : DataW Unit} {S : List Nat} (h : Mb D S) (ht : Tidy D) (k : Nat) : Mb (D.del (.int .u32 (k : Int))) (S.erase k) := by
  refine ⟨fun j => ?_, fun j hj z => ?_, ?_, h.nd.erase _⟩
  · by_cases hjk : j = k
    · subst hjk; rw [has_del_same]; simp [h.nd.mem_erase_iff]
    · rw [has_del_other (key_ne hjk), h.has_]; simp [hjk, h.nd.mem_erase_iff]
  · have hj' := h.nd.mem_erase_iff.1 hj
    rw [atKey_del_other (key_ne hj'.1)]
    exact h.val j hj'.2 z
  · have h1 := size_del ht (k := .int .u32 (k : Int))
    rw [h.has_, h.size] at h1
    rw [List.length_erase]
    by_cases hk : k ∈ S
    · simp only [hk, decide_true, if_true] at h1 ⊢; omega
    · simp only [hk, decide_false, if_false] at h1 ⊢; simpa using h1
set_option maxRecDepth 100000 in
theorem lookb {W : World} {m N : Nat} {D : DataW Unit} {S : List Nat} (h3 : OwnB W m N D) (h4 : Mb D S) {k : Nat} (hk : k < 4294967296) :
    (Instr.lookup 106 (.map (some m)) (.int .u32 (k : Int)) false).run Try.prog W = .ok (.bool (decide (k ∈ S))) W := by
  have K := Maps.int_keyed (P := Try.prog) und_u32
  have hkey := Maps.keyOf_int_mk (P := Try.prog) und_u32 (wf32 hk)
  have hz : (zeroValue 4).run Try.prog W = .ok (.bool false) W := by kernel_rfl
  obtain ⟨v, ps, hrun, hR⟩ := h3.lookup K und_mapb hz (plainElem_bool und_bool false) hkey
  have hv : ∃ b, v = .bool b ∧ D.atKey (.int .u32 (k : Int)) (.lit (.bool false)) = .lit (.bool b) := by
    unfold plainElem at hR
    rw [und_bool] at hR
    cases v <;> simp at hR
    exact ⟨_, rfl, hR.1.symm⟩
  obtain ⟨b, rfl, hb⟩ := hv
  rw [hrun]
  by_cases hS : k ∈ S
  · rw [h4.val k hS] at hb
    injection hb with hb
    injection hb with hb
    rw [← hb, decide_eq_true hS]
  · rw [atKey_of_not_has (by rw [h4.has_, decide_eq_false hS])] at hb
    injection hb with hb
    injection hb with hb
    rw [← hb, decide_eq_false hS]
set_option maxRecDepth 100000 in
/-- a number that is not there is 0 -/
theorem looki_zero {W : World} {m N : Nat} {D : DataW Unit} {S : List (Nat × Nat)} (h3 : W.ownsMap Try.prog 38 (plainElem Try.prog 3) m N D) (h4 : Mi D S) {k : Nat} (hk : k < 4294967296) (hm : ∀ n, (k, n) ∉ S) :
    (Instr.lookup 74 (.map (some m)) (.int .u32 (k : Int)) false).run Try.prog W = .ok (.int .i64 0) W := by
  have K := Maps.int_keyed (P := Try.prog) und_u32
  have hkey := Maps.keyOf_int_mk (P := Try.prog) und_u32 (wf32 hk)
  have hz : (zeroValue 3).run Try.prog W = .ok (.int .i64 0) W := by kernel_rfl
  obtain ⟨v, ps, hrun, hR⟩ := h3.lookup K und_mapi hz (plainElem_int und_int (by decide)) hkey
  obtain ⟨c, rfl, hc, -⟩ := plainElem_int_inv und_int hR
  have h2 := congrArg Prod.fst hc
  simp only at h2
  rw [atKey_of_not_has (h4.no k hm)] at h2
  injection h2 with h2
  injection h2 with _ h2
  rw [hrun, ← h2]
/-- the calls: what, key -/
def Ac2 (B : Nat) (w : World) (a : Option Addr) (len : Nat) (f0 f1 : Nat → Int) : Prop := ∀ i, i < len → ∃ x, a = some x ∧ x.block < B ∧ w.cell? (x.add (i * 2)) = some (.int .i64 (f0 i)) ∧ w.cell? ⟨(x.add (i * 2)).block, (x.add (i * 2)).off + 1, none⟩ = some (.int .u32 (f1 i)) ∧ 0 ≤ f1 i ∧ f1 i < 4294967296
theorem a2_pos (x : Addr) (m k : Nat) (hk : k ≠ 0) : x.add (m + k) = ⟨(x.add m).block, (x.add m).off + k, none⟩ := by
  unfold Addr.add
  by_cases h1 : m = 0
  · subst h1; simp [hk]
  · simp [h1, hk, Nat.add_assoc]
theorem a2_block (x : Addr) (m : Nat) : (x.add m).block = x.block := by unfold Addr.add; split <;> rfl
theorem a2_lt {w : World} {x : Addr} {v : Value} (h : w.cell? x = some v) : x.block < w.heap.size := by
  rcases Nat.lt_or_ge x.block w.heap.size with h' | h'
  · exact h'
  · simp [World.cell?, Array.getElem?_eq_none h'] at h
theorem a2_u32 {z : Int} (h : (Lit.int .u32 z).wf = true) : 0 ≤ z ∧ z < 4294967296 := by
  have h' : (decide ((0 : Int) ≤ z) && decide (z ≤ 4294967295)) = true := h
  simp at h'
  omega
theorem ac2_of {w : World} {a : Option Addr} {len cap : Nat} (h : (a = none ∧ len = 0) ∨ ∃ x, a = some x ∧ len ≤ cap ∧ cap ≤ maxLen ∧ ∀ i, i < len → ∃ (z0 : Int) (z1 : Int), w.cell? (x.add (i * 2 + 0)) = some (.int .i64 z0) ∧ w.cell? (x.add (i * 2 + 1)) = some (.int .u32 z1) ∧ (Lit.int .i64 z0).wf = true ∧ (Lit.int .u32 z1).wf = true) :
    ∃ f0 f1, Ac2 w.heap.size w a len f0 f1 := by
  rcases h with ⟨-, rfl⟩ | ⟨x, rfl, -, -, h⟩
  · exact ⟨fun _ => 0, fun _ => 0, fun i hi => by omega⟩
  · have h' : ∀ i : Nat, ∃ p : Int × Int, i < len → x.block < w.heap.size ∧ w.cell? (x.add (i * 2)) = some (.int .i64 p.1) ∧ w.cell? ⟨(x.add (i * 2)).block, (x.add (i * 2)).off + 1, none⟩ = some (.int .u32 p.2) ∧ 0 ≤ p.2 ∧ p.2 < 4294967296 := fun i => by
      by_cases hi : i < len
      · obtain ⟨z0, z1, h0, h1, -, h3⟩ := h i hi
        rw [a2_pos x _ 1 (by decide)] at h1
        rw [Nat.add_zero] at h0
        have := a2_lt h0
        rw [a2_block] at this
        exact ⟨(z0, z1), fun _ => ⟨this, h0, h1, a2_u32 h3⟩⟩
      · exact ⟨(0, 0), fun hh => absurd hh hi⟩
    refine ⟨fun i => (h' i).choose.1, fun i => (h' i).choose.2, fun i hi => ?_⟩
    exact ⟨x, rfl, (h' i).choose_spec hi⟩
theorem Ac2.below {B : Nat} {w w' : World} {a : Option Addr} {len : Nat} {f0 f1 : Nat → Int} (h : Ac2 B w a len f0 f1) (hb : Below B w w') : Ac2 B w' a len f0 f1 := fun i hi => by
  obtain ⟨x, h0, hx, h3, h4, h6⟩ := h i hi
  have e := hb.block x.block hx
  refine ⟨x, h0, hx, ?_, ?_, h6⟩
  · exact (World.cell?_of_block (a := x.add (i * 2)) (show w'.heap[(x.add (i * 2)).block]? = w.heap[(x.add (i * 2)).block]? by rw [a2_block]; exact e)).trans h3
  · exact (World.cell?_of_block (a := ⟨(x.add (i * 2)).block, (x.add (i * 2)).off + 1, none⟩) (show w'.heap[(x.add (i * 2)).block]? = w.heap[(x.add (i * 2)).block]? by rw [a2_block]; exact e)).trans h4
/-- the state between two calls, and within a round (Y: the call's box) -/
structure Ah (w v : World) (o K s m N : Nat) (t : Int) (b : Nat → Nat) (L : Nat → List Nat) (D : DataW Unit) (S : List Nat) (Y : Nat → Prop) : Prop where
  ax : Ax w v o K s t b L (fun k => k = m ∨ Y k)
  ow : OwnB v m N D
  mb : Mb D S
  ml : w.heap.size ≤ m
  ym : ¬ Y m
section
variable {w v v' : World} {o K s m N : Nat} {t : Int} {b : Nat → Nat} {L : Nat → List Nat} {D : DataW Unit} {S : List Nat} {Y : Nat → Prop}
theorem ownB_keep {W W' : World} (h : OwnB W m N D) (hb : W'.heap[m]? = W.heap[m]?) : OwnB W' m N D := by
  obtain ⟨es, clock, h1, r⟩ := h
  exact ⟨es, clock, hb.trans h1, r⟩
theorem Ah.mlt (h : Ah w v o K s m N t b L D S Y) : m < v.heap.size := World.ownsMap.lt h.ow
theorem Ah.op {K' : Nat} {t' : Int} {L' : Nat → List Nat} (h : Ah w v o K s m N t b L D S Y) (hr : AxR w v v' o K' s t' b L' (fun k => k = m ∨ Y k)) : Ah w v' o K' s m N t' b L' D S Y :=
  ⟨hr.1, ownB_keep h.ow (hr.2.1 m (.inl rfl)), h.mb, h.ml, h.ym⟩
theorem Ah.below (h : Ah w v o K s m N t b L D S Y) (hb : Below v.heap.size v v') : Ah w v' o K s m N t b L D S Y :=
  ⟨h.ax.below' hb, ownB_keep h.ow (hb.block m h.mlt), h.mb, h.ml, h.ym⟩
/-- more blocks are set aside -/
theorem Ah.more {Y' : Nat → Prop} (h : Ah w v o K s m N t b L D S Y) (hb : Below v.heap.size v v') (hY : ∀ k, Y' k → Y k ∨ (v.heap.size ≤ k ∧ k < v'.heap.size)) : Ah w v' o K s m N t b L D S Y' :=
  ⟨(h.ax.below hb).only fun k hk => by
    rcases hk with hk | hk
    · exact .inl (.inl hk)
    · exact (hY k hk).imp .inr id, ownB_keep h.ow (hb.block m h.mlt), h.mb, h.ml, fun hm => by
    rcases hY m hm with h1 | h1
    · exact h.ym h1
    · have := h.mlt; omega⟩
theorem Ah.only {Y' : Nat → Prop} (h : Ah w v o K s m N t b L D S Y) (hY : ∀ k, Y' k → Y k) : Ah w v o K s m N t b L D S Y' :=
  ⟨h.ax.only fun k hk => hk.imp id (hY k), h.ow, h.mb, h.ml, fun hm => h.ym (hY m hm)⟩
/-- the map is turned -/
theorem Ah.turn {N' : Nat} {D' : DataW Unit} {S' : List Nat} (h : Ah w v o K s m N t b L D S Y) (hy : ∀ k, Y k → w.heap.size ≤ k) (ho : OwnB v' m N' D') (hk : Kp (fun k => k = m) v v') (hm : Mb D' S') : Ah w v' o K s m N' t b L D' S' Y :=
  ⟨(h.ax.aside hk (fun k _ e => by subst e; exact ⟨.inl rfl, h.ml⟩)).only fun k hk => .inl hk, ho, hm, h.ml, h.ym⟩
theorem kp_grownM {w v : World} {m : Nat} (h : w.grownBy v (some m)) : Kp (fun j => j = m) w v := by
  obtain ⟨e1, e2, e3, e4, e5⟩ := h
  refine ⟨?_, ?_, ?_, by omega, fun j hj hne => e5 j hj (by simpa using hne)⟩
  · first | exact e1 | exact e1.symm
  · first | exact e2 | exact e2.symm
  · first | exact e3 | exact e3.symm
/-- what lies aside lies as it lay -/
theorem Ah.aside (h : Ah w v o K s m N t b L D S Y) {K' : Nat} {t' : Int} {L' : Nat → List Nat} (hr : AxR w v v' o K' s t' b L' (fun k => k = m ∨ Y k)) {k : Nat} (hk : Y k) : v'.heap[k]? = v.heap[k]? := hr.2.1 k (.inr hk)
end
end Go.Proofs.Ytggimkfepcgaoaa.Arc
end
section
namespace Go.Proofs.Ytggimkfepcgaoaa.Arc
open Go Go.RowKit Kit Go.Maps Lnk Gho
/-- the rows of the four lists, in a row at block g, as long as block m2 alone is turned -/
structure Rf4 (V : World) (m2 g : Nat) (L : Nat → List Nat) (pp : Nat → Option Addr) (nn kk : Nat → Nat) : Prop where
  row : ∀ i, i < 4 → ∀ v, Kp (fun j => j = m2) V v → v.cell? ⟨g, i, none⟩ = some (.slice (pp i) (nn i) (kk i))
  len : ∀ i, i < 4 → (L i).length = nn i
  at_ : ∀ i, i < 4 → ∀ j y : Nat, (L i)[j]? = some y → ∃ ad, pp i = some ad ∧ ∀ v, Kp (fun j => j = m2) V v → v.cell? (ad.add j) = some (.int .u32 (y : Int))
theorem ru_rf {W V : World} {m2 : Nat} {p : Option Addr} {l : List Nat} (h : Ru W p (ints l)) (hb : Below W.heap.size W V) (hm : W.heap.size ≤ m2) : ∀ j y : Nat, l[j]? = some y → ∃ ad, p = some ad ∧ ∀ v, Kp (fun j => j = m2) V v → v.cell? (ad.add j) = some (.int .u32 (y : Int)) := fun j y hy => by
  obtain ⟨ad, rfl, h1, h2⟩ := h j (y : Int) (by unfold ints; rw [List.getElem?_map, hy]; rfl)
  refine ⟨ad, rfl, fun v hk => (World.cell?_of_block (a := ad.add j) ?_).trans h2⟩
  rw [add_block]
  exact (hk.block ad.block (Nat.lt_of_lt_of_le h1 hb.size) (by omega)).trans (hb.block ad.block h1)
theorem rf4_of {W V : World} {m2 g : Nat} {L : Nat → List Nat} {p0 p1 p2 p3 : Option Addr} {n0 n1 n2 n3 k0 k1 k2 k3 : Nat} (hr : Rows4 W L p0 p1 p2 p3) (hb : Below W.heap.size W V) (hm : W.heap.size ≤ m2) (hn : (L 0).length = n0 ∧ (L 1).length = n1 ∧ (L 2).length = n2 ∧ (L 3).length = n3) {ty : TypeId}
    (hx : V.heap[g]? = some (.cells #[.slice p0 n0 k0, .slice p1 n1 k1, .slice p2 n2 k2, .slice p3 n3 k3] ty (0, 0))) (hg : g ≠ m2) : ∃ pp nn kk, Rf4 V m2 g L pp nn kk := by
  have hgl := (Array.getElem?_eq_some_iff.1 hx).1
  refine ⟨fun i => match i with | 0 => p0 | 1 => p1 | 2 => p2 | _ => p3, fun i => match i with | 0 => n0 | 1 => n1 | 2 => n2 | _ => n3, fun i => match i with | 0 => k0 | 1 => k1 | 2 => k2 | _ => k3, fun i hi v hk => ?_, fun i hi => ?_, fun i hi => ?_⟩
  · have hv := (hk.block g hgl hg).trans hx
    match i, hi with
    | 0, _ => simp [World.cell?, hv]
    | 1, _ => simp [World.cell?, hv]
    | 2, _ => simp [World.cell?, hv]
    | 3, _ => simp [World.cell?, hv]
  · match i, hi with
    | 0, _ => exact hn.1
    | 1, _ => exact hn.2.1
    | 2, _ => exact hn.2.2.1
    | 3, _ => exact hn.2.2.2
  · match i, hi with
    | 0, _ => exact ru_rf hr.1 hb hm
    | 1, _ => exact ru_rf hr.2.1 hb hm
    | 2, _ => exact ru_rf hr.2.2.1 hb hm
    | 3, _ => exact ru_rf hr.2.2.2 hb hm
/-- the keys Q have come: the map of numbers at m2 -/
structure Tl (V v : World) (m2 B : Nat) (Q : List Nat) : Prop where
  kp : Kp (fun j => j = m2) V v
  mo : ∃ nm D, nm ≤ B ∧ v.ownsMap Try.prog 38 (plainElem Try.prog 3) m2 nm D ∧ Mi D (Q.map fun k => (k, 1))
/-- which keys have come: those of the lists before i, and the first j of list i -/
def Qm (L : Nat → List Nat) (i j : Nat) (Q : List Nat) : Prop := ∀ y, y ∈ Q ↔ (∃ i', i' < i ∧ y ∈ L i') ∨ y ∈ (L i).take j
theorem Qm.new {L : Nat → List Nat} {i j y : Nat} {Q : List Nat} (h : Qm L i j Q) (nd : Nd L) (hi : i < 4) (hy : (L i)[j]? = some y) : y ∉ Q := fun hq => by
  have hm := List.mem_of_getElem? hy
  rcases (h y).1 hq with ⟨i', h1, h2⟩ | h2
  · have := nd.two i' i y (by omega) hi h2 hm
    omega
  · have hn := nd.one i hi
    obtain ⟨hj, he⟩ := List.getElem?_eq_some_iff.1 hy
    obtain ⟨k, hk, hke⟩ := List.getElem_of_mem h2
    rw [List.length_take] at hk
    rw [List.getElem_take] at hke
    have := (List.getElem_inj hn).1 (hke.trans he.symm)
    omega
theorem Qm.next {L : Nat → List Nat} {i j y : Nat} {Q : List Nat} (h : Qm L i j Q) (hy : (L i)[j]? = some y) : Qm L i (j + 1) (y :: Q) := fun z => by
  rw [List.mem_cons, h z, List.take_add_one, hy, List.mem_append]
  simp only [Option.toList_some, List.mem_singleton]
  constructor
  · rintro (h | h | h)
    · exact .inr (.inr h)
    · exact .inl h
    · exact .inr (.inl h)
  · rintro (h | h | h)
    · exact .inr (.inl h)
    · exact .inr (.inr h)
    · exact .inl h
theorem Qm.end_ {L : Nat → List Nat} {i n : Nat} {Q : List Nat} (h : Qm L i n Q) (hn : (L i).length = n) : Qm L (i + 1) 0 Q := fun z => by
  rw [h z, List.take_of_length_le (by omega), List.take_zero]
  constructor
  · rintro (⟨i', h1, h2⟩ | h)
    · exact .inl ⟨i', by omega, h2⟩
    · exact .inl ⟨i, by omega, h⟩
  · rintro (⟨i', h1, h2⟩ | h)
    · rcases Nat.lt_or_ge i' i with h3 | h3
      · exact .inl ⟨i', h3, h2⟩
      · obtain rfl : i' = i := by omega
        exact .inr h2
    · cases h
theorem Qm.zero {L : Nat → List Nat} : Qm L 0 0 [] := fun z => by
  constructor
  · intro h; cases h
  · rintro (⟨i', h1, -⟩ | h)
    · omega
    · cases h
theorem Tl.zero {V v : World} {m2 B : Nat} {y : Nat} {Q : List Nat} (h : Tl V v m2 B Q) (hy : y < 4294967296) (hq : y ∉ Q) : (Instr.lookup 74 (.map (some m2)) (.int .u32 (y : Int)) false).run Try.prog v = .ok (.int .i64 0) v := by
  obtain ⟨nm, D, -, ho, hm⟩ := h.mo
  exact looki_zero ho hm hy fun n hn => hq (by obtain ⟨z, hz, e⟩ := List.mem_map.1 hn; cases e; exact hz)
theorem Tl.one {V v : World} {m2 B : Nat} {y : Nat} {Q : List Nat} (h : Tl V v m2 B Q) (hy : y < 4294967296) (hq : y ∈ Q) : (Instr.lookup 74 (.map (some m2)) (.int .u32 (y : Int)) false).run Try.prog v = .ok (.int .i64 1) v := by
  obtain ⟨nm, D, -, ho, hm⟩ := h.mo
  exact looki_one ho hm hy (List.mem_map.2 ⟨y, hq, rfl⟩)
theorem Tl.put {V v v' : World} {m2 B nm : Nat} {y : Nat} {Q : List Nat} {D : DataW Unit} (hk0 : Kp (fun j => j = m2) V v) (hm : Mi D (Q.map fun k => (k, 1))) (ht : Tidy D) (hq : y ∉ Q) (hk : Kp (fun j => j = m2) v v') (hB : nm ≤ B) (ho : v'.ownsMap Try.prog 38 (plainElem Try.prog 3) m2 nm (D.put (.int .u32 (y : Int)) (.lit (.int .i64 1)))) : Tl V v' m2 B (y :: Q) := by
  refine ⟨hk0.trans hk, nm, _, hB, ho, ?_⟩
  have h := hm.put ht y 1
  rw [wo_no (by
    intro h
    obtain ⟨⟨a, c⟩, h1, rfl⟩ := List.mem_map.1 h
    obtain ⟨z, hz, e⟩ := List.mem_map.1 h1
    cases e
    exact hq hz)] at h
  exact h
section
variable {w v v' : World} {o K s m N : Nat} {t : Int} {b : Nat → Nat} {L : Nat → List Nat} {D : DataW Unit} {S : List Nat} {Y : Nat → Prop}
/-- blocks set aside are turned -/
theorem Ah.keep {m2 : Nat} (h : Ah w v o K s m N t b L D S Y) (hk : Kp (fun j => j = m2) v v') (hY : Y m2) (hw : w.heap.size ≤ m2) : Ah w v' o K s m N t b L D S Y :=
  ⟨(h.ax.aside hk (fun k _ e => by subst e; exact ⟨.inr hY, hw⟩)).only fun k hk => .inl hk, ownB_keep h.ow (hk.block m h.mlt fun e => h.ym (e ▸ hY)), h.mb, h.ml, h.ym⟩
end
end Go.Proofs.Ytggimkfepcgaoaa.Arc
end
