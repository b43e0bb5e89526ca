/-
  Second chance (layer 31): the law without a reference.
-/
import Derived.Test.YteppcjolgpdenaaSeqX
import Derived.Test.YteppcjolgpdenaaSeqV
import Derived.Maps.RangeWalk
set_option linter.unusedVariables false
set_option linter.unusedSimpArgs false
namespace Go.Proofs.Yteppcjolgpdenaa.Seq
open Go Go.RowKit Kit Go.Maps
theorem und_mapb : Try.prog.underlying 42 = some (.map 40 4) := by kernel_rfl
theorem und_bool : Try.prog.underlying 4 = some .bool := by kernel_rfl
/-- the keys that are there -/
structure Mt (D : DataW Unit) (S : Int → Bool) (N : Nat) : Prop where
  has_ : ∀ k, has D (.int .u32 k) = S k
  val : ∀ k, S k = true → ∀ z, D.atKey (.int .u32 k) z = .lit (.bool true)
  size : Maps.size D = N
abbrev OwnB (W : World) (m N : Nat) (D : DataW Unit) : Prop := W.ownsMap Try.prog 40 (plainElem Try.prog 4) m N D
theorem Mt.put {D : DataW Unit} {S : Int → Bool} {N : Nat} (h : Mt D S N) (ht : Tidy D) (k : Int) : Mt (D.put (.int .u32 k) (.lit (.bool true))) (fun j => decide (j = k) || S j) (if S k then N else N + 1) := by
  have hkl : WideAt.IsKeyLit (Lit.int .u32 k) := by trivial
  have hne : ∀ {k' : Int}, k' ≠ k → (Lit.int .u32 k') ≠ (Lit.int .u32 k) := fun h1 h2 => h1 (by injection h2)
  refine ⟨fun j => ?_, fun j hj z => ?_, ?_⟩
  · by_cases hjk : j = k
    · subst hjk; rw [has_put_same ht.isMap hkl]; simp
    · rw [has_put_other (hne hjk), h.has_]; simp [hjk]
  · by_cases hjk : j = k
    · subst hjk; exact atKey_put_same ht.isMap hkl _ z
    · rw [atKey_put_other (hne hjk)]
      exact h.val j (by simpa [hjk] using hj) z
  · rw [size_put ht, h.has_, h.size]
theorem Mt.del {D : DataW Unit} {S : Int → Bool} {N : Nat} (h : Mt D S N) (ht : Tidy D) (k : Int) : Mt (D.del (.int .u32 k)) (fun j => S j && !decide (j = k)) (N - (if S k then 1 else 0)) := by
  have hne : ∀ {k' : Int}, k' ≠ k → (Lit.int .u32 k') ≠ (Lit.int .u32 k) := fun h1 h2 => h1 (by injection h2)
  refine ⟨fun j => ?_, fun j hj z => ?_, ?_⟩
  · by_cases hjk : j = k
    · subst hjk; rw [has_del_same]; simp
    · rw [has_del_other (hne hjk), h.has_]; simp [hjk]
  · by_cases hjk : j = k
    · subst hjk; simp at hj
    · rw [atKey_del_other (hne hjk)]
      exact h.val j (by simpa [hjk] using hj) z
  · have := size_del ht (k := .int .u32 k)
    rw [h.has_, h.size] at this
    omega
theorem Mt.of {D : DataW Unit} {S S' : Int → Bool} {N N' : Nat} (h : Mt D S N) (hS : ∀ j, S j = S' j) (hN : N = N') : Mt D S' N' := by
  rw [show S' = S from funext fun j => (hS j).symm, ← hN]; exact h
theorem look_there {W : World} {m N : Nat} {D : DataW Unit} {S : Int → Bool} {L : Nat} (h3 : OwnB W m N D) (h4 : Mt D S L) (k : Int) (hk : (Lit.int .u32 k).wf = true) :
    (Instr.lookup 42 (.map (some m)) (.int .u32 k) false).run Try.prog W = .ok (.bool (S k)) W := by
  have K := Maps.int_keyed (P := Try.prog) und_u32
  have hkey := Maps.keyOf_int_mk (P := Try.prog) und_u32 hk
  have hz : (zeroValue 4).run Try.prog W = .ok (.bool false) W := by kernel_rfl
  obtain ⟨v, ps, hrun, hR⟩ := h3.lookup K und_mapb hz (plainElem_bool und_bool false) hkey
  have hv : ∃ b, v = .bool b ∧ D.atKey (.int .u32 k) (.lit (.bool false)) = .lit (.bool b) := by
    unfold plainElem at hR
    rw [und_bool] at hR
    cases v <;> simp at hR
    exact ⟨_, rfl, hR.1.symm⟩
  obtain ⟨b, rfl, hb⟩ := hv
  rw [hrun]
  cases hS : S k with
  | true =>
    rw [h4.val k hS] at hb
    injection hb with hb
    injection hb with hb
    rw [← hb]
  | false =>
    rw [atKey_of_not_has (by rw [h4.has_, hS])] at hb
    injection hb with hb
    injection hb with hb
    rw [← hb]
theorem Sc.uq {W : World} {c lo hi : Nat} {l : List Pl} {h : Nat} (H : Sc W c lo hi l h) : Uq l := by
  obtain ⟨q, m, cap, N, D, H, M⟩ := H.so
  exact fun k i j => M.uni
theorem tightB {W : World} {m N : Nat} {D : DataW Unit} (h : OwnB W m N D) : OwnB W m (Maps.size D) D := by
  obtain ⟨es, clock, h1, F, hs, rfl⟩ := h
  exact ⟨es, clock, h1, F, by simp [Maps.size, length_sorted], rfl⟩
theorem ownB_keep {W W' : World} {m N : Nat} {D : DataW Unit} (h : OwnB W m N D) (hb : W'.heap[m]? = W.heap[m]?) : OwnB W' m N D := by
  obtain ⟨es, clock, h1, r⟩ := h
  exact ⟨es, clock, hb.trans h1, r⟩
/-- two objects and a map -/
structure Hs (W w : World) (n i c lo hi d lo2 hi2 m : Nat) (l : List Pl) (h : Nat) (ld : List Pl) (hd : Nat) (D : DataW Unit) (S : Int → Bool) (L : Nat) : Prop where
  s : Sc w c lo hi l h
  t : Sc w d lo2 hi2 ld hd
  o : OwnB w m (Maps.size D) D
  mt : Mt D S L
  sm : L ≤ 1024
  dn : Dn n i ld hd
  ln : l.length = n
  b : Below W.heap.size W w
  d1 : W.heap.size ≤ lo
  d2 : hi ≤ lo2
  d3 : hi2 ≤ m
  d4 : m < w.heap.size
  d5 : lo < hi
  d6 : lo2 < hi2
theorem Sc.lohi {W : World} {c lo hi : Nat} {l : List Pl} {h : Nat} (H : Sc W c lo hi l h) : lo < hi := by
  obtain ⟨q, m, cap, N, D, H, M⟩ := H.so
  have := H.b1
  omega
theorem Hs.far {W w v : World} {n i c lo hi d lo2 hi2 m : Nat} {l : List Pl} {h : Nat} {ld : List Pl} {hd : Nat} {D : DataW Unit} {S : Int → Bool} {L : Nat} (H : Hs W w n i c lo hi d lo2 hi2 m l h ld hd D S L) {a b : Nat} (hk : Keep a b w v) (ha : m < a) : Hs W v n i c lo hi d lo2 hi2 m l h ld hd D S L := by
  have h1 := H.d1; have h2 := H.d2; have h3 := H.d3; have h4 := H.d5; have h5 := H.d6
  exact ⟨H.s.keep hk (by omega), H.t.keep hk (by omega), ownB_keep H.o (hk.block m H.d4 (by omega)), H.mt, H.sm, H.dn, H.ln, H.b.trans (hk.below (by omega) H.b.size), h1, h2, h3, Nat.lt_of_lt_of_le H.d4 hk.size, h4, h5⟩
theorem Hs.below {W w v : World} {n i c lo hi d lo2 hi2 m : Nat} {l : List Pl} {h : Nat} {ld : List Pl} {hd : Nat} {D : DataW Unit} {S : Int → Bool} {L : Nat} (H : Hs W w n i c lo hi d lo2 hi2 m l h ld hd D S L) (hb : Below w.heap.size w v) : Hs W v n i c lo hi d lo2 hi2 m l h ld hd D S L :=
  H.far (Keep.of (lo := w.heap.size) (hi := w.heap.size) hb) H.d4
theorem Hs.obj {W w v : World} {n i c lo hi d lo2 hi2 m : Nat} {l l' : List Pl} {h h' : Nat} {ld : List Pl} {hd : Nat} {D : DataW Unit} {S : Int → Bool} {L : Nat} (H : Hs W w n i c lo hi d lo2 hi2 m l h ld hd D S L) (hs : Sc v c lo hi l' h') (hk : Keep lo hi w v) (hl : l'.length = n) : Hs W v n i c lo hi d lo2 hi2 m l' h' ld hd D S L := by
  have h1 := H.d1; have h2 := H.d2; have h3 := H.d3; have h4 := H.d5; have h5 := H.d6
  exact ⟨hs, H.t.keep hk (by omega), ownB_keep H.o (hk.block m H.d4 (by omega)), H.mt, H.sm, H.dn, hl, H.b.trans (hk.below h1 H.b.size), h1, h2, h3, Nat.lt_of_lt_of_le H.d4 hk.size, h4, h5⟩
theorem Hs.obj2 {W w v : World} {n i i' c lo hi d lo2 hi2 m : Nat} {l : List Pl} {h : Nat} {ld ld' : List Pl} {hd hd' : Nat} {D : DataW Unit} {S : Int → Bool} {L : Nat} (H : Hs W w n i c lo hi d lo2 hi2 m l h ld hd D S L) (hs : Sc v d lo2 hi2 ld' hd') (hk : Keep lo2 hi2 w v) (hdn : Dn n i' ld' hd') : Hs W v n i' c lo hi d lo2 hi2 m l h ld' hd' D S L := by
  have h1 := H.d1; have h2 := H.d2; have h3 := H.d3; have h4 := H.d5; have h5 := H.d6
  exact ⟨H.s.keep hk (by omega), hs, ownB_keep H.o (hk.block m H.d4 (by omega)), H.mt, H.sm, hdn, H.ln, H.b.trans (hk.below (by omega) H.b.size), h1, h2, h3, Nat.lt_of_lt_of_le H.d4 hk.size, h4, h5⟩
theorem turned_keep {w v : World} {m : Nat} (h : w.mapTurned v m) : Keep m (m + 1) w v := by
  obtain ⟨e1, e2, e3, e4, e5⟩ := h.grown
  exact ⟨by first | exact e1 | exact e1.symm, by first | exact e2 | exact e2.symm, by first | exact e3 | exact e3.symm, e4, fun k hk hne => e5 k hk (by simp; omega)⟩
/-- the map is written -/
theorem Hs.turn {W w v : World} {n i c lo hi d lo2 hi2 m N : Nat} {l : List Pl} {h : Nat} {ld : List Pl} {hd : Nat} {D D' : DataW Unit} {S S' : Int → Bool} {L L' : Nat} (H : Hs W w n i c lo hi d lo2 hi2 m l h ld hd D S L) (ho : OwnB v m N D') (ht : w.mapTurned v m) (hm : Mt D' S' L') (hL : L' ≤ 1024) : Hs W v n i c lo hi d lo2 hi2 m l h ld hd D' S' L' := by
  have h1 := H.d1; have h2 := H.d2; have h3 := H.d3; have h4 := H.d5; have h5 := H.d6
  have hk := turned_keep ht
  exact ⟨H.s.keep hk (by omega), H.t.keep hk (by omega), tightB ho, hm, hL, H.dn, H.ln, H.b.trans (hk.below (by omega) H.b.size), h1, h2, h3, Nat.lt_of_lt_of_le H.d4 hk.size, h4, h5⟩
theorem Hs.set_ {W w : World} {n i c lo hi d lo2 hi2 m : Nat} {l : List Pl} {h : Nat} {ld : List Pl} {hd : Nat} {D : DataW Unit} {S S' : Int → Bool} {L L' : Nat} (H : Hs W w n i c lo hi d lo2 hi2 m l h ld hd D S L) (hS : ∀ j, S j = S' j) (hL : L = L') : Hs W w n i c lo hi d lo2 hi2 m l h ld hd D S' L' :=
  ⟨H.s, H.t, H.o, H.mt.of hS hL, by rw [← hL]; exact H.sm, H.dn, H.ln, H.b, H.d1, H.d2, H.d3, H.d4, H.d5, H.d6⟩
/-- a list that is read, in a block from B on -/
def Rk {α : Type} (w : World) (B : Nat) (o : Option Addr) (l : List α) (f : α → Value) : Prop := ∀ j (hj : j < l.length), ∃ g, o = some ⟨g, 0, none⟩ ∧ B ≤ g ∧ g < w.heap.size ∧ w.cell? ⟨g, j, none⟩ = some (f l[j])
theorem own_rk {α : Type} {w : World} {B : Nat} {e : TypeId} {v : Value} {l : List α} {f : α → Value} (h : w.ownsRow B e 1 v l.length (l.map f)) : ∃ o cap, v = .slice o l.length cap ∧ Rk w B o l f := by
  rcases own_cases h with ⟨rfl, rfl⟩ | ⟨g, cap, rfl, h1, h2, h3, h4, h5⟩
  · exact ⟨none, 0, rfl, fun j hj => by simp at hj⟩
  · exact ⟨_, cap, rfl, fun j hj => ⟨g, rfl, h1, h2, h5 j hj⟩⟩
theorem Rk.keep {α : Type} {w v : World} {B lo hi : Nat} {o : Option Addr} {l : List α} {f : α → Value} (h : Rk w B o l f) (hk : Keep lo hi w v) (hB : hi ≤ B) : Rk v B o l f := fun j hj => by
  obtain ⟨g, h1, h2, h3, h4⟩ := h j hj
  exact ⟨g, h1, h2, Nat.lt_of_lt_of_le h3 hk.size, (World.cell?_of_block (a := ⟨g, j, none⟩) (hk.block g h3 (.inr (by omega)))).trans h4⟩
theorem Rk.below {α : Type} {w v : World} {B : Nat} {o : Option Addr} {l : List α} {f : α → Value} (h : Rk w B o l f) (hb : Below w.heap.size w v) : Rk v B o l f := fun j hj => by
  obtain ⟨g, h1, h2, h3, h4⟩ := h j hj
  exact ⟨g, h1, h2, Nat.lt_of_lt_of_le h3 hb.size, (World.cell?_of_block (a := ⟨g, j, none⟩) (hb.block g h3)).trans h4⟩
theorem BoxA.keep {w v : World} {b lo hi : Nat} {t : TypeId} {vs : Array Value} (h : BoxA w b t vs) (hk : Keep lo hi w v) (hne : b < lo ∨ hi ≤ b) : BoxA v b t vs := (hk.block b (BoxA.lt h) hne).trans h
def cnt (l : List Bool) (j : Nat) : Nat := (l.take j).countP id
theorem cnt_succ {l : List Bool} {j : Nat} (hj : j < l.length) : cnt l (j + 1) = cnt l j + (if l[j] then 1 else 0) := by
  unfold cnt
  rw [List.take_succ_eq_append_getElem hj, List.countP_append]
  simp [List.countP_cons]
theorem cnt_le (l : List Bool) (j : Nat) : cnt l j ≤ j := by
  unfold cnt
  exact Nat.le_trans List.countP_le_length (by rw [List.length_take]; omega)
theorem full_lists {l : List Pl} (h : full l = l.length) : keysOf l = l.map (·.k) ∧ marksOf l = l.map (·.m) := by
  have : l.filter (·.f) = l := List.filter_eq_self.2 fun p hp => List.countP_eq_length.1 h p hp
  unfold keysOf marksOf
  rw [this]
  exact ⟨rfl, rfl⟩
theorem cnt_all {l : List Pl} (h : full l = l.length) : cnt (marksOf l) (marksOf l).length = marks l := by
  unfold cnt
  rw [List.take_length, (full_lists h).2]
  unfold marks
  rw [List.countP_map]
  rfl
/-- what the law asks of each place when a key left -/
theorem left_ok {l : List Pl} {h : Nat} {k : Int} {l' : List Pl} {h' : Nat} {hit : Bool} {out : Int} (H : UseFacts l h k l' h' hit true out) {j : Nat} (hj : j < (keysOf l).length) (hj2 : j < (marksOf l).length) : (keysOf l)[j] ≠ out ∨ (marksOf l)[j] = false ∨ cnt (marksOf l) (marksOf l).length = l.length := by
  have hF := (H.left_ rfl).2.2
  obtain ⟨e1, e2⟩ := full_lists hF
  by_cases h1 : (keysOf l)[j] = out
  · cases h2 : (marksOf l)[j] with
    | false => exact .inr (.inl rfl)
    | true =>
      refine .inr (.inr ?_)
      rw [cnt_all hF]
      have hjl : j < l.length := by rw [e1, List.length_map] at hj; exact hj
      refine H.mark_ rfl j l[j] (List.getElem?_eq_getElem hjl) ?_ ?_
      · rw [← h1]; simp only [e1, List.getElem_map]
      · rw [← h2]; simp only [e2, List.getElem_map]
  · exact .inl h1
end Go.Proofs.Yteppcjolgpdenaa.Seq
