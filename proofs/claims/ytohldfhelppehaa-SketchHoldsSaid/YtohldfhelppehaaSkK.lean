/-
  Walks over the reference of layer 33: copies, halving, adding.
-/
import Derived.Test.YtohldfhelppehaaSkL
import Derived.Test.YtohldfhelppehaaBloP
set_option linter.unusedVariables false
set_option linter.unusedSimpArgs false
namespace Go.Proofs.Ytohldfhelppehaa.Skt
open Go.RowKit Kit Hash Blo
/-- the object of a sketch of the reference -/
def hO (n : Nat) (m t sd : Int) (r c : Nat → Nat) : Obj := .cells #[.int .i64 n, .int .i64 m, .int .i64 t, .int .u64 sd, .slice (some ⟨r 0, 0, none⟩) n (c 0), .slice (some ⟨r 1, 0, none⟩) n (c 1), .slice (some ⟨r 2, 0, none⟩) n (c 2), .slice (some ⟨r 3, 0, none⟩) n (c 3)] 62
theorem Bs.o {w : World} {b n : Nat} {m t sd : Int} {r c : Nat → Nat} (h : w.heap[b]? = some (hO n m t sd r c)) : Bs w b n m t sd r c := h
theorem Bs.setr {w : World} {b n : Nat} {m t sd : Int} {Q C : Nat → Nat} (h : Bs w b n m t sd Q C) (r g c' : Nat) (hr : r < 4) :
    Bs (w.setCell ⟨b, 4 + r, none⟩ (.slice (some ⟨g, 0, none⟩) n c')) b n m t sd (fun i => if i = r then g else Q i) (fun i => if i = r then c' else C i) := by
  rcases r with _ | _ | _ | _ | r
  · exact (set_block h 4 _).trans rfl
  · exact (set_block h 5 _).trans rfl
  · exact (set_block h 6 _).trans rfl
  · exact (set_block h 7 _).trans rfl
  · omega
/-- a sketch of the reference is stored -/
def put8 (w : World) (b n : Nat) (m t sd : Int) (Q C : Nat → Nat) : World := (((((((w.setCell ⟨b, 0, none⟩ (.int .i64 n)).setCell ⟨b, 1, none⟩ (.int .i64 m)).setCell ⟨b, 2, none⟩ (.int .i64 t)).setCell ⟨b, 3, none⟩ (.int .u64 sd)).setCell ⟨b, 4, none⟩ (.slice (some ⟨Q 0, 0, none⟩) n (C 0))).setCell ⟨b, 5, none⟩ (.slice (some ⟨Q 1, 0, none⟩) n (C 1))).setCell ⟨b, 6, none⟩ (.slice (some ⟨Q 2, 0, none⟩) n (C 2))).setCell ⟨b, 7, none⟩ (.slice (some ⟨Q 3, 0, none⟩) n (C 3))
theorem put8_o {w : World} {b n : Nat} {m t sd : Int} {Q C : Nat → Nat} {a0 a1 a2 a3 a4 a5 a6 a7 : Value} (h : w.heap[b]? = some (.cells #[a0, a1, a2, a3, a4, a5, a6, a7] 62)) : Bs (put8 w b n m t sd Q C) b n m t sd Q C := by
  have h0 : (w.setCell ⟨b, 0, none⟩ (.int .i64 n)).heap[b]? = some (.cells #[.int .i64 n, a1, a2, a3, a4, a5, a6, a7] 62 (0, 0)) := set_block h 0 _
  have h1 : ((w.setCell ⟨b, 0, none⟩ (.int .i64 n)).setCell ⟨b, 1, none⟩ (.int .i64 m)).heap[b]? = some (.cells #[.int .i64 n, .int .i64 m, a2, a3, a4, a5, a6, a7] 62 (0, 0)) := set_block h0 1 _
  have h2 := set_block h1 2 (.int .i64 t)
  have h3 := set_block h2 3 (.int .u64 sd)
  have h4 := set_block h3 4 (.slice (some ⟨Q 0, 0, none⟩) n (C 0))
  have h5 := set_block h4 5 (.slice (some ⟨Q 1, 0, none⟩) n (C 1))
  have h6 := set_block h5 6 (.slice (some ⟨Q 2, 0, none⟩) n (C 2))
  exact (set_block h6 7 (.slice (some ⟨Q 3, 0, none⟩) n (C 3))).trans rfl
theorem put8_but {w : World} {b n : Nat} {m t sd : Int} {Q C : Nat → Nat} : But b w (put8 w b n m t sd Q C) := ((((((((But.refl b w).setCell _).setCell _).setCell _).setCell _).setCell _).setCell _).setCell _).setCell _
theorem put8_size {w : World} {b n : Nat} {m t sd : Int} {Q C : Nat → Nat} : (put8 w b n m t sd Q C).heap.size = w.heap.size := by simp [put8]
/-- the value at the end -/
theorem Bs.all {w : World} {b n : Nat} {m t sd : Int} {r c : Nat → Nat} (h : Bs w b n m t sd r c) : (w.cell? ⟨b, 0, none⟩ = some (.int .i64 n) ∧ w.cell? ⟨b, 1, none⟩ = some (.int .i64 m) ∧ w.cell? ⟨b, 2, none⟩ = some (.int .i64 t) ∧ w.cell? ⟨b, 3, none⟩ = some (.int .u64 sd)) ∧ (w.cell? ⟨b, 4, none⟩ = some (.slice (some ⟨r 0, 0, none⟩) n (c 0)) ∧ w.cell? ⟨b, 5, none⟩ = some (.slice (some ⟨r 1, 0, none⟩) n (c 1)) ∧ w.cell? ⟨b, 6, none⟩ = some (.slice (some ⟨r 2, 0, none⟩) n (c 2)) ∧ w.cell? ⟨b, 7, none⟩ = some (.slice (some ⟨r 3, 0, none⟩) n (c 3))) :=
  ⟨⟨h.c0, h.c1, h.c2, h.c3⟩, ⟨h.r0, h.r1, h.r2, h.r3⟩⟩
theorem zcell {w : World} {b : Nat} (h : w.heap[b]? = some zO) : (w.cell? ⟨b, 0, none⟩ = some (.int .i64 0) ∧ w.cell? ⟨b, 1, none⟩ = some (.int .i64 0) ∧ w.cell? ⟨b, 2, none⟩ = some (.int .i64 0) ∧ w.cell? ⟨b, 3, none⟩ = some (.int .u64 0)) ∧ (w.cell? ⟨b, 4, none⟩ = some (.slice none 0 0) ∧ w.cell? ⟨b, 5, none⟩ = some (.slice none 0 0) ∧ w.cell? ⟨b, 6, none⟩ = some (.slice none 0 0) ∧ w.cell? ⟨b, 7, none⟩ = some (.slice none 0 0)) ∧ ∀ o, w.frozen? ⟨b, o, none⟩ = false := by
  refine ⟨⟨?_, ?_, ?_, ?_⟩, ⟨?_, ?_, ?_, ?_⟩, fun o => ?_⟩
  all_goals first | (unfold World.cell?; rw [h]; rfl) | (unfold World.frozen?; rw [h]; rfl)
theorem Sr.news {w : World} {q n : Nat} {f : Nat → Nat} (h : Sr w q n f) : ∀ j u, ((List.range n).map fun i => Value.int .i64 (f i : Nat))[j]? = some u → w.cell? ((⟨q, 0, none⟩ : Addr).add j) = some u := by
  intro j v hj
  have hjn : j < n := by have := (List.getElem?_eq_some_iff.1 hj).1; simpa using this
  have := Row.cell h j hjn
  simp [hjn] at hj
  rw [Go.WideShapes.add_plain, Nat.zero_add, this, ← hj]
/-- a copy, of which r rows are made: its rows and its variable lie behind W -/
structure Rp (W w : World) (n : Nat) (m t sd : Int) (F : Nat → Nat → Nat) (r : Nat) (Q C : Nat → Nat) : Prop where
  o : Bs w W.heap.size n m t sd Q C
  z : w.heap[W.heap.size + 1]? = some zO
  rr : ∀ i, i < 4 → Sr w (Q i) n (F i)
  ll : ∀ i, i < r → W.heap.size + 1 < Q i ∧ Q i < w.heap.size
  lh : ∀ i, r ≤ i → i < 4 → Q i < W.heap.size
  mm : ∀ i j, i < j → j < r → Q i < Q j
  bb : Below W.heap.size W w
theorem Rp.step {W w v : World} {n : Nat} {m t sd : Int} {F : Nat → Nat → Nat} {r : Nat} {Q C : Nat → Nat} (h : Rp W w n m t sd F r Q C) (hr : r < 4) {g c' : Nat} (hb : Below w.heap.size w v) (hg : w.heap.size ≤ g) (hrow : Sr v g n (F r)) :
    Rp W (v.setCell ⟨W.heap.size, 4 + r, none⟩ (.slice (some ⟨g, 0, none⟩) n c')) n m t sd F (r + 1) (fun i => if i = r then g else Q i) (fun i => if i = r then c' else C i) := by
  have hx : W.heap.size + 1 < w.heap.size := (Array.getElem?_eq_some_iff.1 h.z).1
  have hgl := hrow.lt
  have hs := hb.size
  refine ⟨(h.o.below hb).setr r g c' hr, (Below.heap_setCell v ⟨W.heap.size, 4 + r, none⟩ _ (W.heap.size + 1) (by show W.heap.size + 1 ≠ W.heap.size; omega)).trans ((hb.block _ hx).trans h.z), fun i hi => ?_, fun i hi => ?_, fun i hi hi4 => ?_, fun i j hij hj => ?_, (tr h.bb hb).setCell (p := ⟨W.heap.size, 4 + r, none⟩) (Nat.le_refl _) _⟩
  · by_cases e : i = r
    · subst e; simp only [if_true]
      exact Row.other hrow (a := ⟨W.heap.size, 4 + i, none⟩) (by show g ≠ W.heap.size; omega) _
    · simp only [e, if_false]
      have hl : Q i ≠ W.heap.size := by
        rcases Nat.lt_or_ge i r with h1 | h1
        · have := h.ll i h1; omega
        · have := h.lh i h1 hi; omega
      exact Row.other (Row.below (h.rr i hi) hb) (a := ⟨W.heap.size, 4 + r, none⟩) hl _
  · by_cases e : i = r
    · simp only [e, if_true, World.size_setCell]; omega
    · simp only [e, if_false, World.size_setCell]; have := h.ll i (by omega); omega
  · simp only [show i ≠ r by omega, if_false]; exact h.lh i (by omega) hi4
  · have e : i ≠ r := by omega
    by_cases e2 : j = r
    · simp only [e, e2, if_false, if_true]; have := h.ll i (by omega); omega
    · simp only [e, e2, if_false]; exact h.mm i j hij (by omega)
set_option maxRecDepth 100000 in
set_option maxHeartbeats 2000000 in
theorem rcopy {W : World} {n : Nat} {m t sd : Int} {r c : Nat → Nat} {F : Nat → Nat → Nat} (h : Rw W r n F) (n1 : 16 ≤ n) (n2 : n ≤ 65536) :
    Calls Try.prog 65 #[skv n m t sd r c] W fun e w' => ∃ Q C, e = .returned (skv n m t sd Q C) ∧ Rw w' Q n F ∧ (∀ i, i < 4 → W.heap.size ≤ Q i ∧ Q i < w'.heap.size) ∧ (∀ i j, i < j → j < 4 → Q i < Q j) ∧ Below W.heap.size W w' := by
  have hq : ∀ i, i < 4 → r i < W.heap.size := fun i hi => (h i hi).lt
  have hW0 : Bs ((W.alloc (hO n m t sd r c)).alloc zO) W.heap.size n m t sd r c := by
    have h1 : Bs (W.alloc (hO n m t sd r c)) W.heap.size n m t sd r c := (MapKept.heap_alloc W _).1
    exact h1.of (Below.heap_alloc _ _ _ (by simp))
  have hZ0 : ((W.alloc (hO n m t sd r c)).alloc zO).heap[W.heap.size + 1]? = some zO := by
    have := (MapKept.heap_alloc (W.alloc (hO n m t sd r c)) zO).1
    rwa [World.size_alloc] at this
  have P0 := Lib.hid (show Rp W ((W.alloc (hO n m t sd r c)).alloc zO) n m t sd F 0 r c from ⟨hW0, hZ0, fun i hi => Row.alloc (Row.alloc (h i hi) _) _, fun i hi => by omega, fun i _ hi => hq i hi, fun i j _ hj => by omega, by go_grown⟩)
  obtain ⟨i0, hi, hzz⟩ := Option.map_eq_some_iff.1 info_i64
  simp only [Prod.mk.injEq] at hzz
  obtain ⟨hz0, hz1, hz2⟩ := hzz
  unfold skv sk at *
  clear h hq hW0 hZ0
  go_enter Try.func65, Try.ntmps65
  go_wp2_with fail
  go_loopw [3] (fun i wr => ∃ (j : Nat) (Q C : Nat → Nat), j ≤ 4 ∧ i = .int .i64 j ∧ Rp W wr n m t sd F j Q C) (fun i _ => 4 - (intOf i).toNat)
  case atStart => exact ⟨0, r, c, by omega, rfl, P0.out⟩
  case round =>
    clear P0
    obtain ⟨j, Q, C, hr, rfl, hS⟩ := hrel
    have S1 := Lib.hid hS
    have hsw := hS.bb.size
    have hzl : W.heap.size + 1 < wr.heap.size := (Array.getElem?_eq_some_iff.1 hS.z).1
    clear hS
    by_cases hr4 : j < 4
    · have k1 := S1.out.o.row hr4
      have HN := Lib.hid (Sr.news (S1.out.rr j hr4))
      go_wp2_with (at_builtin; refine wpList_append_own _ rfl (.const (.slice none 0 0)) (.tmp 12) 36 rfl wr.heap.size 3 i0 (.int .i64 0) 1 8 Try.underlying36 hi hz0 hz1 hz2 rfl (by decide) _ 0 [] rfl (World.ownsRow_nil _ _ _ _) ⟨Q j, 0, none⟩ n (C j) ((List.range n).map fun i => Value.int .i64 (F j i : Nat)) rfl (by simp) HN.out (by intro v hv; obtain ⟨x, _, rfl⟩ := List.mem_map.1 hv; rfl) (by unfold maxLen; omega) (by omega) (by simp) ?_)
      intro v' w2 hown hgrow hnil
      have b2 : Below wr.heap.size wr w2 := (Below.refl _ wr).grown hgrow (Nat.le_refl _) (fun k hk => by simp [Value.ownBlock] at hk)
      rcases own_row hown (by simp) with ⟨-, h0⟩ | ⟨g, c', rfl, hg, hc1, hc2, hrow⟩
      · omega
      · have hr2 : Sr w2 g n (F j) := hrow.congr fun i hi => by simp [List.getD, hi]
        have S2 := Lib.hid (S1.out.step hr4 (c' := c') b2 hg hr2)
        have hfr := (S1.out.o.below b2).fr (4 + j)
        have hcl := (S1.out.o.below b2).row hr4
        have hsl : W.heap.size < w2.heap.size := by have := b2.size; omega
        clear hrow hr2 hown hgrow hnil b2 S1 HN k1
        go_wp2_with fail
        go_roundw
        case rel => exact ⟨j + 1, _, _, by omega, by go_num, S2.out⟩
        case measure => simp [intOf] <;> omega
    · obtain rfl : j = 4 := by omega
      have d0 := S1.out.o.c0
      have d1 := S1.out.o.c1
      have d2 := S1.out.o.c2
      have d3 := S1.out.o.c3
      have d4 := S1.out.o.r0
      have d5 := S1.out.o.r1
      have d6 := S1.out.o.r2
      have d7 := S1.out.o.r3
      obtain ⟨⟨z0, z1, z2, z3⟩, ⟨z4, z5, z6, z7⟩, zf⟩ := zcell S1.out.z
      go_wp2_with fail
      have BU := Lib.hid (put8_o (n := n) (m := m) (t := t) (sd := sd) (Q := Q) (C := C) S1.out.z)
      have KU := Lib.hid (put8_but (w := wr) (b := W.heap.size + 1) (n := n) (m := m) (t := t) (sd := sd) (Q := Q) (C := C))
      have SU := Lib.hid (put8_size (w := wr) (b := W.heap.size + 1) (n := n) (m := m) (t := t) (sd := sd) (Q := Q) (C := C))
      unfold put8 at BU KU SU
      generalize (((((((wr.setCell ⟨W.heap.size + 1, 0, none⟩ (.int .i64 n)).setCell ⟨W.heap.size + 1, 1, none⟩ (.int .i64 m)).setCell ⟨W.heap.size + 1, 2, none⟩ (.int .i64 t)).setCell ⟨W.heap.size + 1, 3, none⟩ (.int .u64 sd)).setCell ⟨W.heap.size + 1, 4, none⟩ (.slice (some ⟨Q 0, 0, none⟩) n (C 0))).setCell ⟨W.heap.size + 1, 5, none⟩ (.slice (some ⟨Q 1, 0, none⟩) n (C 1))).setCell ⟨W.heap.size + 1, 6, none⟩ (.slice (some ⟨Q 2, 0, none⟩) n (C 2))).setCell ⟨W.heap.size + 1, 7, none⟩ (.slice (some ⟨Q 3, 0, none⟩) n (C 3)) = U at *
      obtain ⟨⟨g0, g1, g2, g3⟩, ⟨g4, g5, g6, g7⟩⟩ := BU.out.all
      refine bodyPost_ret (v := skv n m t sd Q C) (by simp [skv, sk, results, g0, g1, g2, g3, g4, g5, g6, g7, Try.results65, go_sem]) rfl ⟨Q, C, rfl, fun i hi => ?_, fun i hi => ?_, S1.out.mm, ?_⟩
      · exact Row.but (S1.out.rr i hi) KU.out (by have := S1.out.ll i hi; omega)
      · have := S1.out.ll i hi; have := SU.out; omega
      · exact S1.out.bb.trans (KU.out.below (Nat.le_succ _) (by omega))
end Go.Proofs.Ytohldfhelppehaa.Skt
