/-
  Second chance (layer 31): put, advance, Drop.
-/
import Derived.Test.YteppcjolgpdenaaSeqC
import Derived.StillTailTactics
set_option linter.unusedVariables false
set_option linter.unusedSimpArgs false
namespace Go.Proofs.Yteppcjolgpdenaa.Seq
open Go Go.RowKit Kit Go.Maps
/-- the object, whatever its map says -/
structure So (W : World) (c q m cap N lo hi : Nat) (l : List Pl) (h : Nat) (D : DataW Unit) : Prop where
  obj : W.heap[c]? = some (.cells #[.slice (some ⟨q, 0, none⟩) l.length cap, .int .i64 (h : Int), .map (some m)] 58 (0, 0))
  row : Rw W q l
  map : W.ownsMap Try.prog 40 (plainElem Try.prog 3) m N D
  nb : N ≤ 100000
  lc : l.length ≤ cap
  cm : cap ≤ maxLen
  d1 : c ≠ q
  d2 : c ≠ m
  d3 : q ≠ m
  b1 : lo ≤ c ∧ c < hi
  b2 : lo ≤ q ∧ q < hi
  b3 : lo ≤ m ∧ m < hi
  l1 : 1 ≤ l.length
  l2 : l.length ≤ 1024
  hh : h < l.length
  rng : ∀ p ∈ l, 0 ≤ p.k ∧ p.k < 4294967296
  top : hi ≤ W.heap.size
theorem Sc.so {W : World} {c lo hi : Nat} {l : List Pl} {h : Nat} (H : Sc W c lo hi l h) : ∃ (q m cap N : Nat) (D : DataW Unit), So W c q m cap N lo hi l h D ∧ Mp D l := by
  obtain ⟨⟨q, m, cap, N, D, h1, h2, h3, h4, h5, h6, h7, n1, n2, n3, b1, b2, b3, b4, b5, b6⟩, a1, a2, a3, a4, a5⟩ := H
  exact ⟨q, m, cap, N, D, ⟨h1, h2, h3, h5, h6, h7, n1, n2, n3, ⟨b1, b2⟩, ⟨b3, b4⟩, ⟨b5, b6⟩, a1, a2, a3, a4, a5⟩, h4⟩
theorem tight {W : World} {m N : Nat} {D : DataW Unit} (h : W.ownsMap Try.prog 40 (plainElem Try.prog 3) m N D) : W.ownsMap Try.prog 40 (plainElem Try.prog 3) m (Maps.size D) D := by
  obtain ⟨es, clock, h1, F, hs, rfl⟩ := h
  exact ⟨es, clock, h1, F, by simp [Maps.size, length_sorted], rfl⟩
theorem full_le (l : List Pl) : full l ≤ l.length := List.countP_le_length
theorem So.sc {W : World} {c q m cap N lo hi : Nat} {l : List Pl} {h : Nat} {D : DataW Unit} (H : So W c q m cap N lo hi l h D) (M : Mp D l) : Sc W c lo hi l h :=
  ⟨⟨q, m, cap, Maps.size D, D, H.obj, H.row, tight H.map, M, by rw [M.size]; have := full_le l; have := H.l2; omega, H.lc, H.cm, H.d1, H.d2, H.d3, H.b1.1, H.b1.2, H.b2.1, H.b2.2, H.b3.1, H.b3.2⟩, H.l1, H.l2, H.hh, H.rng, H.top⟩
theorem So.cs {W : World} {c q m cap N lo hi : Nat} {l : List Pl} {h : Nat} {D : DataW Unit} (H : So W c q m cap N lo hi l h D) :
    W.cell? ⟨c, 0, none⟩ = some (.slice (some ⟨q, 0, none⟩) l.length cap) ∧ W.cell? ⟨c, 1, none⟩ = some (.int .i64 (h : Int)) ∧ W.cell? ⟨c, 2, none⟩ = some (.map (some m)) ∧ ∀ j, W.frozen? ⟨c, j, none⟩ = false := by
  have h1 := H.obj
  refine ⟨?_, ?_, ?_, fun j => ?_⟩ <;> simp [World.cell?, World.frozen?, h1]
/-- a place is written -/
theorem So.put {W : World} {c q m cap N lo hi : Nat} {l : List Pl} {h : Nat} {D : DataW Unit} (H : So W c q m cap N lo hi l h D) {i : Nat} (hi' : i < l.length) (p : Pl) (hp : 0 ≤ p.k ∧ p.k < 4294967296) :
    So (((W.setCell ⟨q, i * 3, none⟩ (.int .u32 p.k)).setCell ⟨q, i * 3 + 1, none⟩ (.bool p.f)).setCell ⟨q, i * 3 + 2, none⟩ (.bool p.m)) c q m cap N lo hi (l.set i p) h D ∧
    Keep lo hi W (((W.setCell ⟨q, i * 3, none⟩ (.int .u32 p.k)).setCell ⟨q, i * 3 + 1, none⟩ (.bool p.f)).setCell ⟨q, i * 3 + 2, none⟩ (.bool p.m)) := by
  have e : ∀ b, b ≠ q → (((W.setCell ⟨q, i * 3, none⟩ (.int .u32 p.k)).setCell ⟨q, i * 3 + 1, none⟩ (.bool p.f)).setCell ⟨q, i * 3 + 2, none⟩ (.bool p.m)).heap[b]? = W.heap[b]? := fun b hb =>
    (Below.heap_setCell _ _ _ b hb).trans ((Below.heap_setCell _ _ _ b hb).trans (Below.heap_setCell _ _ _ b hb))
  have hl : (l.set i p).length = l.length := List.length_set
  refine ⟨⟨?_, H.row.put hi' p, own_keep H.map (e m (Ne.symm H.d3)), H.nb, by rw [hl]; exact H.lc, H.cm, H.d1, H.d2, H.d3, H.b1, H.b2, H.b3, by rw [hl]; exact H.l1, by rw [hl]; exact H.l2, by rw [hl]; exact H.hh, fun p' hp' => ?_, by simpa using H.top⟩, (((Keep.refl lo hi W).setCell H.b2.1 H.b2.2 _).setCell H.b2.1 H.b2.2 _).setCell H.b2.1 H.b2.2 _⟩
  · rw [hl, e c H.d1]; exact H.obj
  · rcases List.mem_or_eq_of_mem_set hp' with h1 | rfl
    · exact H.rng p' h1
    · exact hp
/-- the map is written -/
theorem So.turn {W W' : World} {c q m cap N N' lo hi : Nat} {l : List Pl} {h : Nat} {D D' : DataW Unit} (H : So W c q m cap N lo hi l h D) (ho : W'.ownsMap Try.prog 40 (plainElem Try.prog 3) m N' D') (hN : N' ≤ 100000) (hg : W.mapTurned W' m) : So W' c q m cap N' lo hi l h D' ∧ Keep lo hi W W' := by
  obtain ⟨e1, e2, e3, e4, e5⟩ := hg.grown
  have e : ∀ b, b < W.heap.size → b ≠ m → W'.heap[b]? = W.heap[b]? := fun b hb hne => e5 b hb (by simpa using hne)
  have hc := (Array.getElem?_eq_some_iff.1 H.obj).1
  exact ⟨⟨(e c hc H.d2).trans H.obj, H.row.of (e q H.row.lt H.d3), ho, hN, H.lc, H.cm, H.d1, H.d2, H.d3, H.b1, H.b2, H.b3, H.l1, H.l2, H.hh, H.rng, Nat.le_trans H.top e4⟩,
    ⟨by first | exact e1 | exact e1.symm, by first | exact e2 | exact e2.symm, by first | exact e3 | exact e3.symm, e4, fun k hk hne => e k hk (by have := H.b3; omega)⟩⟩
/-- the hand moves -/
theorem So.move {W : World} {c q m cap N lo hi : Nat} {l : List Pl} {h : Nat} {D : DataW Unit} (H : So W c q m cap N lo hi l h D) {h' : Nat} (hh : h' < l.length) : So (W.setCell ⟨c, 1, none⟩ (.int .i64 (h' : Int))) c q m cap N lo hi l h' D ∧ Keep lo hi W (W.setCell ⟨c, 1, none⟩ (.int .i64 (h' : Int))) := by
  have e : ∀ b, b ≠ c → (W.setCell ⟨c, 1, none⟩ (.int .i64 (h' : Int))).heap[b]? = W.heap[b]? := fun b hb => Below.heap_setCell _ _ _ b hb
  refine ⟨⟨?_, H.row.of (e q (Ne.symm H.d1)), own_keep H.map (e m (Ne.symm H.d2)), H.nb, H.lc, H.cm, H.d1, H.d2, H.d3, H.b1, H.b2, H.b3, H.l1, H.l2, hh, H.rng, by simpa using H.top⟩, (Keep.refl lo hi W).setCell H.b1.1 H.b1.2 _⟩
  rw [heap_set H.obj]
  rfl
theorem So.drew {W : World} {c q m cap N lo hi : Nat} {l : List Pl} {h : Nat} {D : DataW Unit} (H : So W c q m cap N lo hi l h D) : So W.drew c q m cap N lo hi l h D := ⟨H.obj, H.row, H.map, H.nb, H.lc, H.cm, H.d1, H.d2, H.d3, H.b1, H.b2, H.b3, H.l1, H.l2, H.hh, H.rng, H.top⟩
set_option maxRecDepth 100000 in
theorem advance_to {W : World} {c q m cap N lo hi : Nat} {l : List Pl} {h x : Nat} {D : DataW Unit} (H : So W c q m cap N lo hi l h D) (hx : (h + 1) % l.length = x) :
    Calls Try.prog 31 #[.pointer (some ⟨c, 0, none⟩)] W fun e w' => e = .returned (.tuple #[]) ∧ So w' c q m cap N lo hi l x D ∧ Keep lo hi W w' := by
  obtain ⟨k0, k1, k2, kf⟩ := H.cs
  have hm : x < l.length := by rw [← hx]; exact Nat.mod_lt _ (by have := H.l1; omega)
  have HM := Lib.hid (show So (W.setCell ⟨c, 1, none⟩ (.int .i64 (x : Int))).drew c q m cap N lo hi l x D ∧ Keep lo hi W (W.setCell ⟨c, 1, none⟩ (.int .i64 (x : Int))).drew from ⟨(H.move hm).1.drew, (H.move hm).2.tr (Below.drew (Below.refl _ _))⟩)
  have h2 := H.l2
  have h1 := H.l1
  have hh := H.hh
  clear H
  generalize l.length = n at *
  have t1 : ((h : Int) + 1).tmod n = (x : Int) := by
    rw [Int.tmod_eq_emod_of_nonneg (by omega), ← hx, Int.natCast_emod]; rfl
  have w1 := IntWalk.i64_in ((h : Int) + 1) (by omega)
  have w2 := IntWalk.i64_in (x : Int) (by omega)
  have hn0 : ¬ (n : Int) = 0 := by omega
  have hn1 : ((n : Int) == 0) = false := by rw [beq_eq_false_iff_ne]; omega
  have hn2 : (0 : Int) < (n : Int) := by omega
  clear hx hm h2 h1 hh
  go_enter Try.func31, Try.ntmps31
  go_wp2_with fail
  go_region_with fail
  all_goals
    exact bodyPost_end (v := .tuple #[]) (results_none rfl _ _ _) rfl ⟨rfl, HM.out⟩
end Go.Proofs.Yteppcjolgpdenaa.Seq
