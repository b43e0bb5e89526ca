/-
  Plain LRU lists (layer 15): LruIterates.
-/
import Derived.Test.YtajkcockeccdoaaLruX
import Derived.Test.YtajkcockeccdoaaLruV
set_option linter.unusedVariables false
set_option linter.unusedSimpArgs false
namespace Go.Proofs.Ytajkcockeccdoaa.Lru
open Go Go.RowKit Kit Go.Shelf Lnk
attribute [local go_sem] Oper.semAt_some
/-- a piece of code that ends normally or by an exit, which lead to the same -/
def midX (id : Nat) (R : Act → World → Prop) : Exit → Act → World → Prop
  | .normal, a, w => R a w
  | .exit i, a, w => i = id ∧ R a w
  | _, _, _ => False
theorem codeIn_mid {F : Fence} {n : Nat} {P : Program} {c : Code} {Q : Exit → Act → World → Prop} {a : Act} {w : World} (id : Nat) (R : Nat → World → Prop)
    (first : Code.wpIn F n P c (midX id fun a' w' => ∃ D, a' = { a with defers := { target := .collected D, args := #[] } :: a.defers } ∧ R D w') a w) (same : ∀ a w, Q .normal a w → Q (.exit id) a w)
    (rest : ∀ D w', R D w' → Q .normal { a with defers := { target := .collected D, args := #[] } :: a.defers } w') : Code.wpIn F n P c Q a w :=
  Code.wpIn_mono (fun e a' w' h => by
    cases e
    case normal => obtain ⟨D, rfl, h⟩ := h; exact rest _ _ h
    case exit i => obtain ⟨rfl, D, rfl, h⟩ := h; exact same _ _ (rest _ _ h)
    all_goals exact h.elim) first
theorem P2.mark {w W2 W : World} {o c q r tb nb : Nat} {tv nv : Int} {Ds : List Nat} (h : P2 w W2 W o c q r tb nb tv nv Ds) {D : Nat} (hD : W.heap[D]? = some (Obj.deferred (some []))) : P2 w W2 W o c q r tb nb tv nv (D :: Ds) :=
  ⟨h.lu, h.kp, h.t, h.n, h.dx, fun D' hD' => by rcases List.mem_cons.1 hD' with rfl | h'; exact hD; exact h.ds D' h', h.ws, h.sz, h.bw⟩
theorem vals_ext {l : List Nat} {pre : List (El (ints l))} {x : El (ints l)} {u k0 : Nat} (hp : vals pre <+: ints l) (hk : pre.length = k0) (hx : x.val = (u : Int)) (hu : l[k0]? = some u) : vals (pre ++ [x]) <+: ints l := by
  obtain ⟨rest, hr⟩ := hp
  have hl : (vals pre).length = k0 := by rw [vals_len, hk]
  have h3 := Lnk.ints_at hu
  have h4 : (vals pre ++ rest)[k0]? = some (u : Int) := by rw [hr]; exact h3
  rw [List.getElem?_append_right (by omega), hl, Nat.sub_self] at h4
  cases rest with
  | nil => cases h4
  | cons a rest =>
    cases h4
    exact ⟨rest, by rw [vals_snoc, hx]; simpa using hr⟩
theorem vals_next {l : List Nat} {pre : List (El (ints l))} {x : El (ints l)} {u t k0 : Nat} (h : vals (pre ++ [x]) <+: ints l) (hk : pre.length = k0) (hx : x.val = (u : Int)) (ht : l[k0]? = some t) : u = t := by
  obtain ⟨rest, hr⟩ := h
  have hl : (vals pre).length = k0 := by rw [vals_len, hk]
  have h3 := Lnk.ints_at ht
  have h4 : (vals (pre ++ [x]) ++ rest)[k0]? = some (t : Int) := by rw [hr]; exact h3
  rw [vals_snoc, hx, List.append_assoc, List.getElem?_append_right (by omega), hl, Nat.sub_self] at h4
  simp at h4
  omega
theorem P2.turn {w W2 W : World} {o c q r tb nb : Nat} {tv nv : Int} {Ds : List Nat} (h : P2 w W2 W o c q r tb nb tv nv Ds) (a b : Int) : P2 w W2 ((W.alloc (.cells #[.int .i64 a] 3)).alloc (.cells #[.int .i64 b] 3)) o c q r W.heap.size (W.heap.size + 1) a b Ds := by
  have ba1 := box_below W #[.int .i64 a] 3
  have ba2 := box_below (W.alloc (.cells #[.int .i64 a] 3)) #[.int .i64 b] 3
  have hb := tr ba1 ba2
  obtain ⟨c', q', r', cq, cr, N, F, l, h1, h2⟩ := h.lu
  have hsz := h.sz
  exact ⟨⟨c', q', r', cq, cr, N, F, l, h1.below hb, fun k hk => by have := h1.blk hk; have := h2 k hk; exact ⟨this.1, by omega, by omega, this.2.2.2⟩⟩, fun k hk hn => (hb.block k (by omega)).trans (h.kp k hk hn), (ba2.block _ (by simp)).trans (MapKept.heap_alloc W _).1, by simpa using (MapKept.heap_alloc (W.alloc (.cells #[.int .i64 a] 3)) (.cells #[.int .i64 b] 3)).1, ⟨by omega, by omega, by omega⟩, fun D hD => (hb.block D (Array.getElem?_eq_some_iff.1 (h.ds D hD)).1).trans (h.ds D hD), h.ws, Nat.le_trans hsz hb.size, tr h.bw hb⟩
/-- what the iterator's row needs -/
def K2 (W2 : World) (o c q r : Nat) (A B : World) : Prop := (∀ k, k < W2.heap.size → ¬ Ob4 o c q r k → B.heap[k]? = A.heap[k]?) ∧ A.heap.size ≤ B.heap.size
theorem P2.k2 {w W2 W W' : World} {o c q r tb nb tb' nb' : Nat} {tv nv tv' nv' : Int} {Ds Ds' : List Nat} (h : P2 w W2 W o c q r tb nb tv nv Ds) (h' : P2 w W2 W' o c q r tb' nb' tv' nv' Ds') (hk : KeepsOthers W W') : K2 W2 o c q r W W' :=
  ⟨fun k h1 h2 => (h'.kp k h1 h2).trans (h.kp k h1 h2).symm, hk.1⟩
set_option maxRecDepth 100000 in
set_option maxHeartbeats 20000000 in
theorem literates_in {w : World} {p : Option Addr} {n c : Nat} {xs : List Nat} (hl : xs.length = n) (hc : n ≤ c) (r : Ru w p (ints xs)) (hw : ∀ x ∈ xs, x < 4294967296) {s : Int} (h1 : n ≤ 60) (hs0 : 0 ≤ s) (hs1 : s ≤ 255)
    (HKN : ∀ v, Below w.heap.size w v → Calls Try.prog 40 #[] v fun e w' => e = .returned (.bool true) ∧ Below v.heap.size v w') :
    Calls Try.prog 9 #[.slice p n c, .int .u8 s] w fun e w' => e = .returned (.bool true) ∧ Below w.heap.size w w' := by
  have HK := Lib.hid HKN
  have HR := Lib.hid (fun (v : World) (hb : Below w.heap.size w v) => r.below hb)
  have HL := Lib.hid hl
  have HW := Lib.hid hw
  have c1 : ¬ (60 : Int) < (n : Int) := by omega
  have hnil := fun (wx : World) (ts lb : Array Value) => run_eql_func_nil (P := Try.prog) wx 47 _ _ _ (.func 88) ts lb Try.underlying47
  clear HKN r hl hw
  refine (callsIn_wide (n := 6)).1 ?_
  refine callsIn_of_wp_marks Try.func9 rfl trivial ?_ rfl
  simp only [Try.ntmps9, List.size_toArray, List.length_cons, List.length_nil, Nat.reduceAdd, Nat.reduceSub, Array.replicate_succ, Array.replicate_zero, List.push_toArray, List.append_toArray, List.nil_append, List.cons_append]
  gi_wp2
  refine ⟨trivial, ?_⟩
  have B0 := Lib.hid (by go_grown : Below w.heap.size w ((w.alloc (.cells #[.int .u8 s] 5)).alloc (.cells #[.bool false] 4)))
  have T0 := Lib.hid (show ((w.alloc (.cells #[.int .u8 s] 5)).alloc (.cells #[.bool false] 4)).heap[w.heap.size]? = some (.cells #[.int .u8 s] 5 (0, 0)) from (Below.heap_alloc _ _ w.heap.size (by simp)).trans (MapKept.heap_alloc w _).1)
  have R0 := Lib.hid (show ((w.alloc (.cells #[.int .u8 s] 5)).alloc (.cells #[.bool false] 4)).heap[w.heap.size + 1]? = some (.cells #[.bool false] 4 (0, 0)) from by simpa using (MapKept.heap_alloc (w.alloc (.cells #[.int .u8 s] 5)) (.cells #[.bool false] 4)).1)
  obtain ⟨V, hV⟩ : ∃ V, (w.alloc (.cells #[.int .u8 s] 5)).alloc (.cells #[.bool false] 4) = V := ⟨_, rfl⟩
  rw [hV] at B0 T0 R0 ⊢
  clear hV
  refine (callsIn_wide.2 (New_any _)).mono ?_
  rintro e v1 ⟨⟨o, cc, q1, r1, F1, rfl, lu1, g1, g2, g3, g4⟩, b1⟩
  have hwV : w.heap.size + 2 ≤ V.heap.size := by have := (Array.getElem?_eq_some_iff.1 R0.out).1; omega
  have bx1 := box_below v1 #[.pointer (some ⟨o, 0, none⟩)] 68
  have bx2 := box_below (v1.alloc (.cells #[.pointer (some ⟨o, 0, none⟩)] 68)) #[.slice none 0 0] 39
  have b12 := tr (tr b1 bx1) bx2
  have hlt := lu1.lt
  have hbs := b1.size
  have SX0 := Lib.hid (show Sx w ((v1.alloc (.cells #[.pointer (some ⟨o, 0, none⟩)] 68)).alloc (.cells #[.slice none 0 0] 39)) s v1.heap.size (v1.heap.size + 1) o [] (.slice none 0 0) none [] from
    ⟨(b12.block _ (by omega)).trans T0.out, (b12.block _ (by omega)).trans R0.out, (bx2.block _ (by simp)).trans (MapKept.heap_alloc v1 _).1, by simpa using (MapKept.heap_alloc (v1.alloc (.cells #[.pointer (some ⟨o, 0, none⟩)] 68)) (.cells #[.slice none 0 0] 39)).1,
     ⟨cc, q1, r1, 2, 1, 1, F1, lu1.below (tr bx1 bx2), (fun k hk => by rcases hk with rfl | rfl | rfl | rfl <;> omega), (fun y hy => by cases hy)⟩, (fun i x hx => by simp [ints] at hx), (fun y hy => by cases hy), by omega, tr B0.out b12⟩)
  clear lu1 g1 g2 g3 g4 b1 hwV bx1 bx2 b12 hlt hbs T0 R0 B0
  obtain ⟨bl, hbl⟩ : ∃ bl, v1.heap.size = bl := ⟨_, rfl⟩
  gi_wp2
  rw [hbl] at SX0
  clear hbl
  refine wpIn_wide.2 ?_
  go_loopw [7] (fun i wr => ∃ (k : Nat) (l : List Nat) (pm : Option Addr) (nm cm : Nat), k ≤ n ∧ i = .int .i64 (k : Int) ∧ nm ≤ cm ∧ Hid (l.length = nm ∧ nm ≤ k) ∧ Hid (Sx w wr s bl (bl + 1) o l (.slice pm nm cm) pm l)) (fun i _ => n - (intOf i).toNat)
  case atStart => exact ⟨0, [], none, 0, 0, Nat.zero_le _, rfl, Nat.le_refl _, Lib.hid ⟨rfl, Nat.le_refl _⟩, SX0⟩
  case round =>
    obtain ⟨k, l, pm, nm, cm, hk, rfl, hcm, HI, SX⟩ := hrel
    clear SX0
    by_cases hlt : k < n
    · obtain ⟨x, hx⟩ : ∃ x, xs[k]? = some x := ⟨xs[k]'(by rw [HL.out]; exact hlt), List.getElem?_eq_getElem _⟩
      have hx32 := HW.out x (List.mem_of_getElem? hx)
      obtain ⟨y, hpy, _, _⟩ := HR.out _ (Below.refl _ _) k (x : Int) (Lnk.ints_at hx)
      subst hpy
      have HCE := Lib.hid (fun (v : World) (hb : Below w.heap.size w v) => (show v.cell? (y.add k) = some (.int .u32 (x : Int)) from by
        obtain ⟨y', h, _, e⟩ := HR.out v hb k (x : Int) (Lnk.ints_at hx)
        cases h
        exact e))
      have d1 : (k : Int) < (n : Int) := by omega
      have d0 : (0 : Int) ≤ (k : Int) := by omega
      have wk := IntWalk.i64_in ((k : Int) + 1) (by omega)
      have HX32 := Lib.hid hx32
      have e0 := HCE.out _ SX.out.bw
      have r0 := SX.out.cr
      have f0 := SX.out.fr
      obtain ⟨z, hz⟩ : ∃ z : Int, (x : Int) = z := ⟨_, rfl⟩
      have HZ := Lib.hid hz
      rw [hz] at e0 HCE
      by_cases hbig : 5000 ≤ x
      · have hd : (5000 : Int) ≤ z := by omega
        clear hz hx hx32 hbig
        go_wp2_with fail
        refine (HK.out _ SX.out.bw).mono ?_
        rintro e w1 ⟨rfl, b1⟩
        have SX1 := Lib.hid (SX.out.below b1)
        have r1 := SX1.out.cr
        have f1 := SX1.out.fr
        clear b1 SX r0 f0 e0
        go_wp2_with fail
        have hres := heap_set (j := 0) SX1.out.br (.bool true)
        have d3 : (w1.setCell ⟨w.heap.size + 1, 0, none⟩ (.bool true)).cell? ⟨w.heap.size + 1, 0, none⟩ = some (.bool true) := by simp [World.cell?, hres]
        exact ⟨.bool true, by simp [results, Try.results9, go_sem, d3], rfl, SX1.out.bw.setCell (p := ⟨w.heap.size + 1, 0, none⟩) (by show w.heap.size ≤ w.heap.size + 1; omega) _⟩
      · have hd : ¬ (5000 : Int) ≤ z := by omega
        obtain ⟨l', hl'⟩ : ∃ l', addL l x = l' := ⟨_, rfl⟩
        obtain ⟨z1, hz1⟩ : ∃ z1, addC l x = z1 := ⟨_, rfl⟩
        obtain ⟨nm', hnm'⟩ : ∃ nm', l'.length = nm' := ⟨_, rfl⟩
        have hle : nm' ≤ nm + 1 := by
          rw [← hnm', ← hl', ← HI.out.1]
          unfold addL
          split
          · simp
          · omega
        have HI2 := Lib.hid (show l'.length = nm' ∧ nm' ≤ k + 1 from ⟨hnm', by have := HI.out.2; omega⟩)
        have HA := Lib.hid (show addC l x = z1 ∧ addL l x = l' ∧ l.length = nm ∧ nm ≤ 100000 from ⟨hz1, hl', HI.out.1, by have := HI.out.2; omega⟩)
        clear hz hx hx32 hbig hl' hz1 hnm' hle r0 f0
        go_wp2_with fail
        have S0 := Lib.hid (SX.out.below (Below.drew (Below.refl wr.heap.size wr)))
        have p0 : wr.drew.cell? ⟨bl + 1, 0, none⟩ = some (.slice pm nm cm) := S0.out.cx
        have p1 : wr.drew.cell? (y.add k) = some (.int .u32 z) := HCE.out _ S0.out.bw
        go_region_held3 (fun u => u.cell? (y.add k) = some (.int .u32 z) ∧ u.cell? ⟨bl + 1, 0, none⟩ = some (.slice pm nm cm)) (exact ⟨by assumption, by assumption⟩) (first
          | (go_at_call 44; rw [← HZ.out]; refine (Sx.radd S0 nm cm x HA.out.2.2.1 HA.out.2.2.2 hcm HX32.out z1 l' nm' HA.out.1 HA.out.2.1 HI2.out.1).mono ?_; rw [HZ.out]; rintro e u3 ⟨pa, ka, rfl, S1, hka⟩; have p2 := HCE.out _ S1.out.bw; have p3 := S1.out.cx))
        clear p0 p1 S0 SX e0
        go_wp2_with fail
        have S2 := Lib.hid (S1.out.below (Below.drew (Below.refl u3.heap.size u3)))
        have q0 : u3.drew.cell? ⟨bl, 0, none⟩ = some (.pointer (some ⟨o, 0, none⟩)) := S2.out.cl
        have q1 : u3.drew.cell? (y.add k) = some (.int .u32 z) := HCE.out _ S2.out.bw
        clear S1 p2 p3
        go_region_held3 (fun u => u.cell? (y.add k) = some (.int .u32 z) ∧ u.cell? ⟨bl, 0, none⟩ = some (.pointer (some ⟨o, 0, none⟩))) (exact ⟨by assumption, by assumption⟩) (first
          | (go_at_call 45; rw [← HZ.out]; refine (Sx.add S2 x HX32.out z1 l' HA.out.1 HA.out.2.1).mono ?_; rw [HZ.out]; rintro e u4 ⟨rfl, S3⟩; have q2 := HCE.out _ S3.out.bw; have q3 := S3.out.cl))
        clear q0 q1 S2
        have m0 := S3.out.cx
        have m1 := S3.out.fx
        go_wp2_with fail
        go_roundw
        case rel => exact ⟨k + 1, l', pa, nm', ka, by omega, by go_num, hka, HI2, Lib.hid (S3.out.set _)⟩
        case measure => simp [intOf] <;> omega
    · have d1 : ¬ (k : Int) < (n : Int) := by omega
      clear hlt
      go_wp2_with fail
      have l0 := SX.out.cl
      obtain ⟨cl, ql, rl, cql, crl, Nl, Fl, lu, lu2, lu3⟩ := SX.out.lu
      have HLU := Lib.hid lu
      have HLU2 := Lib.hid lu2
      have HLU3 := Lib.hid lu3
      have HALL := Lib.hid (All15_any lu)
      clear lu lu2 lu3
      gi_wp2
      refine ⟨trivial, ?_⟩
      refine (callsIn_wide.2 HALL.out).mono ?_
      rintro e W2 ⟨⟨g, pi, ci, rfl, hg1, hg2, hcg, hru, hpf⟩, b2⟩
      have SX2 := Lib.hid (SX.out.below b2)
      have HG := Lib.hid (show wr.heap.size ≤ g ∧ g < W2.heap.size ∧ W2.cell? ⟨g, 0, none⟩ = some (.slice pi (ints l).length ci) ∧ Ru W2 pi (ints l) ∧ ∀ y, pi = some y → wr.heap.size ≤ y.block from ⟨hg1, hg2, hcg, hru, hpf⟩)
      have BK := Lib.hid (show ∀ k, Ob4 o cl ql rl k → k < wr.heap.size from fun k hk => HLU.out.blk hk)
      have HLW := Lib.hid (HLU.out.below b2)
      have W2s := Lib.hid b2.size
      have ba1 := box_below W2 #[.int .i64 0] 3
      have ba2 := box_below (W2.alloc (.cells #[.int .i64 0] 3)) #[.int .i64 0] 3
      have PP0 := Lib.hid (show P2 w W2 ((W2.alloc (.cells #[.int .i64 0] 3)).alloc (.cells #[.int .i64 0] 3)) o cl ql rl W2.heap.size (W2.heap.size + 1) 0 0 [] from
        ⟨⟨cl, ql, rl, cql, crl, Nl, Fl, l, HLW.out.below (tr ba1 ba2), fun k hk => by have := BK.out k hk; have := W2s.out; have := (HLU2.out k hk).1; exact ⟨by omega, by omega, by omega, fun _ => hk⟩⟩,
          fun k hk _ => (tr ba1 ba2).block k hk, (ba2.block _ (by simp)).trans (MapKept.heap_alloc W2 _).1, by simpa using (MapKept.heap_alloc (W2.alloc (.cells #[.int .i64 0] 3)) (.cells #[.int .i64 0] 3)).1, by omega, (fun D hD => by cases hD), by have := (Array.getElem?_eq_some_iff.1 SX2.out.br).1; omega, (tr ba1 ba2).size, tr SX2.out.bw (tr ba1 ba2)⟩)
      clear b2 hg1 hg2 hcg hru hpf l0 SX HALL ba1 ba2 HLW
      gi_wp2
      refine wpIn_loop_rounds 3 ?_
      rw [roundsIn_succ]
      gi_wp2
      have HX : ∀ x : El (ints l), ∃ s : Nat, x.val = (s : Int) ∧ s ∈ l := fun x => by
        have := x.property
        unfold ints at this
        obtain ⟨s, hs, e⟩ := List.mem_map.1 this
        exact ⟨s, e.symm, hs⟩
      obtain ⟨tb, htb⟩ : ∃ tb, W2.heap.size = tb := ⟨_, rfl⟩
      obtain ⟨W3, hW3⟩ : ∃ W3, (W2.alloc (.cells #[.int .i64 0] 3)).alloc (.cells #[.int .i64 0] 3) = W3 := ⟨_, rfl⟩
      rw [hW3] at PP0 ⊢
      rw [htb] at PP0 ⊢
      have HTB := Lib.hid htb
      clear hW3 htb
      have NOB := Lib.hid (show ¬ Ob4 o cl ql rl w.heap.size ∧ ¬ Ob4 o cl ql rl (w.heap.size + 1) ∧ ¬ Ob4 o cl ql rl bl ∧ ¬ Ob4 o cl ql rl (bl + 1) from ⟨fun h => by have := (HLU2.out _ h).1; omega, fun h => by have := (HLU2.out _ h).1; omega, fun h => (HLU2.out _ h).2.1 rfl, fun h => (HLU2.out _ h).2.2 rfl⟩)
      have WS2 := Lib.hid (show w.heap.size < W2.heap.size ∧ w.heap.size + 1 < W2.heap.size from ⟨(Array.getElem?_eq_some_iff.1 SX2.out.bm).1, (Array.getElem?_eq_some_iff.1 SX2.out.br).1⟩)
      have HLEN := Lib.hid (show (ints l).length ≤ 4194304 from by rw [ints_len]; exact HLU.out.lo.len_le (k := 0) rfl)
      have HRUK := Lib.hid (show ∀ A B, K2 W2 o cl ql rl A B → Ru A pi (ints l) → Ru B pi (ints l) from fun A B hh r i x hx => by
        obtain ⟨y, hy, hlt, hc⟩ := r i x hx
        obtain ⟨y', hy', hlt2, _⟩ := HG.out.2.2.2.1 i x hx
        rw [hy] at hy'
        cases hy'
        have hb := HG.out.2.2.2.2 y hy
        refine ⟨y, hy, Nat.lt_of_lt_of_le hlt hh.2, ?_⟩
        rw [← hc]
        unfold World.cell?
        rw [Lnk.add_block, hh.1 _ hlt2 fun hk => by have := BK.out _ hk; omega])
      have HIT := Lib.hid (show ∀ (W : World) (tb nb : Nat) (tv nv : Int) (Ds : List Nat), P2 w W2 W o cl ql rl tb nb tv nv Ds → W.cell? ⟨g, 0, none⟩ = some (.slice pi (ints l).length ci) ∧ Ru W pi (ints l) ∧ g < W.heap.size from fun W tb nb tv nv Ds pp =>
        ⟨(pp.cell (a := ⟨g, 0, none⟩) HG.out.2.1 fun hk => by have := BK.out g hk; have := HG.out.1; omega).trans HG.out.2.2.1, HRUK.out W2 W ⟨fun k h1 h2 => pp.kp k h1 h2, pp.sz⟩ HG.out.2.2.2.1, Nat.lt_of_lt_of_le HG.out.2.1 pp.sz⟩)
      refine codeIn_mid 4 (fun D W => ∃ nv, w.heap.size ≤ D ∧ Hid (P2 w W2 W o cl ql rl tb (tb + 1) 0 nv [D])) ?first (fun _ _ h => h) ?rest
      case first =>
        refine' wpIn_rangeFunc_ownF (encs := fun x : El (ints l) => #[.int .u32 x.val]) (Kp := K2 W2 o cl ql rl) (S := fun ys => vals ys = ints l) (Sp := fun pre => vals pre <+: ints l) (N := (ints l).length) rfl (by decide) (gf := 88) (lb := #[.pointer (some ⟨g, 0, none⟩)]) rfl trivial (enters_of Try.func88 (by kernel_rfl) rfl)
          (w0 := W3)
          (fun L J Jx W hW _ _ hY h0 => allsub_in (K2 W2 o cl ql rl) L g pi ci (ints l) HLEN.out J Jx HRUK.out hY W ((hW.cell (p := ⟨g, 0, none⟩) (HIT.out _ _ _ _ _ _ PP0.out).2.2).trans (HIT.out _ _ _ _ _ _ PP0.out).1) ((HIT.out _ _ _ _ _ _ PP0.out).2.1.below hW) h0)
          (fun h k => ⟨fun b h1 h2 => (k.1 b h1 h2).trans (h.1 b h1 h2), Nat.le_trans h.2 k.2⟩) (fun W l o o' h1 h2 h3 h4 => ⟨fun k hk _ => heap_putObj_ne W l o' k (by have := PP0.out.sz; omega), by simp [World.putObj]⟩) (Below.refl _ _) (fun _ => rfl)
          (fun pre W => vals pre <+: ints l ∧ P2 w W2 W o cl ql rl tb (tb + 1) 0 (pre.length : Int) [])
          (fun c pre W => (c = .ret ∧ ¬ vals pre <+: ints l) ∨ (c = .exit 4 ∧ ∃ nv, P2 w W2 W o cl ql rl tb (tb + 1) 0 nv []))
          (fun pre W W' row hI hg hr => ?ownI) (fun c pre W W' row hI hg hr => ?ownX) ⟨List.nil_prefix, PP0.out⟩
          _ ?assign ?body ?done ?stop
        case ownI => exact ⟨hI.1, hI.2.own PP0.out.sz (fun D hD => by cases hD) hg hr⟩
        case ownX =>
          rcases hI with hI | ⟨h1, nv, h2⟩
          · exact .inl hI
          · exact .inr ⟨h1, nv, h2.own PP0.out.sz (fun D hD => by cases hD) hg hr⟩
        case assign =>
          intro l x W K hK
          gi_wp2
          exact hK
        case body =>
          rintro L pre x W ⟨hpre, pp⟩ hlt
          obtain ⟨u, hu, hul⟩ := HX x
          have PP := Lib.hid pp
          have hu32 : u < 4294967296 := by have := (HLU.out.lo.ring.mem 0 l u rfl hul).1; have := HLU.out.lo.n2; omega
          obtain ⟨k0, hk0⟩ : ∃ k0, pre.length = k0 := ⟨_, rfl⟩
          rw [hk0] at PP hlt
          rw [ints_len, HI.out.1] at hlt
          obtain ⟨t, ht⟩ : ∃ t, l[k0]? = some t := ⟨l[k0]'(by rw [HI.out.1]; exact hlt), List.getElem?_eq_getElem _⟩
          have hlne : l ≠ [] := fun e => by rw [e] at ht; cases ht
          obtain ⟨ym, hym, hymb, em⟩ := SX2.out.ru k0 (t : Int) (Lnk.ints_at ht)
          subst hym
          have hymn := HLU3.out ym rfl hlne
          have e0 : W.cell? (ym.add k0) = some (.int .u32 (t : Int)) := (PP.out.cell (a := ym.add k0) (by rw [add_block]; exact hymb) (by rw [add_block]; exact hymn)).trans em
          have e1 := PP.out.cn
          have e2 : W.cell? ⟨bl + 1, 0, none⟩ = some (.slice (some ym) nm cm) := (PP.out.cell (a := ⟨bl + 1, 0, none⟩) (Array.getElem?_eq_some_iff.1 SX2.out.bx').1 NOB.out.2.2.2).trans SX2.out.cx
          have HC3 := Lib.hid (fun (v : World) (tb nb : Nat) (tv nv : Int) (Ds : List Nat) (pp : P2 w W2 v o cl ql rl tb nb tv nv Ds) => (show v.cell? ⟨bl, 0, none⟩ = some (.pointer (some ⟨o, 0, none⟩)) from (pp.cell (a := ⟨bl, 0, none⟩) (Array.getElem?_eq_some_iff.1 SX2.out.bl').1 NOB.out.2.2.1).trans SX2.out.cl))
          have e3 := HC3.out W _ _ _ _ _ PP.out
          have d0 : (0 : Int) ≤ (k0 : Int) := by omega
          have d1 : (k0 : Int) < (nm : Int) := by omega
          have d2 : ¬ (nm : Int) ≤ (k0 : Int) := by omega
          have hnm60 : nm ≤ 60 := by have := HI.out.2; omega
          have wk := IntWalk.i64_in ((k0 : Int) + 1) (by omega)
          have wsx : IntKind.i64.wrap s = s := IntWalk.i64_in s (by omega)
          rw [hu]
          by_cases hut : u = t
          · subst hut
            have HPS := Lib.hid (vals_ext hpre hk0 hu ht)
            have HU := Lib.hid hu32
            have HLEN2 := Lib.hid (show ((pre ++ [x]).length : Int) = (k0 : Int) + 1 from by rw [List.length_append, hk0]; simp)
            obtain ⟨z, hz⟩ : ∃ z : Int, (u : Int) = z := ⟨_, rfl⟩
            have HZ := Lib.hid hz
            rw [hz] at e0 ⊢
            clear hz hu32 ht hul hpre em hlne hu
            gi_wp2
            refine ⟨trivial, ?_⟩
            rw [← HZ.out]
            refine (CallsIn.inRound L (callsIn_wide.2 (P2.use PP u HU.out))).mono ?_
            rw [HZ.out]
            rintro e W4 ⟨⟨zu, rfl⟩, PP4, KO4⟩
            have e4 := PP4.out.cn
            have e5 := HC3.out W4 _ _ _ _ _ PP4.out
            clear e0 e1 e2 e3
            by_cases hev : k0 % 2 = 0
            · have hm : Int.tmod (k0 : Int) 2 = 0 := by rw [Int.tmod_eq_emod_of_nonneg (by omega)]; omega
              clear hev
              gi_wp2
              refine ⟨trivial, ?_⟩
              rw [← HZ.out]
              refine (CallsIn.inRound L (callsIn_wide.2 (P2.rem PP4 u HU.out))).mono ?_
              rw [HZ.out]
              rintro e W5 ⟨⟨zv, rfl⟩, PP5, KO5⟩
              have f4 := PP5.out.cn
              have f6 := PP5.out.fn
              clear e4 e5
              have e7 := (PP5.out.setn ((k0 : Int) + 1)).1.cn
              have e8 := (PP5.out.setn ((k0 : Int) + 1)).1.ct
              have e9 : (W5.setCell ⟨tb + 1, 0, none⟩ (.int .i64 ((k0 : Int) + 1))).cell? ⟨w.heap.size, 0, none⟩ = some (.int .u8 s) := ((PP5.out.setn ((k0 : Int) + 1)).1.cell (a := ⟨w.heap.size, 0, none⟩) WS2.out.1 NOB.out.1).trans SX2.out.cm
              have HF := Lib.hid (show KeepsOthers W (W5.setCell ⟨tb + 1, 0, none⟩ (.int .i64 ((k0 : Int) + 1))) ∧ P2 w W2 (W5.setCell ⟨tb + 1, 0, none⟩ (.int .i64 ((k0 : Int) + 1))) o cl ql rl tb (tb + 1) 0 ((k0 : Int) + 1) [] from ⟨(KO4.out.trans KO5.out).trans (PP5.out.setn _).2, (PP5.out.setn _).1⟩)
              by_cases hsm : s < (k0 : Int) + 1
              · gi_wp2
                exact ⟨HF.out.1, .inr ⟨rfl, _, HF.out.2⟩⟩
              · gi_wp2
                exact ⟨HF.out.1, PP.out.k2 HF.out.2 HF.out.1, HPS.out, by rw [HLEN2.out]; exact HF.out.2⟩
            · have hm : Int.tmod (k0 : Int) 2 = 1 := by rw [Int.tmod_eq_emod_of_nonneg (by omega)]; omega
              have e6 := PP4.out.fn
              clear hev
              have e7 := (PP4.out.setn ((k0 : Int) + 1)).1.cn
              have e8 := (PP4.out.setn ((k0 : Int) + 1)).1.ct
              have e9 : (W4.setCell ⟨tb + 1, 0, none⟩ (.int .i64 ((k0 : Int) + 1))).cell? ⟨w.heap.size, 0, none⟩ = some (.int .u8 s) := ((PP4.out.setn ((k0 : Int) + 1)).1.cell (a := ⟨w.heap.size, 0, none⟩) WS2.out.1 NOB.out.1).trans SX2.out.cm
              have HF := Lib.hid (show KeepsOthers W (W4.setCell ⟨tb + 1, 0, none⟩ (.int .i64 ((k0 : Int) + 1))) ∧ P2 w W2 (W4.setCell ⟨tb + 1, 0, none⟩ (.int .i64 ((k0 : Int) + 1))) o cl ql rl tb (tb + 1) 0 ((k0 : Int) + 1) [] from ⟨KO4.out.trans (PP4.out.setn _).2, (PP4.out.setn _).1⟩)
              by_cases hsm : s < (k0 : Int) + 1
              · gi_wp2
                exact ⟨HF.out.1, .inr ⟨rfl, _, HF.out.2⟩⟩
              · gi_wp2
                exact ⟨HF.out.1, PP.out.k2 HF.out.2 HF.out.1, HPS.out, by rw [HLEN2.out]; exact HF.out.2⟩
          · have hne : ¬ (u : Int) = (t : Int) := fun h => hut (by omega)
            have hbn : ((u : Int) == (t : Int)) = false := beq_eq_false_iff_ne.2 hne
            have hbn2 : ((u : Int) != (t : Int)) = true := by simp [bne, hbn]
            have HNO := Lib.hid (show ¬ vals (pre ++ [x]) <+: ints l from fun h => hut (vals_next h hk0 hu ht))
            have r0 : W.cell? ⟨w.heap.size + 1, 0, none⟩ = some (.bool false) := (PP.out.cell (a := ⟨w.heap.size + 1, 0, none⟩) WS2.out.2 NOB.out.2.1).trans SX2.out.cr
            have hrb : W.heap[w.heap.size + 1]? = some (.cells #[.bool false] 4 (0, 0)) := (PP.out.kp _ WS2.out.2 NOB.out.2.1).trans SX2.out.br
            have f0 : W.frozen? ⟨w.heap.size + 1, 0, none⟩ = false := by simp [World.frozen?, hrb]
            obtain ⟨z, hz⟩ : ∃ z : Int, (u : Int) = z := ⟨_, rfl⟩
            obtain ⟨zt, hzt⟩ : ∃ z : Int, (t : Int) = z := ⟨_, rfl⟩
            rw [hz, hzt] at hne hbn hbn2
            rw [hzt] at e0
            rw [hz]
            clear hz hzt hu32 ht hul hpre em hlne hut hu hrb
            gi_wp2
            exact ⟨KeepsOthers.setCell _ _ _, .inl ⟨rfl, HNO.out⟩⟩
        case done =>
          rintro D ys W hD hys ⟨_, pp⟩ hK
          exact ⟨D, rfl, _, Nat.le_trans PP0.out.bw.size hD, Lib.hid (pp.mark hK)⟩
        case stop =>
          rintro D c pre W hD hpre (⟨rfl, hno⟩ | ⟨rfl, nv, pp⟩) hK
          · exact absurd hpre hno
          · gi_wp2
            exact ⟨rfl, D, rfl, Nat.le_trans PP0.out.bw.size hD, nv, Lib.hid (pp.mark hK)⟩
      case rest =>
        rintro D W ⟨nv, hDD0, PP⟩
        have HDD := Lib.hid hDD0
        clear hDD0
        have t0 := PP.out.ct
        have t1 := PP.out.ft
        clear PP0
        have HDW := Lib.hid (Array.getElem?_eq_some_iff.1 (PP.out.ds D (List.mem_cons_self ..))).1
        have PP6 := Lib.hid (PP.out.turn 1 0)
        clear PP
        gi_wp2
        rw [roundsIn_succ]
        gi_wp2
        obtain ⟨tb1, htb1⟩ : ∃ tb1, W.heap.size = tb1 := ⟨_, rfl⟩
        obtain ⟨W6, hW6⟩ : ∃ W6, (W.alloc (.cells #[.int .i64 1] 3)).alloc (.cells #[.int .i64 0] 3) = W6 := ⟨_, rfl⟩
        have HDL := Lib.hid (show ∀ D' ∈ [D], D' < W6.heap.size from fun D' hD' => by
          simp at hD'
          subst hD'
          rw [← hW6]
          simp
          have := HDW.out
          omega)
        rw [hW6] at PP6 ⊢
        rw [htb1] at PP6 ⊢
        clear hW6 htb1 HDW
        refine codeIn_mid 4 (fun D' W => D < D' ∧ Hid (P2 w W2 W o cl ql rl tb1 (tb1 + 1) 1 (nm : Int) [D', D])) ?first (fun _ _ h => h) ?rest
        case first =>
          refine' wpIn_rangeFunc_ownF (encs := fun x : El (ints l) => #[.int .u32 x.val]) (Kp := K2 W2 o cl ql rl) (S := fun ys => vals ys = ints l) (Sp := fun pre => vals pre <+: ints l) (N := (ints l).length) rfl (by decide) (gf := 88) (lb := #[.pointer (some ⟨g, 0, none⟩)]) rfl trivial (enters_of Try.func88 (by kernel_rfl) rfl)
            (w0 := W6)
            (fun L J Jx W hW _ _ hY h0 => allsub_in (K2 W2 o cl ql rl) L g pi ci (ints l) HLEN.out J Jx HRUK.out hY W ((hW.cell (p := ⟨g, 0, none⟩) (HIT.out _ _ _ _ _ _ PP6.out).2.2).trans (HIT.out _ _ _ _ _ _ PP6.out).1) ((HIT.out _ _ _ _ _ _ PP6.out).2.1.below hW) h0)
            (fun h k => ⟨fun b h1 h2 => (k.1 b h1 h2).trans (h.1 b h1 h2), Nat.le_trans h.2 k.2⟩) (fun W l o o' h1 h2 h3 h4 => ⟨fun k hk _ => heap_putObj_ne W l o' k (by have := PP6.out.sz; omega), by simp [World.putObj]⟩) (Below.refl _ _) (fun _ => rfl)
            (fun pre W => vals pre <+: ints l ∧ P2 w W2 W o cl ql rl tb1 (tb1 + 1) 1 (pre.length : Int) [D])
            (fun c pre W => c = .ret ∧ ¬ vals pre <+: ints l)
            (fun pre W W' row hI hg hr => ?ownI) (fun c pre W W' row hI hg hr => ?ownX) ⟨List.nil_prefix, PP6.out⟩
            _ ?assign ?body ?done ?stop
          case ownI => exact ⟨hI.1, hI.2.own PP6.out.sz HDL.out hg hr⟩
          case ownX => exact hI
          case assign =>
            intro l x W K hK
            gi_wp2
            exact hK
          case body =>
            rintro L pre x W ⟨hpre, pp⟩ hlt
            obtain ⟨u, hu, hul⟩ := HX x
            have PP := Lib.hid pp
            have hu32 : u < 4294967296 := by have := (HLU.out.lo.ring.mem 0 l u rfl hul).1; have := HLU.out.lo.n2; omega
            obtain ⟨k0, hk0⟩ : ∃ k0, pre.length = k0 := ⟨_, rfl⟩
            rw [hk0] at PP hlt
            rw [ints_len, HI.out.1] at hlt
            obtain ⟨t, ht⟩ : ∃ t, l[k0]? = some t := ⟨l[k0]'(by rw [HI.out.1]; exact hlt), List.getElem?_eq_getElem _⟩
            have hlne : l ≠ [] := fun e => by rw [e] at ht; cases ht
            obtain ⟨ym, hym, hymb, em⟩ := SX2.out.ru k0 (t : Int) (Lnk.ints_at ht)
            subst hym
            have hymn := HLU3.out ym rfl hlne
            have e0 : W.cell? (ym.add k0) = some (.int .u32 (t : Int)) := (PP.out.cell (a := ym.add k0) (by rw [add_block]; exact hymb) (by rw [add_block]; exact hymn)).trans em
            have e1 := PP.out.cn
            have e2 : W.cell? ⟨bl + 1, 0, none⟩ = some (.slice (some ym) nm cm) := (PP.out.cell (a := ⟨bl + 1, 0, none⟩) (Array.getElem?_eq_some_iff.1 SX2.out.bx').1 NOB.out.2.2.2).trans SX2.out.cx
            have HC3 := Lib.hid (fun (v : World) (tb nb : Nat) (tv nv : Int) (Ds : List Nat) (pp : P2 w W2 v o cl ql rl tb nb tv nv Ds) => (show v.cell? ⟨bl, 0, none⟩ = some (.pointer (some ⟨o, 0, none⟩)) from (pp.cell (a := ⟨bl, 0, none⟩) (Array.getElem?_eq_some_iff.1 SX2.out.bl').1 NOB.out.2.2.1).trans SX2.out.cl))
            have e3 := HC3.out W _ _ _ _ _ PP.out
            have d0 : (0 : Int) ≤ (k0 : Int) := by omega
            have d1 : (k0 : Int) < (nm : Int) := by omega
            have d2 : ¬ (nm : Int) ≤ (k0 : Int) := by omega
            have hnm60 : nm ≤ 60 := by have := HI.out.2; omega
            have wk := IntWalk.i64_in ((k0 : Int) + 1) (by omega)
            have wsx : IntKind.i64.wrap s = s := IntWalk.i64_in s (by omega)
            rw [hu]
            by_cases hut : u = t
            · subst hut
              have HPS := Lib.hid (vals_ext hpre hk0 hu ht)
              have HU := Lib.hid hu32
              have HLEN2 := Lib.hid (show ((pre ++ [x]).length : Int) = (k0 : Int) + 1 from by rw [List.length_append, hk0]; simp)
              obtain ⟨z, hz⟩ : ∃ z : Int, (u : Int) = z := ⟨_, rfl⟩
              have HZ := Lib.hid hz
              rw [hz] at e0 ⊢
              clear hz hu32 ht hul hpre em hlne hu
              gi_wp2
              refine ⟨trivial, ?_⟩
              rw [← HZ.out]
              refine (CallsIn.inRound L (callsIn_wide.2 (P2.use PP u HU.out))).mono ?_
              rw [HZ.out]
              rintro e W4 ⟨⟨zu, rfl⟩, PP4, KO4⟩
              have e4 := PP4.out.cn
              have e5 := HC3.out W4 _ _ _ _ _ PP4.out
              clear e0 e1 e2 e3
              by_cases hev : k0 % 2 = 0
              · have hm : Int.tmod (k0 : Int) 2 = 0 := by rw [Int.tmod_eq_emod_of_nonneg (by omega)]; omega
                clear hev
                gi_wp2
                refine ⟨trivial, ?_⟩
                rw [← HZ.out]
                refine (CallsIn.inRound L (callsIn_wide.2 (P2.rem PP4 u HU.out))).mono ?_
                rw [HZ.out]
                rintro e W5 ⟨⟨zv, rfl⟩, PP5, KO5⟩
                have f4 := PP5.out.cn
                have f6 := PP5.out.fn
                clear e4 e5
                have e7 := (PP5.out.setn ((k0 : Int) + 1)).1.cn
                have e8 := (PP5.out.setn ((k0 : Int) + 1)).1.ct
                have e9 : (W5.setCell ⟨tb1 + 1, 0, none⟩ (.int .i64 ((k0 : Int) + 1))).cell? ⟨w.heap.size, 0, none⟩ = some (.int .u8 s) := ((PP5.out.setn ((k0 : Int) + 1)).1.cell (a := ⟨w.heap.size, 0, none⟩) WS2.out.1 NOB.out.1).trans SX2.out.cm
                have HF := Lib.hid (show KeepsOthers W (W5.setCell ⟨tb1 + 1, 0, none⟩ (.int .i64 ((k0 : Int) + 1))) ∧ P2 w W2 (W5.setCell ⟨tb1 + 1, 0, none⟩ (.int .i64 ((k0 : Int) + 1))) o cl ql rl tb1 (tb1 + 1) 1 ((k0 : Int) + 1) [D] from ⟨(KO4.out.trans KO5.out).trans (PP5.out.setn _).2, (PP5.out.setn _).1⟩)
                gi_wp2
                exact ⟨HF.out.1, PP.out.k2 HF.out.2 HF.out.1, HPS.out, by rw [HLEN2.out]; exact HF.out.2⟩
              · have hm : Int.tmod (k0 : Int) 2 = 1 := by rw [Int.tmod_eq_emod_of_nonneg (by omega)]; omega
                have e6 := PP4.out.fn
                clear hev
                have e7 := (PP4.out.setn ((k0 : Int) + 1)).1.cn
                have e8 := (PP4.out.setn ((k0 : Int) + 1)).1.ct
                have e9 : (W4.setCell ⟨tb1 + 1, 0, none⟩ (.int .i64 ((k0 : Int) + 1))).cell? ⟨w.heap.size, 0, none⟩ = some (.int .u8 s) := ((PP4.out.setn ((k0 : Int) + 1)).1.cell (a := ⟨w.heap.size, 0, none⟩) WS2.out.1 NOB.out.1).trans SX2.out.cm
                have HF := Lib.hid (show KeepsOthers W (W4.setCell ⟨tb1 + 1, 0, none⟩ (.int .i64 ((k0 : Int) + 1))) ∧ P2 w W2 (W4.setCell ⟨tb1 + 1, 0, none⟩ (.int .i64 ((k0 : Int) + 1))) o cl ql rl tb1 (tb1 + 1) 1 ((k0 : Int) + 1) [D] from ⟨KO4.out.trans (PP4.out.setn _).2, (PP4.out.setn _).1⟩)
                gi_wp2
                exact ⟨HF.out.1, PP.out.k2 HF.out.2 HF.out.1, HPS.out, by rw [HLEN2.out]; exact HF.out.2⟩
            · have hne : ¬ (u : Int) = (t : Int) := fun h => hut (by omega)
              have hbn : ((u : Int) == (t : Int)) = false := beq_eq_false_iff_ne.2 hne
              have hbn2 : ((u : Int) != (t : Int)) = true := by simp [bne, hbn]
              have HNO := Lib.hid (show ¬ vals (pre ++ [x]) <+: ints l from fun h => hut (vals_next h hk0 hu ht))
              have r0 : W.cell? ⟨w.heap.size + 1, 0, none⟩ = some (.bool false) := (PP.out.cell (a := ⟨w.heap.size + 1, 0, none⟩) WS2.out.2 NOB.out.2.1).trans SX2.out.cr
              have hrb : W.heap[w.heap.size + 1]? = some (.cells #[.bool false] 4 (0, 0)) := (PP.out.kp _ WS2.out.2 NOB.out.2.1).trans SX2.out.br
              have f0 : W.frozen? ⟨w.heap.size + 1, 0, none⟩ = false := by simp [World.frozen?, hrb]
              obtain ⟨z, hz⟩ : ∃ z : Int, (u : Int) = z := ⟨_, rfl⟩
              obtain ⟨zt, hzt⟩ : ∃ z : Int, (t : Int) = z := ⟨_, rfl⟩
              rw [hz, hzt] at hne hbn hbn2
              rw [hzt] at e0
              rw [hz]
              clear hz hzt hu32 ht hul hpre em hlne hut hu hrb
              gi_wp2
              exact ⟨KeepsOthers.setCell _ _ _, rfl, HNO.out⟩
          case done =>
            rintro D1 ys W hD hys ⟨_, pp⟩ hK
            have hyl : (ys.length : Int) = (nm : Int) := by
              have h := congrArg List.length hys
              rw [vals_len, ints_len, HI.out.1] at h
              omega
            rw [hyl] at pp
            exact ⟨D1, rfl, (by have := HDL.out D (List.mem_cons_self ..); omega), Lib.hid (pp.mark hK)⟩
          case stop =>
            rintro D c pre W hD hpre ⟨rfl, hno⟩ hK
            exact absurd hpre hno
        case rest =>
          rintro D1 W7 ⟨hDD, PP7⟩
          have t0 := PP7.out.ct
          have t1 := PP7.out.ft
          have t2 := PP7.out.cn
          have t3 : W7.cell? ⟨bl + 1, 0, none⟩ = some (.slice pm nm cm) := (PP7.out.cell (a := ⟨bl + 1, 0, none⟩) (Array.getElem?_eq_some_iff.1 SX2.out.bx').1 NOB.out.2.2.2).trans SX2.out.cx
          clear PP6 HX
          gi_wp2
          rw [roundsIn_succ]
          gi_wp2
          have ba := box_below W7 #[.int .i64 2] 3
          have PP8 := Lib.hid (PP7.out.below ba)
          refine ⟨trivial, ?_⟩
          refine (callsIn_wide.2 (HK.out _ PP8.out.bw)).mono ?_
          rintro e W9 ⟨rfl, b9⟩
          have PP9 := Lib.hid (PP8.out.below b9)
          have hrb : W9.heap[w.heap.size + 1]? = some (.cells #[.bool false] 4 (0, 0)) := (PP9.out.kp _ WS2.out.2 NOB.out.2.1).trans SX2.out.br
          have f9 : W9.frozen? ⟨w.heap.size + 1, 0, none⟩ = false := by simp [World.frozen?, hrb]
          have r9 : W9.cell? ⟨w.heap.size + 1, 0, none⟩ = some (.bool false) := by simp [World.cell?, hrb]
          have HRB := Lib.hid hrb
          clear PP7 PP8 ba b9 t0 t1 t2 t3 hrb
          gi_wp2
          have hX := heap_set (j := 0) HRB.out (.bool true)
          have hne : ∀ D', W9.heap[D']? = some (Obj.deferred (some [])) → w.heap.size + 1 ≠ D' := fun D' h e => by rw [← e, HRB.out] at h; cases h
          have hkd : ∀ D', W9.heap[D']? = some (Obj.deferred (some [])) → (W9.setCell ⟨w.heap.size + 1, 0, none⟩ (.bool true)).heap[D']? = some (Obj.deferred (some [])) := fun D' hD' => (Below.heap_setCell W9 ⟨w.heap.size + 1, 0, none⟩ _ D' (hne D' hD').symm).trans hD'
          have h1 := PP9.out.ds D1 (List.mem_cons_self ..)
          have h2 := PP9.out.ds D (List.mem_cons_of_mem _ (List.mem_cons_self ..))
          have k1 := hkd D1 h1
          have k2 : ((W9.setCell ⟨w.heap.size + 1, 0, none⟩ (.bool true)).putObj D1 (Obj.deferred none)).heap[D]? = some (Obj.deferred (some [])) := (heap_putObj_ne _ _ _ _ (by omega)).trans (hkd D h2)
          have k3 : (((W9.setCell ⟨w.heap.size + 1, 0, none⟩ (.bool true)).putObj D1 (Obj.deferred none)).putObj D (Obj.deferred none)).heap[w.heap.size + 1]? = some (.cells #[.bool true] 4 (0, 0)) := (heap_putObj_ne _ _ _ _ (hne D h2)).trans ((heap_putObj_ne _ _ _ _ (hne D1 h1)).trans hX)
          have d3 : (((W9.setCell ⟨w.heap.size + 1, 0, none⟩ (.bool true)).putObj D1 (Obj.deferred none)).putObj D (Obj.deferred none)).cell? ⟨w.heap.size + 1, 0, none⟩ = some (.bool true) := by simp [World.cell?, k3]
          have hDl : w.heap.size ≤ D ∧ w.heap.size ≤ D1 := ⟨HDD.out, by have := HDD.out; omega⟩
          have b0 := PP9.out.bw.setCell (p := ⟨w.heap.size + 1, 0, none⟩) (by show w.heap.size ≤ w.heap.size + 1; omega) (.bool true)
          have b1 := b0.trans (belowK_b (w := w) (Nat.le_refl _) _ D1 _ (Obj.deferred none) hDl.2 k1 rfl rfl)
          have b2 := b1.trans (belowK_b (w := w) (Nat.le_refl _) _ D _ (Obj.deferred none) hDl.1 k2 rfl rfl)
          refine ⟨by simp, .inl ⟨_, _, rfl, run_takeDeferred k1, ?_⟩⟩
          refine ⟨by simp, .inl ⟨_, _, rfl, run_takeDeferred k2, ?_⟩⟩
          exact ⟨.bool true, by simp [results, Try.results9, go_sem, d3], rfl, b2⟩
set_option maxRecDepth 100000 in
theorem literates_far {w : World} {p : Option Addr} {n c : Nat} {s : Int} (h : 60 < n)
    (HKN : ∀ v, Below w.heap.size w v → Calls Try.prog 40 #[] v fun e w' => e = .returned (.bool true) ∧ Below v.heap.size v w') :
    Calls Try.prog 9 #[.slice p n c, .int .u8 s] w fun e w' => e = .returned (.bool true) ∧ Below w.heap.size w w' := by
  have HK := Lib.hid HKN
  have c1 : (60 : Int) < (n : Int) := by omega
  clear HKN h
  refine (callsIn_wide (n := 6)).1 ?_
  refine callsIn_of_wp_marks Try.func9 rfl trivial ?_ rfl
  simp only [Try.ntmps9, List.size_toArray, List.length_cons, List.length_nil, Nat.reduceAdd, Nat.reduceSub, Array.replicate_succ, Array.replicate_zero, List.push_toArray, List.append_toArray, List.nil_append, List.cons_append]
  gi_wp2
  refine ⟨trivial, ?_⟩
  have B0 := Lib.hid (by go_grown : Below w.heap.size w ((w.alloc (.cells #[.int .u8 s] 5)).alloc (.cells #[.bool false] 4)))
  have R0 := Lib.hid (show ((w.alloc (.cells #[.int .u8 s] 5)).alloc (.cells #[.bool false] 4)).heap[w.heap.size + 1]? = some (.cells #[.bool false] 4 (0, 0)) from by simpa using (MapKept.heap_alloc (w.alloc (.cells #[.int .u8 s] 5)) (.cells #[.bool false] 4)).1)
  obtain ⟨V, hV⟩ : ∃ V, (w.alloc (.cells #[.int .u8 s] 5)).alloc (.cells #[.bool false] 4) = V := ⟨_, rfl⟩
  rw [hV] at B0 R0 ⊢
  clear hV
  refine (callsIn_wide.2 (HK.out _ B0.out)).mono ?_
  rintro e w1 ⟨rfl, b1⟩
  have hr1 : w1.heap[w.heap.size + 1]? = some (.cells #[.bool false] 4 (0, 0)) := (b1.block _ (Array.getElem?_eq_some_iff.1 R0.out).1).trans R0.out
  have r1 : w1.cell? ⟨w.heap.size + 1, 0, none⟩ = some (.bool false) := by simp [World.cell?, hr1]
  have f1 : w1.frozen? ⟨w.heap.size + 1, 0, none⟩ = false := by simp [World.frozen?, hr1]
  have B1 := Lib.hid (tr B0.out b1)
  have HR1 := Lib.hid hr1
  clear b1 hr1
  gi_wp2
  have hres := heap_set (j := 0) HR1.out (.bool true)
  have d3 : (w1.setCell ⟨w.heap.size + 1, 0, none⟩ (.bool true)).cell? ⟨w.heap.size + 1, 0, none⟩ = some (.bool true) := by simp [World.cell?, hres]
  exact ⟨.bool true, by simp [results, Try.results9, go_sem, d3], rfl, B1.out.setCell (p := ⟨w.heap.size + 1, 0, none⟩) (by show w.heap.size ≤ w.heap.size + 1; omega) _⟩
theorem literates_any {w : World} {p : Option Addr} {n c : Nat} {s : Int} (h : (p = none ∧ n = 0) ∨ ∃ y, p = some y ∧ n ≤ c ∧ c ≤ maxLen ∧ ∀ i, i < n → ∃ z : Int, w.cell? (y.add i) = some (.int .u32 z) ∧ (Lit.int .u32 z).wf = true) (hs : 0 ≤ s ∧ s ≤ 255)
    (HKN : ∀ v, Below w.heap.size w v → Calls Try.prog 40 #[] v fun e w' => e = .returned (.bool true) ∧ Below v.heap.size v w') :
    Calls Try.prog 9 #[.slice p n c, .int .u8 s] w fun e w' => e = .returned (.bool true) ∧ Below w.heap.size w w' := by
  by_cases hf : 60 < n
  · exact literates_far hf HKN
  · obtain ⟨xs, r, hl, hc, hw⟩ := ru_of3 h
    exact literates_in hl (by rcases hc with hc | hc <;> omega) r hw (by omega) hs.1 hs.2 HKN
end Go.Proofs.Ytajkcockeccdoaa.Lru
