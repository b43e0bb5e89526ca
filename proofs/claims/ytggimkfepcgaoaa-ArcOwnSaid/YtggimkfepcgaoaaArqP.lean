/-
  Adaptive replacement (layer 29): ArcHolds.
-/
import Derived.Test.YtggimkfepcgaoaaArcN
import Derived.Test.YtggimkfepcgaoaaArqO
set_option linter.unusedVariables false
set_option linter.unusedSimpArgs false
section
namespace Go.Proofs.Ytggimkfepcgaoaa.Arc
open Go Go.RowKit Kit Go.Maps Lnk Gho
set_option maxRecDepth 100000 in
set_option maxHeartbeats 8000000 in
theorem lholds29 {w : World} {n : Int} {a : Option Addr} {len cap : Nat} {f0 f1 : Nat → Int} (hacts : Ac2 w.heap.size w a len f0 f1) (HK : ∀ v, Below w.heap.size w v → Calls Try.prog 50 #[] v fun e w' => e = .returned (.bool true) ∧ Below v.heap.size v w') :
    Calls Try.prog 13 #[.int .i64 n, .slice a len cap] w fun e w' => e = .returned (.bool true) ∧ Below w.heap.size w w' := by
  by_cases hc : 1 ≤ n ∧ n ≤ 40 ∧ len ≤ 120
  · obtain ⟨M, rfl⟩ := Int.eq_ofNat_of_zero_le (show 0 ≤ n by omega)
    exact aholds_any hacts (by omega) (by omega) (by omega) HK
  · have HKN := Lib.hid (HK w (Below.refl _ _))
    have hd : n < 1 ∨ (¬ n < 1 ∧ 40 < n) ∨ (¬ n < 1 ∧ ¬ 40 < n ∧ 120 < (len : Int)) := by omega
    clear hc HK hacts
    rcases hd with h1 | ⟨h1, h2⟩ | ⟨h1, h2, h3⟩
    all_goals (
      go_enter Try.func13, Try.ntmps13
      go_wp2_with fail
      refine HKN.out.mono ?_
      rintro e u ⟨rfl, bl⟩
      go_wp2_with fail
      exact bodyPost_ret (v := .bool true) (by simp [results, Try.results13, go_sem]) rfl ⟨rfl, bl⟩)
end Go.Proofs.Ytggimkfepcgaoaa.Arc
end
section
namespace Go.Proofs.Ytggimkfepcgaoaa.Arc
open Go Go.RowKit Kit Go.Maps Lnk Gho
/-- a row of numbers at a block of its own, from B on -/
def Nw (B : Nat) (w : World) (p : Option Addr) (n : Nat) : Prop := 0 < n → ∃ (g : Nat) (fz : Nat → Int), p = some ⟨g, 0, none⟩ ∧ B ≤ g ∧ Row w g n 38 fun i => .int .u32 (fz i)
theorem Nw.below {B n : Nat} {w w' : World} {p : Option Addr} (h : Nw B w p n) (hb : Below w.heap.size w w') : Nw B w' p n := fun hn => by
  obtain ⟨g, fz, h1, h2, h3⟩ := h hn
  exact ⟨g, fz, h1, h2, h3.below hb⟩
theorem Nw.mono {B B' n : Nat} {w : World} {p : Option Addr} (h : Nw B w p n) (hB : B' ≤ B) : Nw B' w p n := fun hn => by
  obtain ⟨g, fz, h1, h2, h3⟩ := h hn
  exact ⟨g, fz, h1, Nat.le_trans hB h2, h3⟩
theorem row_nw {w : World} {B n : Nat} {v : Value} {l : List Int} (h : w.ownsRow B 38 1 v n (l.map (Value.int .u32))) (hl : l.length = n) : ∃ p c, v = .slice p n c ∧ Nw B w p n := by
  rcases own_row h (by rw [List.length_map, hl]) with ⟨rfl, h0⟩ | ⟨g, cap, rfl, h1, h2, h3, h4⟩
  · exact ⟨none, 0, by rw [h0], fun hn => absurd h0 (by omega)⟩
  · refine ⟨_, cap, rfl, fun _ => ⟨g, fun i => l.getD i 0, rfl, h1, h4.congr fun i hi => ?_⟩⟩
    show (List.map (Value.int .u32) l).getD i (.int .i64 0) = .int .u32 (l.getD i 0)
    rw [List.getD_eq_getElem?_getD, List.getElem?_map, List.getD_eq_getElem?_getD, List.getElem?_eq_getElem (show i < l.length by omega)]
    rfl
def pick4 {α : Type} (x0 x1 x2 x3 : α) (i : Nat) : α := if i = 0 then x0 else if i = 1 then x1 else if i = 2 then x2 else x3
/-- four rows that may be changed, a table of them behind them, all of it behind wc -/
structure Kr (wc v : World) (tb : Nat) (pp : Nat → Option Addr) (nn kk : Nat → Nat) : Prop where
  b : Below wc.heap.size wc v
  lt : wc.heap.size ≤ tb
  tab : v.heap[tb]? = some (.cells #[.slice (pp 0) (nn 0) (kk 0), .slice (pp 1) (nn 1) (kk 1), .slice (pp 2) (nn 2) (kk 2), .slice (pp 3) (nn 3) (kk 3)] 39 (0, 0))
  r : ∀ i, i < 4 → 0 < nn i → ∃ (g : Nat) (fz : Nat → Int), pp i = some ⟨g, 0, none⟩ ∧ wc.heap.size ≤ g ∧ g < tb ∧ Row v g (nn i) 38 fun k => .int .u32 (fz k)
theorem Kr.row {wc v : World} {tb : Nat} {pp : Nat → Option Addr} {nn kk : Nat → Nat} (h : Kr wc v tb pp nn kk) {i : Nat} (hi : i < 4) : v.cell? ⟨tb, i, none⟩ = some (.slice (pp i) (nn i) (kk i)) := by
  have ht := h.tab
  match i, hi with
  | 0, _ => simp [World.cell?, ht]
  | 1, _ => simp [World.cell?, ht]
  | 2, _ => simp [World.cell?, ht]
  | 3, _ => simp [World.cell?, ht]
theorem Kr.at_ {wc v : World} {tb : Nat} {pp : Nat → Option Addr} {nn kk : Nat → Nat} (h : Kr wc v tb pp nn kk) {i j : Nat} (hi : i < 4) (hj : j < nn i) : ∃ (g : Nat) (z : Int), pp i = some ⟨g, 0, none⟩ ∧ v.cell? ⟨g, j, none⟩ = some (.int .u32 z) ∧ v.frozen? ⟨g, j, none⟩ = false ∧ ∀ x : Int, Kr wc (v.setCell ⟨g, j, none⟩ (.int .u32 x)) tb pp nn kk := by
  obtain ⟨g, fz, e, hg, hgt, hr⟩ := h.r i hi (by omega)
  refine ⟨g, fz j, e, hr.cell j hj, hr.fr j, fun x => ⟨h.b.setCell (p := ⟨g, j, none⟩) hg _, h.lt, (Below.heap_setCell v ⟨g, j, none⟩ _ tb (by show tb ≠ g; omega)).trans h.tab, fun i' hi' hn' => ?_⟩⟩
  obtain ⟨g', fz', e', hg', hgt', hr'⟩ := h.r i' hi' hn'
  by_cases hgg : g' = g
  · subst hgg
    refine ⟨g', fun k => if k = j then x else fz' k, e', hg', hgt', (hr'.set j _).congr fun k hk => ?_⟩
    by_cases hkj : k = j
    · simp [hkj]
    · simp [hkj]
  · exact ⟨g', fz', e', hg', hgt', hr'.other (a := ⟨g, j, none⟩) hgg _⟩
theorem Kr.of {wc w v : World} {p0 p1 p2 p3 : Option Addr} {n0 n1 n2 n3 k0 k1 k2 k3 : Nat} (h : Nw wc.heap.size w p0 n0 ∧ Nw wc.heap.size w p1 n1 ∧ Nw wc.heap.size w p2 n2 ∧ Nw wc.heap.size w p3 n3) (hb : Below wc.heap.size wc w) (hb2 : Below w.heap.size w v)
    (ht : v.heap[w.heap.size]? = some (.cells #[.slice p0 n0 k0, .slice p1 n1 k1, .slice p2 n2 k2, .slice p3 n3 k3] 39 (0, 0))) : Kr wc v w.heap.size (pick4 p0 p1 p2 p3) (pick4 n0 n1 n2 n3) (pick4 k0 k1 k2 k3) := by
  obtain ⟨h0, h1, h2, h3⟩ := h
  refine ⟨tr hb hb2, hb.size, ht, fun i hi hn => ?_⟩
  have go : ∀ {p : Option Addr} {n : Nat}, Nw wc.heap.size w p n → 0 < n → ∃ (g : Nat) (fz : Nat → Int), p = some ⟨g, 0, none⟩ ∧ wc.heap.size ≤ g ∧ g < w.heap.size ∧ Row v g n 38 fun k => .int .u32 (fz k) := fun h hn => by
    obtain ⟨g, fz, e, hg, hr⟩ := h hn
    exact ⟨g, fz, e, hg, hr.lt, hr.below hb2⟩
  match i, hi with
  | 0, _ => exact go h0 hn
  | 1, _ => exact go h1 hn
  | 2, _ => exact go h2 hn
  | 3, _ => exact go h3 hn
section
variable {w0 v : World} {o K s : Nat} {t : Int} {b : Nat → Nat} {L : Nat → List Nat} {X : Nat → Prop}
set_option maxRecDepth 100000 in
set_option maxHeartbeats 4000000 in
theorem lists_own (h : Ax w0 v o K s t b L X) (hs : 1 ≤ s) (hL : ∀ i, i < 4 → (L i).length ≤ 4096) {n0 n1 n2 n3 : Nat} (h0 : (L 0).length = n0) (h1 : (L 1).length = n1) (h2 : (L 2).length = n2) (h3 : (L 3).length = n3) :
    Calls Try.prog 54 #[ap o] v fun e w' => ∃ p0 p1 p2 p3 k0 k1 k2 k3, e = .returned (.tuple #[.slice p0 n0 k0, .slice p1 n1 k1, .slice p2 n2 k2, .slice p3 n3 k3, .int .i64 t]) ∧ (Nw v.heap.size w' p0 n0 ∧ Nw v.heap.size w' p1 n1 ∧ Nw v.heap.size w' p2 n2 ∧ Nw v.heap.size w' p3 n3) ∧ Below v.heap.size v w' := by
  have HZ := Lib.hid (zero_any h hs)
  have HK := Lib.hid (fun u (hb : Below v.heap.size v u) i hi => (h.below' hb).lkeys i hi (by have := hL i hi; omega))
  have HS := Lib.hid (fun u (hb : Below v.heap.size v u) => (show u.cell? ⟨o, 1, none⟩ = some (.int .i64 t) ∧ u.cell? ⟨o, 2, none⟩ = some (gp (b 0)) ∧ u.cell? ⟨o, 3, none⟩ = some (gp (b 1)) ∧ u.cell? ⟨o, 4, none⟩ = some (gp (b 2)) ∧ u.cell? ⟨o, 5, none⟩ = some (gp (b 3)) ∧ Hid (Below v.heap.size v u) from by
    obtain ⟨-, c1, c2, c3, c4, c5, -⟩ := (h.below' hb).cells
    exact ⟨c1, c2, c3, c4, c5, Lib.hid hb⟩))
  have HN := Lib.hid (show (L 0).length = n0 ∧ (L 1).length = n1 ∧ (L 2).length = n2 ∧ (L 3).length = n3 from ⟨h0, h1, h2, h3⟩)
  clear h hs hL h0 h1 h2 h3
  go_enter Try.func54, Try.ntmps54
  go_wp2_with fail
  refine HZ.out.mono ?_
  rintro e w1 ⟨rfl, rfl⟩
  clear HZ
  go_wp2_with fail
  have T0 := Lib.hid (Below.drew (Below.refl v.heap.size v))
  have S0 := Lib.hid (HS.out _ T0.out)
  go_region_held3 (fun u => u.cell? ⟨o, 1, none⟩ = some (.int .i64 t) ∧ u.cell? ⟨o, 2, none⟩ = some (gp (b 0)) ∧ u.cell? ⟨o, 3, none⟩ = some (gp (b 1)) ∧ u.cell? ⟨o, 4, none⟩ = some (gp (b 2)) ∧ u.cell? ⟨o, 5, none⟩ = some (gp (b 3)) ∧ Hid (Below v.heap.size v u))
    (first
      | with_reducible exact S0.out
      | with_reducible exact S1.out
      | with_reducible exact S2.out
      | with_reducible exact S3.out
      | with_reducible exact S4.out
      | assumption
      | fail)
    (first
      | (go_at_call 43; refine (HK.out _ T3.out 3 (by omega)).mono ?_; rintro e u4 ⟨u, rfl, hrow, b4⟩; rw [HN.out.2.2.2] at hrow; obtain ⟨p3, k3, rfl, r3⟩ := row_nw hrow (by rw [ints_len]; exact HN.out.2.2.2); have T4 := Lib.hid (tr T3.out b4); have RR4 := Lib.hid (And.intro r3 b4); have S4 := Lib.hid (HS.out _ T4.out); clear hrow r3 b4)
      | (go_at_call 43; refine (HK.out _ T2.out 2 (by omega)).mono ?_; rintro e u3 ⟨u, rfl, hrow, b3⟩; rw [HN.out.2.2.1] at hrow; obtain ⟨p2, k2, rfl, r2⟩ := row_nw hrow (by rw [ints_len]; exact HN.out.2.2.1); have T3 := Lib.hid (tr T2.out b3); have RR3 := Lib.hid (And.intro r2 b3); have S3 := Lib.hid (HS.out _ T3.out); clear hrow r2 b3)
      | (go_at_call 43; refine (HK.out _ T1.out 1 (by omega)).mono ?_; rintro e u2 ⟨u, rfl, hrow, b2⟩; rw [HN.out.2.1] at hrow; obtain ⟨p1, k1, rfl, r1⟩ := row_nw hrow (by rw [ints_len]; exact HN.out.2.1); have T2 := Lib.hid (tr T1.out b2); have RR2 := Lib.hid (And.intro r1 b2); have S2 := Lib.hid (HS.out _ T2.out); clear hrow r1 b2)
      | (go_at_call 43; refine (HK.out _ T0.out 0 (by omega)).mono ?_; rintro e u1 ⟨u, rfl, hrow, b1⟩; rw [HN.out.1] at hrow; obtain ⟨p0, k0, rfl, r0⟩ := row_nw hrow (by rw [ints_len]; exact HN.out.1); have T1 := Lib.hid (tr T0.out b1); have RR1 := Lib.hid (And.intro r0 b1); have S1 := Lib.hid (HS.out _ T1.out); clear hrow r0 b1)
      | fail)
  go_wp2_with fail
  have q4 := RR4.out.2
  have q3 := RR3.out.2
  have q2 := RR2.out.2
  exact bodyPost_ret (v := .tuple #[.slice p0 n0 k0, .slice p1 n1 k1, .slice p2 n2 k2, .slice p3 n3 k3, .int .i64 t]) (by simp [results, Try.results54, go_sem]) rfl ⟨p0, p1, p2, p3, k0, k1, k2, k3, rfl, ⟨(((RR1.out.1.below q2).below q3).below q4).mono (Nat.le_trans T0.out.size (Nat.le_refl _)), ((RR2.out.1.below q3).below q4).mono T1.out.size, (RR3.out.1.below q4).mono T2.out.size, RR4.out.1.mono T3.out.size⟩, T4.out⟩
end
set_option maxRecDepth 100000 in
set_option maxHeartbeats 8000000 in
theorem lplays29_in {w : World} {s : Nat} {a : Option Addr} {len cap : Nat} {f0 f1 : Nat → Int} (hacts : Ac2 w.heap.size w a len f0 f1) (s1 : 1 ≤ s) (s40 : s ≤ 40) (hlen : len ≤ 120) (HK : ∀ v, Below w.heap.size w v → Calls Try.prog 50 #[] v fun e w' => e = .returned (.bool true) ∧ Below v.heap.size v w') :
    Calls Try.prog 11 #[.int .i64 (s : Int), .slice a len cap] w fun e w' => e = .returned (.bool true) ∧ Below w.heap.size w w' := by
  have HNW := Lib.hid (new_any w s s1 (by omega))
  have HK0 := Lib.hid HK
  have HA := Lib.hid hacts
  have HI := Lib.hid (show 1 ≤ s ∧ s ≤ 40 ∧ len ≤ 120 from ⟨s1, s40, hlen⟩)
  have HRN := Lib.hid (fun v => rnew29 (w := v) s1 (show s ≤ 1024 by omega))
  have h1 : ¬ (s : Int) < 1 := by omega
  have h2 : ¬ 40 < (s : Int) := by omega
  have h3 : ¬ 120 < (len : Int) := by omega
  unfold rv29 nos at HRN
  clear s1 s40 hlen HK hacts
  go_enter Try.func11, Try.ntmps11
  go_wp2_with fail
  refine HNW.out.mono ?_
  rintro e w1 ⟨o, b, rfl, ax⟩
  have G1 := Lib.hid ax
  clear ax HNW
  go_wp2_with fail
  refine (HRN.out _).mono ?_
  rintro e w2 ⟨rfl, b2⟩
  have G2 := Lib.hid (G1.out.below' b2)
  have hA : Below w2.heap.size w2 (w2.alloc (.cells #[.int .i64 (s : Int), .slice none 0 0, .slice none 0 0, .slice none 0 0, .slice none 0 0, .int .i64 0] 97)) := by go_grown
  have G3 := Lib.hid ((G2.out.below hA).only (X' := fun k => False ∨ (w2.heap.size ≤ k ∧ k < (w2.alloc (.cells #[.int .i64 (s : Int), .slice none 0 0, .slice none 0 0, .slice none 0 0, .slice none 0 0, .int .i64 0] 97)).heap.size)) fun k hk => hk)
  have hx := (MapKept.heap_alloc w2 (.cells #[.int .i64 (s : Int), .slice none 0 0, .slice none 0 0, .slice none 0 0, .slice none 0 0, .int .i64 0] 97)).1
  have hsz : w2.heap.size < (w2.alloc (.cells #[.int .i64 (s : Int), .slice none 0 0, .slice none 0 0, .slice none 0 0, .slice none 0 0, .int .i64 0] 97)).heap.size := by simp [World.size_alloc]
  clear b2 G1 G2 HRN hA
  go_upto_region 7 with fail
  generalize w2.alloc (.cells #[.int .i64 (s : Int), .slice none 0 0, .slice none 0 0, .slice none 0 0, .slice none 0 0, .int .i64 0] 97) = w3 at *
  generalize w2.heap.size = rb at *
  obtain ⟨c0, c1, c2, c3, c4, c5, cf⟩ : w3.cell? ⟨rb, 0, none⟩ = some (.int .i64 (s : Int)) ∧ w3.cell? ⟨rb, 1, none⟩ = some (.slice none 0 0) ∧ w3.cell? ⟨rb, 2, none⟩ = some (.slice none 0 0) ∧ w3.cell? ⟨rb, 3, none⟩ = some (.slice none 0 0) ∧ w3.cell? ⟨rb, 4, none⟩ = some (.slice none 0 0) ∧ w3.cell? ⟨rb, 5, none⟩ = some (.int .i64 0) ∧ ∀ j, w3.frozen? ⟨rb, j, none⟩ = false := by refine ⟨?_, ?_, ?_, ?_, ?_, ?_, fun j => ?_⟩ <;> simp [World.cell?, World.frozen?, hx]
  have HPL := Lib.hid (plays29 (cap := cap) (G3.out.only (X' := fun _ => False) fun _ h => h.elim) HI.out.1 HI.out.2.1 HA.out HI.out.2.2)
  unfold rv29 nos at HPL
  clear hx hsz
  go_wp2_with fail
  refine HPL.out.mono ?_
  rintro e w4 ⟨o', K', b', t', L', f', X', rfl, ax, rs, ai, -⟩
  obtain ⟨p0, n0, e0, g0, -⟩ := rs 0 (by omega)
  obtain ⟨p1, n1, e1, g1, -⟩ := rs 1 (by omega)
  obtain ⟨p2, n2, e2, g2, -⟩ := rs 2 (by omega)
  obtain ⟨p3, n3, e3, g3, -⟩ := rs 3 (by omega)
  rw [g0, g1, g2, g3]
  have B4 := Lib.hid ax.bl
  clear c0 c1 c2 c3 c4 c5 cf G3 HPL g0 g1 g2 g3 ax rs ai
  have hb5 : Below w4.heap.size w4 (w4.alloc (.cells #[.int .i64 (s : Int), .slice p0 n0 e0, .slice p1 n1 e1, .slice p2 n2 e2, .slice p3 n3 e3, .int .i64 t'] 97)) := by go_grown
  have B5 := Lib.hid (tr B4.out hb5)
  clear hb5 B4
  go_upto_region 8 with fail
  generalize w4.alloc (.cells #[.int .i64 (s : Int), .slice p0 n0 e0, .slice p1 n1 e1, .slice p2 n2 e2, .slice p3 n3 e3, .int .i64 t'] 97) = w5 at *
  go_wp2_with fail
  refine (HK0.out _ B5.out).mono ?_
  rintro e w6 ⟨rfl, b6⟩
  have B6 := Lib.hid (tr B5.out b6)
  clear b6
  go_wp2_with fail
  exact bodyPost_ret (v := .bool true) (by simp [results, Try.results11, go_sem]) rfl ⟨rfl, B6.out⟩
set_option maxRecDepth 100000 in
set_option maxHeartbeats 8000000 in
theorem lplays29 {w : World} {n : Int} {a : Option Addr} {len cap : Nat} {f0 f1 : Nat → Int} (hacts : Ac2 w.heap.size w a len f0 f1) (HK : ∀ v, Below w.heap.size w v → Calls Try.prog 50 #[] v fun e w' => e = .returned (.bool true) ∧ Below v.heap.size v w') :
    Calls Try.prog 11 #[.int .i64 n, .slice a len cap] w fun e w' => e = .returned (.bool true) ∧ Below w.heap.size w w' := by
  by_cases hc : 1 ≤ n ∧ n ≤ 40 ∧ len ≤ 120
  · obtain ⟨M, rfl⟩ := Int.eq_ofNat_of_zero_le (show 0 ≤ n by omega)
    exact lplays29_in hacts (by omega) (by omega) (by omega) HK
  · have HKN := Lib.hid (HK w (Below.refl _ _))
    have hd : n < 1 ∨ (¬ n < 1 ∧ 40 < n) ∨ (¬ n < 1 ∧ ¬ 40 < n ∧ 120 < (len : Int)) := by omega
    clear hc HK hacts
    rcases hd with h1 | ⟨h1, h2⟩ | ⟨h1, h2, h3⟩
    all_goals (
      go_enter Try.func11, Try.ntmps11
      go_wp2_with fail
      refine HKN.out.mono ?_
      rintro e u ⟨rfl, bl⟩
      go_wp2_with fail
      exact bodyPost_ret (v := .bool true) (by simp [results, Try.results11, go_sem]) rfl ⟨rfl, bl⟩)
end Go.Proofs.Ytggimkfepcgaoaa.Arc
end
