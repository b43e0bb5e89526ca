/-
  The law of layer 34 on joins.
-/
import Derived.Test.YtohldfhelppehaaBloF
set_option linter.unusedVariables false
set_option linter.unusedSimpArgs false
namespace Go.Proofs.Ytohldfhelppehaa.Blo
open Go.RowKit Kit Hash
theorem set_block {w : World} {b : Nat} {cs : Array Value} {t : TypeId} {fr : Nat × Nat} (h : w.heap[b]? = some (.cells cs t fr)) (i : Nat) (v : Value) : (w.setCell ⟨b, i, none⟩ v).heap[b]? = some (.cells (cs.setIfInBounds i v) t fr) := by
  obtain ⟨hlt, hk⟩ := Array.getElem?_eq_some_iff.1 h
  show (w.heap.modify b _)[b]? = _
  rw [Array.getElem?_eq_getElem (by rw [Array.size_modify]; exact hlt), Array.getElem_modify_self, hk]
  rfl
/-- block b is a variable that holds a reference filter -/
def Bz (w : World) (b : Nat) (hs sd : Int) (r m c : Nat) : Prop := w.heap[b]? = some (rfO hs sd r m c)
theorem Bz.lt {w : World} {b : Nat} {hs sd : Int} {r m c : Nat} (h : Bz w b hs sd r m c) : b < w.heap.size := (Array.getElem?_eq_some_iff.1 h).1
theorem Bz.c0 {w : World} {b : Nat} {hs sd : Int} {r m c : Nat} (h : Bz w b hs sd r m c) : w.cell? ⟨b, 0, none⟩ = some (.int .i64 hs) := by unfold World.cell?; rw [show w.heap[b]? = _ from h]; rfl
theorem Bz.c1 {w : World} {b : Nat} {hs sd : Int} {r m c : Nat} (h : Bz w b hs sd r m c) : w.cell? ⟨b, 1, none⟩ = some (.int .u64 sd) := by unfold World.cell?; rw [show w.heap[b]? = _ from h]; rfl
theorem Bz.c2 {w : World} {b : Nat} {hs sd : Int} {r m c : Nat} (h : Bz w b hs sd r m c) : w.cell? ⟨b, 2, none⟩ = some (.slice (some ⟨r, 0, none⟩) m c) := by unfold World.cell?; rw [show w.heap[b]? = _ from h]; rfl
theorem Bz.fr {w : World} {b : Nat} {hs sd : Int} {r m c : Nat} (h : Bz w b hs sd r m c) (o : Nat) : w.frozen? ⟨b, o, none⟩ = false := by unfold World.frozen?; rw [show w.heap[b]? = _ from h]; rfl
theorem Bz.new (w : World) (hs sd : Int) (r m c : Nat) : Bz (w.alloc (rfO hs sd r m c)) w.heap.size hs sd r m c := (MapKept.heap_alloc w _).1
theorem Bz.of {w w' : World} {b : Nat} {hs sd : Int} {r m c : Nat} (h : Bz w b hs sd r m c) (e : w'.heap[b]? = w.heap[b]?) : Bz w' b hs sd r m c := e.trans h
theorem Bz.below {w w' : World} {b : Nat} {hs sd : Int} {r m c : Nat} (h : Bz w b hs sd r m c) (hb : Below w.heap.size w w') : Bz w' b hs sd r m c := h.of (hb.block b h.lt)
theorem Bz.but {w w' : World} {b x : Nat} {hs sd : Int} {r m c : Nat} (h : Bz w b hs sd r m c) (hb : But x w w') (hne : b ≠ x) : Bz w' b hs sd r m c := h.of (hb.block b h.lt hne)
theorem Bz.set {w : World} {b : Nat} {hs sd hs' sd' : Int} {r m c r' m' c' : Nat} (h : Bz w b hs sd r m c) :
    Bz (((w.setCell ⟨b, 0, none⟩ (.int .i64 hs')).setCell ⟨b, 1, none⟩ (.int .u64 sd')).setCell ⟨b, 2, none⟩ (.slice (some ⟨r', 0, none⟩) m' c')) b hs' sd' r' m' c' := by
  have h1 : (w.setCell ⟨b, 0, none⟩ (.int .i64 hs')).heap[b]? = some (.cells #[.int .i64 hs', .int .u64 sd, .slice (some ⟨r, 0, none⟩) m c] 25 (0, 0)) := set_block h 0 _
  have h2 : ((w.setCell ⟨b, 0, none⟩ (.int .i64 hs')).setCell ⟨b, 1, none⟩ (.int .u64 sd')).heap[b]? = some (.cells #[.int .i64 hs', .int .u64 sd', .slice (some ⟨r, 0, none⟩) m c] 25 (0, 0)) := set_block h1 1 _
  exact set_block h2 2 _
theorem but_set3 {w : World} (b : Nat) (x y z : Value) : But b w (((w.setCell ⟨b, 0, none⟩ x).setCell ⟨b, 1, none⟩ y).setCell ⟨b, 2, none⟩ z) := (((But.refl b w).setCell _).setCell _).setCell _
/-- two filters and two reference filters in variables -/
structure Js (W w : World) (p q n : Nat) (hs sd : Int) (s t : Nat → Bool) (p' q' n' : Nat) (hs' sd' : Int) (s' t' : Nat → Bool) (bx r c bx' r' c' : Nat) : Prop where
  f : Fl w p q n hs sd s
  g : Fl w p' q' n' hs' sd' s'
  z : Bz w bx hs sd r (64 * n) c
  z' : Bz w bx' hs' sd' r' (64 * n') c'
  r : Rr w r (64 * n) t
  r' : Rr w r' (64 * n') t'
  w : Below W.heap.size W w
theorem Js.below {W w v : World} {p q n : Nat} {hs sd : Int} {s t : Nat → Bool} {p' q' n' : Nat} {hs' sd' : Int} {s' t' : Nat → Bool} {bx r c bx' r' c' : Nat}
    (h : Js W w p q n hs sd s t p' q' n' hs' sd' s' t' bx r c bx' r' c') (hb : Below w.heap.size w v) : Js W v p q n hs sd s t p' q' n' hs' sd' s' t' bx r c bx' r' c' :=
  ⟨h.f.below hb, h.g.below hb, h.z.below hb, h.z'.below hb, h.r.below hb, h.r'.below hb, tr h.w hb⟩
/-- the places are apart -/
structure Ap (W : World) (p q p' q' bx bx' r r' : Nat) : Prop where
  a : W.heap.size ≤ r
  b : r < bx
  c : bx < r'
  d : r' < bx'
  e : bx' < p
  f : bx' < q
  g : p < p' ∧ p < q'
  h : q < p' ∧ q < q'
theorem Js.butq {W w v : World} {p q n : Nat} {hs sd : Int} {s t S : Nat → Bool} {p' q' n' : Nat} {hs' sd' : Int} {s' t' : Nat → Bool} {bx r c bx' r' c' : Nat}
    (h : Js W w p q n hs sd s t p' q' n' hs' sd' s' t' bx r c bx' r' c') (hb : But q w v) (hf : Fl v p q n hs sd S) (h1 : W.heap.size ≤ q) (h2 : p' ≠ q) (h3 : q' ≠ q) (h4 : bx ≠ q) (h5 : bx' ≠ q) (h6 : r ≠ q) (h7 : r' ≠ q) : Js W v p q n hs sd S t p' q' n' hs' sd' s' t' bx r c bx' r' c' :=
  ⟨hf, h.g.but hb h2 h3, h.z.but hb h4, h.z'.but hb h5, h.r.but hb h6, h.r'.but hb h7, h.w.trans (hb.below h1 h.w.size)⟩
theorem Js.butq' {W w v : World} {p q n : Nat} {hs sd : Int} {s t S : Nat → Bool} {p' q' n' : Nat} {hs' sd' : Int} {s' t' : Nat → Bool} {bx r c bx' r' c' : Nat}
    (h : Js W w p q n hs sd s t p' q' n' hs' sd' s' t' bx r c bx' r' c') (hb : But q' w v) (hf : Fl v p' q' n' hs' sd' S) (h1 : W.heap.size ≤ q') (h2 : p ≠ q') (h3 : q ≠ q') (h4 : bx ≠ q') (h5 : bx' ≠ q') (h6 : r ≠ q') (h7 : r' ≠ q') : Js W v p q n hs sd s t p' q' n' hs' sd' S t' bx r c bx' r' c' :=
  ⟨h.f.but hb h2 h3, hf, h.z.but hb h4, h.z'.but hb h5, h.r.but hb h6, h.r'.but hb h7, h.w.trans (hb.below h1 h.w.size)⟩
/-- a new reference filter is stored -/
theorem Js.setz {W w : World} {p q n : Nat} {hs sd : Int} {s t T : Nat → Bool} {p' q' n' : Nat} {hs' sd' : Int} {s' t' : Nat → Bool} {bx r c bx' r' c' ρ γ : Nat}
    (h : Js W w p q n hs sd s t p' q' n' hs' sd' s' t' bx r c bx' r' c') (hr : Rr w ρ (64 * n) T) (h1 : W.heap.size ≤ bx) (h2 : p ≠ bx) (h3 : q ≠ bx) (h4 : p' ≠ bx) (h5 : q' ≠ bx) (h6 : bx' ≠ bx) (h7 : r' ≠ bx) (h8 : ρ ≠ bx) :
    Js W (((w.setCell ⟨bx, 0, none⟩ (.int .i64 hs)).setCell ⟨bx, 1, none⟩ (.int .u64 sd)).setCell ⟨bx, 2, none⟩ (.slice (some ⟨ρ, 0, none⟩) (64 * n) γ)) p q n hs sd s T p' q' n' hs' sd' s' t' bx ρ γ bx' r' c' := by
  have hb := but_set3 (w := w) bx (.int .i64 hs) (.int .u64 sd) (.slice (some ⟨ρ, 0, none⟩) (64 * n) γ)
  exact ⟨h.f.but hb h2 h3, h.g.but hb h4 h5, h.z.set, h.z'.but hb h6, hr.but hb h8, h.r'.but hb h7, h.w.trans (hb.below h1 h.w.size)⟩
theorem Js.setz' {W w : World} {p q n : Nat} {hs sd : Int} {s t T : Nat → Bool} {p' q' n' : Nat} {hs' sd' : Int} {s' t' : Nat → Bool} {bx r c bx' r' c' ρ γ : Nat}
    (h : Js W w p q n hs sd s t p' q' n' hs' sd' s' t' bx r c bx' r' c') (hr : Rr w ρ (64 * n') T) (h1 : W.heap.size ≤ bx') (h2 : p ≠ bx') (h3 : q ≠ bx') (h4 : p' ≠ bx') (h5 : q' ≠ bx') (h6 : bx ≠ bx') (h7 : r ≠ bx') (h8 : ρ ≠ bx') :
    Js W (((w.setCell ⟨bx', 0, none⟩ (.int .i64 hs')).setCell ⟨bx', 1, none⟩ (.int .u64 sd')).setCell ⟨bx', 2, none⟩ (.slice (some ⟨ρ, 0, none⟩) (64 * n') γ)) p q n hs sd s t p' q' n' hs' sd' s' T bx r c bx' ρ γ := by
  have hb := but_set3 (w := w) bx' (.int .i64 hs') (.int .u64 sd') (.slice (some ⟨ρ, 0, none⟩) (64 * n') γ)
  exact ⟨h.f.but hb h2 h3, h.g.but hb h4 h5, h.z.but hb h6, h.z'.set, h.r.but hb h7, hr.but hb h8, h.w.trans (hb.below h1 h.w.size)⟩
set_option maxRecDepth 100000 in
set_option maxHeartbeats 4000000 in
theorem ljoins_ok {W : World} {b hs sd b' hs' sd' : Int} {n n' : Nat} (hin : In b hs) (hin' : In b' hs') (ha : alw b hs = true) (ha' : alw b' hs' = true) (hbn : b = 64 * n) (hbn' : b' = 64 * n') (ok : Ok n hs sd) (ok' : Ok n' hs' sd')
    (k1 k2 : ByteArray) (hk1 : k1.size ≤ 300) (hk2 : k2.size ≤ 300) (hb1 : b ≤ 1024) (hb2 : b' ≤ 1024) (hk : Kn W) :
    Calls Try.prog 6 #[.int .i64 b, .int .i64 hs, .int .u64 sd, .int .i64 b', .int .i64 hs', .int .u64 sd', .string k1, .string k2] W fun e w' => e = .returned (.bool true) ∧ Below W.heap.size W w' := by
  have HK := Lib.hid hk
  have HR := Lib.hid (fun w => rnew_ok (W := w) (sd := sd) hin ha hbn)
  have HR' := Lib.hid (fun w => rnew_ok (W := w) (sd := sd') hin' ha' hbn')
  have HOK := Lib.hid ok
  have HOK' := Lib.hid ok'
  have HBN := Lib.hid hbn
  have HBN' := Lib.hid hbn'
  have km1 : k1.size ≤ maxLen := by unfold maxLen; omega
  have km2 : k2.size ≤ maxLen := by unfold maxLen; omega
  clear hk ok ok' hbn hbn' ha ha' hin hin'
  go_enter Try.func6, Try.ntmps6
  go_wp2_with fail
  refine (HR.out _).mono ?_
  rintro e w1 ⟨r1, rfl, hr1, hg1, b1⟩
  have R1 := Lib.hid hr1
  have B1 := Lib.hid b1
  have hl1 := hr1.lt
  clear hr1 b1
  go_wp2_with fail
  refine (HR'.out _).mono ?_
  rintro e w3 ⟨r2, rfl, hr2, hg2, b3⟩
  have hs3 := b3.size
  simp only [World.size_alloc] at hs3 hg2
  have Z1 := Lib.hid ((Bz.new w1 hs sd r1 (64 * n) (64 * n)).below b3)
  have R1' := Lib.hid ((R1.out.alloc (rfO hs sd r1 (64 * n) (64 * n))).below b3)
  have C3 := Lib.hid (tr (tr B1.out (by go_grown)) b3)
  have R2 := Lib.hid hr2
  have hl2 := hr2.lt
  clear hr2 b3 R1
  have d1 := Z1.out.c0
  have d2 := Z1.out.c1
  have d3 := Z1.out.c2
  go_wp2_with fail
  refine (new_ok HOK.out HBN.out _).mono ?_
  rintro e w5 ⟨p, q, rfl, hf, hp, hq, b5⟩
  have hs5 := b5.size
  simp only [World.size_alloc] at hs5 hp hq
  have Z2 := Lib.hid ((Bz.new w3 hs' sd' r2 (64 * n') (64 * n')).below b5)
  have Z1' := Lib.hid ((Z1.out.of (Below.heap_alloc w3 (rfO hs' sd' r2 (64 * n') (64 * n')) w1.heap.size (by omega))).below b5)
  have R1'' := Lib.hid ((R1'.out.alloc (rfO hs' sd' r2 (64 * n') (64 * n'))).below b5)
  have R2' := Lib.hid ((R2.out.alloc (rfO hs' sd' r2 (64 * n') (64 * n'))).below b5)
  have C5 := Lib.hid (tr (tr C3.out (by go_grown)) b5)
  have F5 := Lib.hid hf
  have hlp := hf.b.lt
  have hlq := hf.r.lt
  clear hf b5 Z1 R1' R2 C3 d1 d2 d3
  go_wp2_with fail
  refine (new_ok HOK'.out HBN'.out _).mono ?_
  rintro e w6 ⟨p', q', rfl, hf', hp', hq', b6⟩
  have hs6 := b6.size
  have hlp' := hf'.b.lt
  have hlq' := hf'.r.lt
  have J := Lib.hid (show Js W w6 p q n hs sd (fun _ => false) (fun _ => false) p' q' n' hs' sd' (fun _ => false) (fun _ => false) w1.heap.size r1 (64 * n) w3.heap.size r2 (64 * n') from ⟨F5.out.below b6, hf', Z1'.out.below b6, Z2.out.below b6, R1''.out.below b6, R2'.out.below b6, tr C5.out b6⟩)
  clear hf' b6 F5 Z1' Z2 R1'' R2' C5
  have hW1 := B1.out.size
  generalize w1.heap.size = bx at *
  generalize w3.heap.size = bx' at *
  go_wp2_with fail
  refine (adds_any J.out.f HOK.out k1 km1 true).mono ?_
  rintro e w7 ⟨rfl, f7, b7⟩
  have h1 := HOK.out.h1
  have h1' := HOK'.out.h1
  rw [all_empty (show 1 ≤ hs.toNat by omega)]
  have J7 := Lib.hid (J.out.butq b7 f7 (by omega) (by omega) (by omega) (by omega) (by omega) (by omega) (by omega))
  have hs7 := b7.size
  clear f7 b7 J
  go_wp2_with fail
  refine (adds_any J7.out.g HOK'.out k2 km2 true).mono ?_
  rintro e w8 ⟨rfl, f8, b8⟩
  rw [all_empty (show 1 ≤ hs'.toNat by omega)]
  have J8 := Lib.hid (J7.out.butq' b8 f8 (by omega) (by omega) (by omega) (by omega) (by omega) (by omega) (by omega))
  have hs8 := b8.size
  clear f8 b8 J7
  have d0 := J8.out.z.c0
  have d1 := J8.out.z.c1
  have d2 := J8.out.z.c2
  have e0 := J8.out.z.fr
  go_wp2_with fail
  refine (raddR J8.out.r HOK.out k1 km1).mono ?_
  rintro e w9 ⟨ρ, γ, rfl, hr9, hρ, b9⟩
  have J9 := Lib.hid (J8.out.below b9)
  have R9 := Lib.hid hr9
  have hs9 := b9.size
  have hl9 := hr9.lt
  clear hr9 b9 J8 d0 d1 d2 e0
  have d0 := J9.out.z.c0
  have d1 := J9.out.z.c1
  have d2 := J9.out.z.c2
  have e0 := J9.out.z.fr
  have J10 := Lib.hid (J9.out.setz (γ := γ) R9.out (by omega) (by omega) (by omega) (by omega) (by omega) (by omega) (by omega) (by omega))
  have g0 := J10.out.z'.c0
  have g1 := J10.out.z'.c1
  have g2 := J10.out.z'.c2
  go_wp2_with fail
  refine (raddR J10.out.r' HOK'.out k2 km2).mono ?_
  rintro e w11 ⟨ρ', γ', rfl, hr11, hρ', b11⟩
  have J11 := Lib.hid (J10.out.below b11)
  have R11 := Lib.hid hr11
  have hs11 := b11.size
  have hl11 := hr11.lt
  simp only [World.size_setCell] at hs11 hρ'
  clear hr11 b11 J10 J9 R9 d0 d1 d2 e0 g0 g1 g2
  have d0 := J11.out.z'.c0
  have d1 := J11.out.z'.c1
  have d2 := J11.out.z'.c2
  have e0 := J11.out.z'.fr
  have J12 := Lib.hid (J11.out.setz' (γ := γ') R11.out (by omega) (by omega) (by omega) (by omega) (by omega) (by omega) (by omega) (by omega))
  have g0 := J12.out.z'.c0
  have g1 := J12.out.z'.c1
  have g2 := J12.out.z'.c2
  have h0 := J12.out.z.c0
  have h1 := J12.out.z.c1
  have h2 := J12.out.z.c2
  go_wp2_with fail
  clear d0 d1 d2 e0 g0 g1 g2 h0 h1 h2 J11 R11
  have hsz12 : (((w11.setCell ⟨bx', 0, none⟩ (.int .i64 hs')).setCell ⟨bx', 1, none⟩ (.int .u64 sd')).setCell ⟨bx', 2, none⟩ (.slice (some ⟨ρ', 0, none⟩) (64 * n') γ')).heap.size = w11.heap.size := by simp
  generalize ((w11.setCell ⟨bx', 0, none⟩ (.int .i64 hs')).setCell ⟨bx', 1, none⟩ (.int .u64 sd')).setCell ⟨bx', 2, none⟩ (.slice (some ⟨ρ', 0, none⟩) (64 * n') γ') = w12 at *
  by_cases hj : n = n' ∧ hs = hs' ∧ sd = sd'
  · obtain ⟨rfl, rfl, rfl⟩ := hj
    refine (rjoin_ok J12.out.r J12.out.r' HOK.out.n1 HOK.out.n2).mono ?_
    rintro e w13 ⟨ρ2, γ2, rfl, hr13, hρ2, b13⟩
    have J13 := Lib.hid (J12.out.below b13)
    have R13 := Lib.hid hr13
    have hl13 := hr13.lt
    have hs13 := b13.size
    clear hr13 b13 J12
    go_wp2_with fail
    have hb14 : Below w13.heap.size w13 (w13.alloc (rfO hs sd ρ2 (64 * n) γ2)) := by go_grown
    have J14 := Lib.hid (J13.out.below hb14)
    have N14 := Lib.hid (Bz.new w13 hs sd ρ2 (64 * n) γ2)
    have R14 := Lib.hid (R13.out.below hb14)
    clear J13 R13 hb14
    refine (join_ok J14.out.f HOK.out J14.out.g (by omega) (by omega)).mono ?_
    rintro e w15 ⟨rfl, hf15, b15⟩
    have J15 := Lib.hid (J14.out.butq b15 hf15 (by omega) (by omega) (by omega) (by omega) (by omega) (by omega) (by omega))
    have N15 := Lib.hid (N14.out.but b15 (by omega))
    have R15 := Lib.hid (R14.out.but b15 (by omega))
    have HOKX := HOK
    clear hf15 b15 J14 N14 R14
    have n0 := N15.out.c0
    have n1 := N15.out.c1
    have n2 := N15.out.c2
    go_wp2_with fail
    refine (equal_any J15.out.f R15.out HOK.out k2 km2).mono ?_
    rintro e w16 ⟨rfl, b16⟩
    have J16 := Lib.hid (J15.out.below b16)
    clear b16 J15 R15 N15 n0 n1 n2
    have n0 := J16.out.z'.c0
    have n1 := J16.out.z'.c1
    have n2 := J16.out.z'.c2
    go_wp2_with fail
    refine (equal_any J16.out.g J16.out.r' HOKX.out k1 km1).mono ?_
    rintro e w17 ⟨rfl, b17⟩
    have J17 := Lib.hid (J16.out.below b17)
    clear b17 J16 n0 n1 n2
    go_wp2_with fail
    refine (HK.out _ J17.out.w).mono ?_
    rintro e w18 ⟨rfl, b18⟩
    go_wp2_with fail
    go_ret
    exact ⟨rfl, tr J17.out.w b18⟩
  · refine (rjoin_bad hj).mono ?_
    rintro e w13 ⟨rfl, b13⟩
    have J13 := Lib.hid (J12.out.below b13)
    have hs13 := b13.size
    have HJ := Lib.hid hj
    clear b13 J12 hj
    go_wp2_with fail
    have hb14 : Below w13.heap.size w13 (w13.alloc (rfO hs sd ρ (64 * n) γ)) := by go_grown
    have J14 := Lib.hid (J13.out.below hb14)
    have N14 := Lib.hid (Bz.new w13 hs sd ρ (64 * n) γ)
    clear J13 hb14
    refine (join_bad J14.out.f HOK.out J14.out.g HOK'.out HJ.out).mono ?_
    rintro e w15 ⟨rfl, b15⟩
    have J15 := Lib.hid (J14.out.below b15)
    have N15 := Lib.hid (N14.out.below b15)
    have R15 := Lib.hid J15.out.r
    have HOKX := HOK'
    clear b15 J14 N14
    have n0 := N15.out.c0
    have n1 := N15.out.c1
    have n2 := N15.out.c2
    go_wp2_with fail
    refine (equal_any J15.out.f R15.out HOK.out k2 km2).mono ?_
    rintro e w16 ⟨rfl, b16⟩
    have J16 := Lib.hid (J15.out.below b16)
    clear b16 J15 R15 N15 n0 n1 n2
    have n0 := J16.out.z'.c0
    have n1 := J16.out.z'.c1
    have n2 := J16.out.z'.c2
    go_wp2_with fail
    refine (equal_any J16.out.g J16.out.r' HOKX.out k1 km1).mono ?_
    rintro e w17 ⟨rfl, b17⟩
    have J17 := Lib.hid (J16.out.below b17)
    clear b17 J16 n0 n1 n2
    go_wp2_with fail
    refine (HK.out _ J17.out.w).mono ?_
    rintro e w18 ⟨rfl, b18⟩
    go_wp2_with fail
    go_ret
    exact ⟨rfl, tr J17.out.w b18⟩
set_option maxRecDepth 100000 in
set_option maxHeartbeats 2000000 in
theorem ljoins_a {W : World} {b hs sd b' hs' sd' : Int} (hin : In b hs) (hin' : In b' hs') (k1 k2 : ByteArray) (ha : alw b hs = false) (ha' : alw b' hs' = false) (hk : Kn W) :
    Calls Try.prog 6 #[.int .i64 b, .int .i64 hs, .int .u64 sd, .int .i64 b', .int .i64 hs', .int .u64 sd', .string k1, .string k2] W fun e w' => e = .returned (.bool true) ∧ Below W.heap.size W w' := by
  have HK := Lib.hid hk
  have HR := Lib.hid (fun w => rnew_bad (W := w) (sd := sd) hin ha)
  have HR' := Lib.hid (fun w => rnew_bad (W := w) (sd := sd') hin' ha')
  clear hk ha ha' hin hin'
  go_enter Try.func6, Try.ntmps6
  go_wp2_with fail
  refine (HR.out _).mono ?_
  rintro e w1 ⟨rfl, b1⟩
  have B1 := Lib.hid (tr b1 (by go_grown : Below w1.heap.size w1 (w1.alloc (.cells #[.int .i64 0, .int .u64 0, .slice none 0 0] 25))))
  have s1 := b1
  clear b1
  go_wp2_with fail
  refine (HR'.out _).mono ?_
  rintro e w2 ⟨rfl, b1⟩
  have B2 := Lib.hid (tr (tr s1 (by go_grown)) b1)
  clear b1 s1
  go_wp2_with fail
  refine (HK.out _ (tr B2.out (by go_grown))).mono ?_
  rintro e w3 ⟨rfl, b3⟩
  go_wp2_with fail
  go_ret
  exact ⟨rfl, tr (tr B2.out (by go_grown)) b3⟩
set_option maxRecDepth 100000 in
set_option maxHeartbeats 2000000 in
theorem ljoins_b {W : World} {b hs sd b' hs' sd' : Int} (hin : In b hs) (hin' : In b' hs') (k1 k2 : ByteArray) {n' : Nat} (ha : alw b hs = false) (ha' : alw b' hs' = true) (hbn' : b' = 64 * n') (hk : Kn W) :
    Calls Try.prog 6 #[.int .i64 b, .int .i64 hs, .int .u64 sd, .int .i64 b', .int .i64 hs', .int .u64 sd', .string k1, .string k2] W fun e w' => e = .returned (.bool true) ∧ Below W.heap.size W w' := by
  have HK := Lib.hid hk
  have HR := Lib.hid (fun w => rnew_bad (W := w) (sd := sd) hin ha)
  have HR' := Lib.hid (fun w => rnew_ok (W := w) (sd := sd') hin' ha' hbn')
  clear hk ha ha' hbn' hin hin'
  go_enter Try.func6, Try.ntmps6
  go_wp2_with fail
  refine (HR.out _).mono ?_
  rintro e w1 ⟨rfl, b1⟩
  have B1 := Lib.hid (tr b1 (by go_grown : Below w1.heap.size w1 (w1.alloc (.cells #[.int .i64 0, .int .u64 0, .slice none 0 0] 25))))
  have s1 := b1
  clear b1
  go_wp2_with fail
  refine (HR'.out _).mono ?_
  rintro e w2 ⟨r2, rfl, hr2, hg2, b1⟩
  have B2 := Lib.hid (tr (tr s1 (by go_grown)) b1)
  clear b1 s1
  go_wp2_with fail
  refine (HK.out _ (tr B2.out (by go_grown))).mono ?_
  rintro e w3 ⟨rfl, b3⟩
  go_wp2_with fail
  go_ret
  exact ⟨rfl, tr (tr B2.out (by go_grown)) b3⟩
set_option maxRecDepth 100000 in
set_option maxHeartbeats 2000000 in
theorem ljoins_c {W : World} {b hs sd b' hs' sd' : Int} (hin : In b hs) (hin' : In b' hs') (k1 k2 : ByteArray) {n : Nat} (ha : alw b hs = true) (hbn : b = 64 * n) (ha' : alw b' hs' = false) (hk : Kn W) :
    Calls Try.prog 6 #[.int .i64 b, .int .i64 hs, .int .u64 sd, .int .i64 b', .int .i64 hs', .int .u64 sd', .string k1, .string k2] W fun e w' => e = .returned (.bool true) ∧ Below W.heap.size W w' := by
  have HK := Lib.hid hk
  have HR := Lib.hid (fun w => rnew_ok (W := w) (sd := sd) hin ha hbn)
  have HR' := Lib.hid (fun w => rnew_bad (W := w) (sd := sd') hin' ha')
  clear hk ha ha' hbn hin hin'
  go_enter Try.func6, Try.ntmps6
  go_wp2_with fail
  refine (HR.out _).mono ?_
  rintro e w1 ⟨r1, rfl, hr1, hg1, b1⟩
  have B1 := Lib.hid (tr b1 (by go_grown : Below w1.heap.size w1 (w1.alloc (.cells #[.int .i64 0, .int .u64 0, .slice none 0 0] 25))))
  have s1 := b1
  clear b1
  go_wp2_with fail
  refine (HR'.out _).mono ?_
  rintro e w2 ⟨rfl, b1⟩
  have B2 := Lib.hid (tr (tr s1 (by go_grown)) b1)
  clear b1 s1
  go_wp2_with fail
  refine (HK.out _ (tr B2.out (by go_grown))).mono ?_
  rintro e w3 ⟨rfl, b3⟩
  go_wp2_with fail
  go_ret
  exact ⟨rfl, tr (tr B2.out (by go_grown)) b3⟩
set_option maxRecDepth 100000 in
set_option maxHeartbeats 2000000 in
theorem ljoins_d {W : World} {b hs sd b' hs' sd' : Int} (hin : In b hs) (hin' : In b' hs') (k1 k2 : ByteArray) {n n' : Nat} (ha : alw b hs = true) (hbn : b = 64 * n) (ha' : alw b' hs' = true) (hbn' : b' = 64 * n') (hbig : ¬ (b ≤ 1024 ∧ b' ≤ 1024 ∧ k1.size ≤ 300 ∧ k2.size ≤ 300)) (hk : Kn W) :
    Calls Try.prog 6 #[.int .i64 b, .int .i64 hs, .int .u64 sd, .int .i64 b', .int .i64 hs', .int .u64 sd', .string k1, .string k2] W fun e w' => e = .returned (.bool true) ∧ Below W.heap.size W w' := by
  have HK := Lib.hid hk
  have HR := Lib.hid (fun w => rnew_ok (W := w) (sd := sd) hin ha hbn)
  have HR' := Lib.hid (fun w => rnew_ok (W := w) (sd := sd') hin' ha' hbn')
  clear hk ha ha' hbn hbn' hin hin'
  go_enter Try.func6, Try.ntmps6
  go_wp2_with fail
  refine (HR.out _).mono ?_
  rintro e w1 ⟨r1, rfl, hr1, hg1, b1⟩
  have B1 := Lib.hid (tr b1 (by go_grown : Below w1.heap.size w1 (w1.alloc (.cells #[.int .i64 0, .int .u64 0, .slice none 0 0] 25))))
  have s1 := b1
  clear b1
  go_wp2_with fail
  refine (HR'.out _).mono ?_
  rintro e w2 ⟨r2, rfl, hr2, hg2, b1⟩
  have B2 := Lib.hid (tr (tr s1 (by go_grown)) b1)
  clear b1 s1
  by_cases x1 : 1024 < b
  · clear hbig
    go_wp2_with fail
    refine (HK.out _ (tr B2.out (by go_grown))).mono ?_
    rintro e w3 ⟨rfl, b3⟩
    go_wp2_with fail
    go_ret
    exact ⟨rfl, tr (tr B2.out (by go_grown)) b3⟩
  by_cases x2 : 1024 < b'
  · clear hbig
    go_wp2_with fail
    refine (HK.out _ (tr B2.out (by go_grown))).mono ?_
    rintro e w3 ⟨rfl, b3⟩
    go_wp2_with fail
    go_ret
    exact ⟨rfl, tr (tr B2.out (by go_grown)) b3⟩
  by_cases x3 : 300 < k1.size
  · clear hbig
    go_wp2_with fail
    refine (HK.out _ (tr B2.out (by go_grown))).mono ?_
    rintro e w3 ⟨rfl, b3⟩
    go_wp2_with fail
    go_ret
    exact ⟨rfl, tr (tr B2.out (by go_grown)) b3⟩
  · have x4 : 300 < k2.size := by omega
    clear hbig
    go_wp2_with fail
    refine (HK.out _ (tr B2.out (by go_grown))).mono ?_
    rintro e w3 ⟨rfl, b3⟩
    go_wp2_with fail
    go_ret
    exact ⟨rfl, tr (tr B2.out (by go_grown)) b3⟩
theorem ljoins_any {W : World} {b hs sd b' hs' sd' : Int} (hin : In b hs) (hin' : In b' hs') (hsd : Word sd) (hsd' : Word sd') (k1 k2 : ByteArray) (hk : Kn W) :
    Calls Try.prog 6 #[.int .i64 b, .int .i64 hs, .int .u64 sd, .int .i64 b', .int .i64 hs', .int .u64 sd', .string k1, .string k2] W fun e w' => e = .returned (.bool true) ∧ Below W.heap.size W w' := by
  cases ha : alw b hs
  · cases ha' : alw b' hs'
    · exact ljoins_a hin hin' k1 k2 ha ha' hk
    · obtain ⟨n', hbn', ok'⟩ := Ok.of ha' hsd'
      exact ljoins_b hin hin' k1 k2 ha ha' hbn' hk
  · obtain ⟨n, hbn, ok⟩ := Ok.of ha hsd
    cases ha' : alw b' hs'
    · exact ljoins_c hin hin' k1 k2 ha hbn ha' hk
    · obtain ⟨n', hbn', ok'⟩ := Ok.of ha' hsd'
      by_cases hbig : b ≤ 1024 ∧ b' ≤ 1024 ∧ k1.size ≤ 300 ∧ k2.size ≤ 300
      · exact ljoins_ok hin hin' ha ha' hbn hbn' ok ok' k1 k2 hbig.2.2.1 hbig.2.2.2 hbig.1 hbig.2.1 hk
      · exact ljoins_d hin hin' k1 k2 ha hbn ha' hbn' hbig hk
end Go.Proofs.Ytohldfhelppehaa.Blo
