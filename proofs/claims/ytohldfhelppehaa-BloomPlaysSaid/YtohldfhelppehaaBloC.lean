/-
  The law of layer 34 on any calls: what holds from call to call.
-/
import Derived.Test.YtohldfhelppehaaBloE
import Derived.Test.YtohldfhelppehaaBloD
set_option linter.unusedVariables false
set_option linter.unusedSimpArgs false
namespace Go.Proofs.Ytohldfhelppehaa.Blo
open Go.RowKit Kit Hash
structure Ps (W w : World) (p q n : Nat) (hs sd : Int) (s t : Nat → Bool) (bx r c be re ce : Nat) : Prop where
  f : Fl w p q n hs sd s
  z : Bz w bx hs sd r (64 * n) c
  e : Bz w be hs sd re (64 * n) ce
  r1 : Rr w r (64 * n) t
  r2 : Rr w re (64 * n) (fun _ => false)
  w : Below W.heap.size W w
  g : W.heap.size ≤ bx ∧ W.heap.size ≤ q
  d : p ≠ bx ∧ q ≠ bx ∧ be ≠ bx ∧ r ≠ bx ∧ re ≠ bx ∧ be ≠ q ∧ r ≠ q ∧ re ≠ q
theorem Ps.below {W w v : World} {p q n : Nat} {hs sd : Int} {s t : Nat → Bool} {bx r c be re ce : Nat} (h : Ps W w p q n hs sd s t bx r c be re ce) (hb : Below w.heap.size w v) : Ps W v p q n hs sd s t bx r c be re ce :=
  ⟨h.f.below hb, h.z.below hb, h.e.below hb, h.r1.below hb, h.r2.below hb, tr h.w hb, h.g, h.d⟩
theorem Ps.butq {W w v : World} {p q n : Nat} {hs sd : Int} {s t S : Nat → Bool} {bx r c be re ce : Nat} (h : Ps W w p q n hs sd s t bx r c be re ce) (hb : But q w v) (hf : Fl v p q n hs sd S) : Ps W v p q n hs sd S t bx r c be re ce := by
  obtain ⟨d1, d2, d3, d4, d5, d6, d7, d8⟩ := h.d
  exact ⟨hf, h.z.but hb (Ne.symm d2), h.e.but hb d6, h.r1.but hb d7, h.r2.but hb d8, h.w.trans (hb.below h.g.2 h.w.size), h.g, h.d⟩
theorem Ps.setz {W w : World} {p q n : Nat} {hs sd : Int} {s t T : Nat → Bool} {bx r c be re ce ρ γ : Nat} (h : Ps W w p q n hs sd s t bx r c be re ce) (hr : Rr w ρ (64 * n) T) (h1 : ρ ≠ bx) (h2 : ρ ≠ q) :
    Ps W (((w.setCell ⟨bx, 0, none⟩ (.int .i64 hs)).setCell ⟨bx, 1, none⟩ (.int .u64 sd)).setCell ⟨bx, 2, none⟩ (.slice (some ⟨ρ, 0, none⟩) (64 * n) γ)) p q n hs sd s T bx ρ γ be re ce := by
  have hb := but_set3 (w := w) bx (.int .i64 hs) (.int .u64 sd) (.slice (some ⟨ρ, 0, none⟩) (64 * n) γ)
  obtain ⟨d1, d2, d3, d4, d5, d6, d7, d8⟩ := h.d
  exact ⟨h.f.but hb d1 d2, h.z.set, h.e.but hb d3, hr.but hb h1, h.r2.but hb d5, h.w.trans (hb.below h.g.1 h.w.size), h.g, ⟨d1, d2, d3, h1, d5, d6, h2, d8⟩⟩
/-- some block above is written -/
theorem Ps.far {W w v : World} {p q n x : Nat} {hs sd : Int} {s t : Nat → Bool} {bx r c be re ce : Nat} (h : Ps W w p q n hs sd s t bx r c be re ce) (hb : But x w v) (h0 : W.heap.size ≤ x) (h1 : p ≠ x) (h2 : q ≠ x) (h3 : bx ≠ x) (h4 : be ≠ x) (h5 : r ≠ x) (h6 : re ≠ x) : Ps W v p q n hs sd s t bx r c be re ce :=
  ⟨h.f.but hb h1 h2, h.z.but hb h3, h.e.but hb h4, h.r1.but hb h5, h.r2.but hb h6, h.w.trans (hb.below h0 h.w.size), h.g, h.d⟩
/-- another filter -/
theorem Ps.newf {W w : World} {p q n : Nat} {hs sd : Int} {s t : Nat → Bool} {bx r c be re ce p' q' : Nat} (h : Ps W w p q n hs sd s t bx r c be re ce) {S : Nat → Bool} (hf : Fl w p' q' n hs sd S) (h1 : bx < p') (h2 : bx < q') (h3 : be < q') (h4 : r < q') (h5 : re < q') (hW : W.heap.size ≤ q') : Ps W w p' q' n hs sd S t bx r c be re ce := by
  obtain ⟨d1, d2, d3, d4, d5, d6, d7, d8⟩ := h.d
  exact ⟨hf, h.z, h.e, h.r1, h.r2, h.w, ⟨h.g.1, hW⟩, ⟨by omega, by omega, d3, d4, d5, by omega, by omega, by omega⟩⟩
theorem setI {w : World} {g n : Nat} {F : Nat → Int} (h : Row w g n 22 (fun i => .int .u64 (F i))) (m : Nat) (z : Int) : ∃ F : Nat → Int, Row (w.setCell ⟨g, m, none⟩ (.int .u64 z)) g n 22 (fun i => .int .u64 (F i)) :=
  ⟨fun i => if i = m then z else F i, (h.set m _).congr fun i _ => by by_cases hh : i = m <;> simp [hh]⟩
theorem size_x {k : ByteArray} (h : k.size ≤ 300) : (k ++ (⟨#[120]⟩ : ByteArray)).size ≤ maxLen := by
  rw [ByteArray.size_append, show (⟨#[120]⟩ : ByteArray).size = 1 from rfl]; unfold maxLen; omega
/-- block b is a variable that holds a call -/
def Bk (w : World) (b : Nat) (what : Int) (k : ByteArray) : Prop := w.heap[b]? = some (.cells #[.int .i64 what, .string k] 45)
theorem Bk.c0 {w : World} {b : Nat} {what : Int} {k : ByteArray} (h : Bk w b what k) : w.cell? ⟨b, 0, none⟩ = some (.int .i64 what) := by unfold World.cell?; rw [show w.heap[b]? = _ from h]; rfl
theorem Bk.c1 {w : World} {b : Nat} {what : Int} {k : ByteArray} (h : Bk w b what k) : w.cell? ⟨b, 1, none⟩ = some (.string k) := by unfold World.cell?; rw [show w.heap[b]? = _ from h]; rfl
theorem Bk.lt {w : World} {b : Nat} {what : Int} {k : ByteArray} (h : Bk w b what k) : b < w.heap.size := (Array.getElem?_eq_some_iff.1 h).1
theorem Bk.below {w w' : World} {b : Nat} {what : Int} {k : ByteArray} (h : Bk w b what k) (hb : Below w.heap.size w w') : Bk w' b what k := (hb.block b h.lt).trans h
theorem Bk.but {w w' : World} {b x : Nat} {what : Int} {k : ByteArray} (h : Bk w b what k) (hb : But x w w') (hne : b ≠ x) : Bk w' b what k := (hb.block b h.lt hne).trans h
set_option maxRecDepth 100000 in
set_option maxHeartbeats 8000000 in
theorem lplays_ok {W : World} {b hs sd : Int} {n : Nat} (hin : In b hs) (ha : alw b hs = true) (hbn : b = 64 * n) (ok : Ok n hs sd) {a : Option Addr} {len cap : Nat} {f0 : Nat → Int} {f1 : Nat → ByteArray} (hacts : Acts W a len f0 f1)
    (hb1 : b ≤ 1024) (hfew : fewB len 60 f1 = true) (hk : Kn W) :
    Calls Try.prog 5 #[.int .i64 b, .int .i64 hs, .int .u64 sd, .slice a len cap] W fun e w' => e = .returned (.bool true) ∧ Below W.heap.size W w' := by
  have HK := Lib.hid hk
  have HR := Lib.hid (fun w => rnew_ok (W := w) (sd := sd) hin ha hbn)
  have HFEW := Lib.hid (fun (w : World) (hb : Below W.heap.size W w) => few_any (cap := cap) (hacts.below hb) 60 (by omega))
  rw [hfew] at HFEW
  obtain ⟨hlen, hkeys⟩ := fewB_spec hfew
  have HA := Lib.hid hacts
  have HKEYS := Lib.hid hkeys
  have HOK := Lib.hid ok
  have HBN := Lib.hid hbn
  have hn16 : n ≤ 16 := by omega
  clear hk ok hbn ha hin hacts hfew hkeys
  go_enter Try.func5, Try.ntmps5
  go_wp2_with fail
  refine (HR.out _).mono ?_
  rintro e w1 ⟨r1, rfl, hr1, hg1, b1⟩
  have R1 := Lib.hid hr1
  have B1 := Lib.hid b1
  have hl1 := hr1.lt
  clear hr1 b1
  go_wp2_with fail
  have C2 := Lib.hid (tr B1.out (by go_grown : Below w1.heap.size w1 (w1.alloc (rfO hs sd r1 (64 * n) (64 * n)))))
  refine (HFEW.out _ C2.out).mono ?_
  rintro e w3 ⟨rfl, b3⟩
  have hs3 := b3.size
  simp only [World.size_alloc] at hs3
  have Z1 := Lib.hid ((Bz.new w1 hs sd r1 (64 * n) (64 * n)).below b3)
  have R3 := Lib.hid ((R1.out.alloc (rfO hs sd r1 (64 * n) (64 * n))).below b3)
  have C3 := Lib.hid (tr C2.out b3)
  clear b3 R1 C2
  have d0 := Z1.out.c0
  have d1 := Z1.out.c1
  have d2 := Z1.out.c2
  go_wp2_with fail
  refine (new_ok HOK.out HBN.out _).mono ?_
  rintro e w5 ⟨p, q, rfl, hf, hp, hq, b5⟩
  have hs5 := b5.size
  simp only [World.size_alloc] at hs5 hp hq
  have hW1 := B1.out.size
  have hW3 := C3.out.size
  have P5 := Lib.hid (show Ps W w5 p q n hs sd (fun _ => false) (fun _ => false) w1.heap.size r1 (64 * n) w3.heap.size r1 (64 * n) from
    ⟨hf, (Z1.out.of (Below.heap_alloc w3 (rfO hs sd r1 (64 * n) (64 * n)) w1.heap.size (by omega))).below b5, (Bz.new w3 hs sd r1 (64 * n) (64 * n)).below b5, (R3.out.alloc (rfO hs sd r1 (64 * n) (64 * n))).below b5, (R3.out.alloc (rfO hs sd r1 (64 * n) (64 * n))).below b5, tr (tr C3.out (by go_grown)) b5, ⟨by omega, by omega⟩, ⟨by omega, by omega, by omega, by omega, by omega, by omega, by omega, by omega⟩⟩)
  clear hf b5 Z1 R3 C3 d0 d1 d2 B1
  generalize w1.heap.size = bx at *
  generalize w3.heap.size = be at *
  go_wp2_with fail
  go_loopw [12, 14] (fun f i wr => ∃ (j p q : Nat) (s : Nat → Bool) (r c : Nat), j ≤ len ∧ f = .pointer (some ⟨p, 0, none⟩) ∧ i = .int .i64 j ∧ Ps W wr p q n hs sd s s bx r c be r1 (64 * n)) (fun _ i _ => len - (intOf i).toNat)
  case atStart => exact ⟨0, p, q, _, r1, 64 * n, by omega, rfl, rfl, P5.out⟩
  case round =>
    clear P5 hs5 hp hq
    obtain ⟨j, p, q, s, r, c, hj, rfl, rfl, hP⟩ := hrel
    have P := Lib.hid hP
    clear hP
    by_cases hlt : j < len
    · obtain ⟨x, rfl, hxb, y0, y1, y2⟩ := HA.out.below P.out.w j hlt
      have hk3 := HKEYS.out j hlt
      generalize f1 j = k at *
      generalize f0 j = what at *
      have A := Lib.hid (show Bk (wr.alloc (.cells #[.int .i64 what, .string k] 45)) wr.heap.size what k from (MapKept.heap_alloc wr _).1)
      have hb6 : Below wr.heap.size wr (wr.alloc (.cells #[.int .i64 what, .string k] 45)) := by go_grown
      have P6 := Lib.hid (P.out.below hb6)
      have hqw := P.out.f.r.lt
      have hpw := P.out.f.b.lt
      have hbw := P.out.z.lt
      have hew := P.out.e.lt
      have hkm : k.size ≤ maxLen := by unfold maxLen; omega
      clear hb6
      have hrw := P.out.r1.lt
      have hr2w := P.out.r2.lt
      have hdd := P.out.d
      have hgg := P.out.g
      by_cases c0 : what = 0
      · subst c0
        go_wp2_with fail
        refine (addR P6.out.f HOK.out k hkm).mono ?_
        rintro e w7 ⟨rfl, f7, b7⟩
        have P7 := Lib.hid (P6.out.butq b7 f7)
        have A7 := Lib.hid (A.out.but b7 (by omega))
        have hs7 := b7.size
        simp only [World.size_alloc] at hs7
        clear f7 b7 P6 A P
        have d0 := P7.out.z.c0
        have d1 := P7.out.z.c1
        have d2 := P7.out.z.c2
        have a1 := A7.out.c1
        go_wp2_with fail
        refine (raddR P7.out.r1 HOK.out k hkm).mono ?_
        rintro e w9 ⟨ρ, γ, rfl, hr9, hρ, b9⟩
        have h10 : Below w9.heap.size w9 (w9.alloc (rfO hs sd ρ (64 * n) γ)) := by go_grown
        have P9 := Lib.hid ((P7.out.below b9).below h10)
        have A9 := Lib.hid ((A7.out.below b9).below h10)
        have R9 := Lib.hid (hr9.below h10)
        have hs9 := b9.size
        have hl9 := hr9.lt
        clear hr9 b9 h10 d0 d1 d2 a1 P7 A7
        have d0 := P9.out.z.c0
        have d1 := P9.out.z.c1
        have d2 := P9.out.z.c2
        have e0 := P9.out.z.fr
        have PX := Lib.hid (P9.out.setz (γ := γ) R9.out (by omega) (by omega))
        have AX := Lib.hid (A9.out.but (but_set3 bx (.int .i64 hs) (.int .u64 sd) (.slice (some ⟨ρ, 0, none⟩) (64 * n) γ)) (by omega))
        go_wp2_with fail
        clear d0 d1 d2 e0 P9 A9 R9
        refine (wordsR PX.out.f HOK.out).mono ?_
        rintro e w12 ⟨g, rfl, hg12, hrow, b12⟩
        have P12 := Lib.hid (PX.out.below b12)
        have A12 := Lib.hid (AX.out.below b12)
        have hpx := PX.out.f.b.lt
        have hqx := PX.out.f.r.lt
        have hbx := PX.out.z.lt
        have hex := PX.out.e.lt
        have hrx := PX.out.r1.lt
        have hr2x := PX.out.r2.lt
        have hax := AX.out.lt
        have hWx := PX.out.w.size
        have RW := Lib.hid (show ∃ F : Nat → Int, Row w12 g n 22 (fun i => .int .u64 (F i)) from ⟨_, hrow⟩)
        clear b12 hrow
        go_wp2_with fail
        go_loopw [28] (fun k wt => ∃ m : Nat, m ≤ n ∧ k = .int .i64 m ∧ (∃ F : Nat → Int, Row wt g n 22 (fun i => .int .u64 (F i))) ∧ But g w12 wt) (fun k _ => n - (intOf k).toNat)
        case atStart => exact ⟨0, by omega, rfl, RW.out, But.refl _ _⟩
        case round =>
          clear RW
          obtain ⟨m, hm, rfl, ⟨F, hF⟩, hbt⟩ := hrel
          have RT := Lib.hid hF
          have BT := Lib.hid hbt
          clear hF hbt
          by_cases hmn : m < n
          · have hc := RT.out.cell m hmn
            have hfr := RT.out.fr m
            have hgl := RT.out.lt
            go_wp2_with fail
            go_roundw
            case rel => exact ⟨m + 1, by omega, by go_num, setI RT.out m _, BT.out.setCell _⟩
            case measure => simp [intOf] <;> omega
          · obtain rfl : m = n := by omega
            have PT := Lib.hid (P12.out.far BT.out (by omega) (by omega) (by omega) (by omega) (by omega) (by omega) (by omega))
            have AT := Lib.hid (A12.out.but BT.out (by omega))
            have t0 := PT.out.z.c0
            have t1 := PT.out.z.c1
            have t2 := PT.out.z.c2
            have t3 := AT.out.c1
            go_wp2_with fail
            refine (equal_any PT.out.f PT.out.r1 HOK.out k hkm).mono ?_
            rintro e w13 ⟨rfl, b13⟩
            have P13 := Lib.hid (PT.out.below b13)
            clear b13 PT t0 t1 t2
            go_wp2_with fail
            go_roundw
            case rel => exact ⟨j + 1, _, _, _, _, _, by omega, rfl, by go_num, P13.out⟩
            case measure => simp [intOf] <;> omega
      by_cases c1 : what = 1
      · subst c1
        go_wp2_with fail
        refine (clearR P6.out.f HOK.out).mono ?_
        rintro e w7 ⟨rfl, f7, b7⟩
        have P7 := Lib.hid (P6.out.butq b7 f7)
        have A7 := Lib.hid (A.out.but b7 (by omega))
        have hs7 := b7.size
        simp only [World.size_alloc] at hs7
        clear f7 b7 P6 A P
        have d0 := P7.out.z.c0
        have d1 := P7.out.z.c1
        have d2 := P7.out.z.c2
        have e0 := P7.out.z.fr
        have g0 := P7.out.e.c0
        have g1 := P7.out.e.c1
        have g2 := P7.out.e.c2
        have PX := Lib.hid (P7.out.setz (γ := 64 * n) P7.out.r2 (by omega) (by omega))
        have AX := Lib.hid (A7.out.but (but_set3 bx (.int .i64 hs) (.int .u64 sd) (.slice (some ⟨r1, 0, none⟩) (64 * n) (64 * n))) (by omega))
        go_wp2_with fail
        clear d0 d1 d2 e0 g0 g1 g2 P7 A7
        refine (wordsR PX.out.f HOK.out).mono ?_
        rintro e w12 ⟨g, rfl, hg12, hrow, b12⟩
        have P12 := Lib.hid (PX.out.below b12)
        have A12 := Lib.hid (AX.out.below b12)
        have hpx := PX.out.f.b.lt
        have hqx := PX.out.f.r.lt
        have hbx := PX.out.z.lt
        have hex := PX.out.e.lt
        have hrx := PX.out.r1.lt
        have hr2x := PX.out.r2.lt
        have hax := AX.out.lt
        have hWx := PX.out.w.size
        have RW := Lib.hid (show ∃ F : Nat → Int, Row w12 g n 22 (fun i => .int .u64 (F i)) from ⟨_, hrow⟩)
        clear b12 hrow
        go_wp2_with fail
        go_loopw [28] (fun k wt => ∃ m : Nat, m ≤ n ∧ k = .int .i64 m ∧ (∃ F : Nat → Int, Row wt g n 22 (fun i => .int .u64 (F i))) ∧ But g w12 wt) (fun k _ => n - (intOf k).toNat)
        case atStart => exact ⟨0, by omega, rfl, RW.out, But.refl _ _⟩
        case round =>
          clear RW
          obtain ⟨m, hm, rfl, ⟨F, hF⟩, hbt⟩ := hrel
          have RT := Lib.hid hF
          have BT := Lib.hid hbt
          clear hF hbt
          by_cases hmn : m < n
          · have hc := RT.out.cell m hmn
            have hfr := RT.out.fr m
            have hgl := RT.out.lt
            go_wp2_with fail
            go_roundw
            case rel => exact ⟨m + 1, by omega, by go_num, setI RT.out m _, BT.out.setCell _⟩
            case measure => simp [intOf] <;> omega
          · obtain rfl : m = n := by omega
            have PT := Lib.hid (P12.out.far BT.out (by omega) (by omega) (by omega) (by omega) (by omega) (by omega) (by omega))
            have AT := Lib.hid (A12.out.but BT.out (by omega))
            have t0 := PT.out.z.c0
            have t1 := PT.out.z.c1
            have t2 := PT.out.z.c2
            have t3 := AT.out.c1
            go_wp2_with fail
            refine (equal_any PT.out.f PT.out.r1 HOK.out k hkm).mono ?_
            rintro e w13 ⟨rfl, b13⟩
            have P13 := Lib.hid (PT.out.below b13)
            clear b13 PT t0 t1 t2
            go_wp2_with fail
            go_roundw
            case rel => exact ⟨j + 1, _, _, _, _, _, by omega, rfl, by go_num, P13.out⟩
            case measure => simp [intOf] <;> omega
      by_cases c2 : what = 2
      · subst c2
        go_wp2_with fail
        refine (new_ok HOK.out HBN.out _).mono ?_
        rintro e w7 ⟨p', q', rfl, f7, hp7, hq7, b7⟩
        have P7 := Lib.hid (P6.out.below b7)
        have A7 := Lib.hid (A.out.below b7)
        have F7 := Lib.hid f7
        have hs7 := b7.size
        have hpl := f7.b.lt
        have hql := f7.r.lt
        simp only [World.size_alloc] at hs7 hp7 hq7
        clear f7 b7 P6 A P
        have a1 := A7.out.c1
        go_wp2_with fail
        refine (adds_any F7.out HOK.out k hkm true).mono ?_
        rintro e w8 ⟨rfl, f8, b8⟩
        have hh1 := HOK.out.h1
        rw [all_empty (show 1 ≤ hs.toNat by omega)]
        clear hh1
        have P8 := Lib.hid (P7.out.far b8 (by omega) (by omega) (by omega) (by omega) (by omega) (by omega) (by omega))
        have A8 := Lib.hid (A7.out.but b8 (by omega))
        have F8 := Lib.hid f8
        have hs8 := b8.size
        clear f8 b8 P7 A7 F7 a1
        have d0 := P8.out.e.c0
        have d1 := P8.out.e.c1
        have d2 := P8.out.e.c2
        have a1 := A8.out.c1
        go_wp2_with fail
        refine (raddR P8.out.r2 HOK.out k hkm).mono ?_
        rintro e w9 ⟨ρ, γ, rfl, hr9, hρ, b9⟩
        have h10 : Below w9.heap.size w9 (w9.alloc (rfO hs sd ρ (64 * n) γ)) := by go_grown
        have P9 := Lib.hid ((P8.out.below b9).below h10)
        have A9 := Lib.hid ((A8.out.below b9).below h10)
        have F9 := Lib.hid ((F8.out.below b9).below h10)
        have O9 := Lib.hid (Bz.new w9 hs sd ρ (64 * n) γ)
        have R9 := Lib.hid (hr9.below h10)
        have hs9 := b9.size
        have hl9 := hr9.lt
        clear hr9 b9 h10 d0 d1 d2 a1 P8 A8 F8
        have d0 := P9.out.z.c0
        have d1 := P9.out.z.c1
        have d2 := P9.out.z.c2
        go_wp2_with fail
        refine (rjoin_ok P9.out.r1 R9.out HOK.out.n1 HOK.out.n2).mono ?_
        rintro e w11 ⟨ρ2, γ2, rfl, hr11, hρ2, b11⟩
        have h12 : Below w11.heap.size w11 (w11.alloc (rfO hs sd ρ2 (64 * n) γ2)) := by go_grown
        have P11 := Lib.hid ((P9.out.below b11).below h12)
        have A11 := Lib.hid ((A9.out.below b11).below h12)
        have F11 := Lib.hid ((F9.out.below b11).below h12)
        have O11 := Lib.hid ((O9.out.below b11).below h12)
        have R11 := Lib.hid ((R9.out.below b11).below h12)
        have N11 := Lib.hid (hr11.below h12)
        have hs11 := b11.size
        have hl11 := hr11.lt
        simp only [World.size_alloc] at hs11 hρ2
        clear hr11 b11 h12 d0 d1 d2 P9 A9 F9 O9 R9
        have d0 := P11.out.z.c0
        have d1 := P11.out.z.c1
        have d2 := P11.out.z.c2
        have e0 := P11.out.z.fr
        have P12 := Lib.hid (P11.out.setz (γ := γ2) N11.out (by omega) (by omega))
        have hb12 := but_set3 (w := w11.alloc (rfO hs sd ρ2 (64 * n) γ2)) bx (.int .i64 hs) (.int .u64 sd) (.slice (some ⟨ρ2, 0, none⟩) (64 * n) γ2)
        have A12 := Lib.hid (A11.out.but hb12 (by omega))
        have F12 := Lib.hid (F11.out.but hb12 (by omega) (by omega))
        have O12 := Lib.hid (O11.out.but hb12 (by omega))
        have R12 := Lib.hid (R11.out.but hb12 (by omega))
        clear hb12
        go_wp2_with fail
        refine (join_ok P12.out.f HOK.out F12.out (by omega) (by omega)).mono ?_
        rintro e w13 ⟨rfl, f13, b13⟩
        have P13 := Lib.hid (P12.out.butq b13 f13)
        have A13 := Lib.hid (A12.out.but b13 (by omega))
        have F13 := Lib.hid (F12.out.but b13 (by omega) (by omega))
        have O13 := Lib.hid (O12.out.but b13 (by omega))
        have R13 := Lib.hid (R12.out.but b13 (by omega))
        clear f13 b13 d0 d1 d2 e0 P11 A11 F11 O11 R11 N11 P12 A12 F12 O12 R12
        have o0 := O13.out.c0
        have o1 := O13.out.c1
        have o2 := O13.out.c2
        have a1 := A13.out.c1
        go_wp2_with fail
        refine (equal_any F13.out R13.out HOK.out k hkm).mono ?_
        rintro e w14 ⟨rfl, b14⟩
        have PX := Lib.hid (P13.out.below b14)
        have AX := Lib.hid (A13.out.below b14)
        clear b14 P13 A13 F13 O13 R13 o0 o1 o2 a1
        go_wp2_with fail
        refine (wordsR PX.out.f HOK.out).mono ?_
        rintro e w12 ⟨g, rfl, hg12, hrow, b12⟩
        have P12 := Lib.hid (PX.out.below b12)
        have A12 := Lib.hid (AX.out.below b12)
        have hpx := PX.out.f.b.lt
        have hqx := PX.out.f.r.lt
        have hbx := PX.out.z.lt
        have hex := PX.out.e.lt
        have hrx := PX.out.r1.lt
        have hr2x := PX.out.r2.lt
        have hax := AX.out.lt
        have hWx := PX.out.w.size
        have RW := Lib.hid (show ∃ F : Nat → Int, Row w12 g n 22 (fun i => .int .u64 (F i)) from ⟨_, hrow⟩)
        clear b12 hrow
        go_wp2_with fail
        go_loopw [28] (fun k wt => ∃ m : Nat, m ≤ n ∧ k = .int .i64 m ∧ (∃ F : Nat → Int, Row wt g n 22 (fun i => .int .u64 (F i))) ∧ But g w12 wt) (fun k _ => n - (intOf k).toNat)
        case atStart => exact ⟨0, by omega, rfl, RW.out, But.refl _ _⟩
        case round =>
          clear RW
          obtain ⟨m, hm, rfl, ⟨F, hF⟩, hbt⟩ := hrel
          have RT := Lib.hid hF
          have BT := Lib.hid hbt
          clear hF hbt
          by_cases hmn : m < n
          · have hc := RT.out.cell m hmn
            have hfr := RT.out.fr m
            have hgl := RT.out.lt
            go_wp2_with fail
            go_roundw
            case rel => exact ⟨m + 1, by omega, by go_num, setI RT.out m _, BT.out.setCell _⟩
            case measure => simp [intOf] <;> omega
          · obtain rfl : m = n := by omega
            have PT := Lib.hid (P12.out.far BT.out (by omega) (by omega) (by omega) (by omega) (by omega) (by omega) (by omega))
            have AT := Lib.hid (A12.out.but BT.out (by omega))
            have t0 := PT.out.z.c0
            have t1 := PT.out.z.c1
            have t2 := PT.out.z.c2
            have t3 := AT.out.c1
            go_wp2_with fail
            refine (equal_any PT.out.f PT.out.r1 HOK.out k hkm).mono ?_
            rintro e w13 ⟨rfl, b13⟩
            have P13 := Lib.hid (PT.out.below b13)
            clear b13 PT t0 t1 t2
            go_wp2_with fail
            go_roundw
            case rel => exact ⟨j + 1, _, _, _, _, _, by omega, rfl, by go_num, P13.out⟩
            case measure => simp [intOf] <;> omega
      · go_wp2_with fail
        refine (copyR P6.out.f HOK.out).mono ?_
        rintro e w7 ⟨p', q', rfl, f7, hp7, hq7, b7⟩
        have P7 := Lib.hid (P6.out.below b7)
        have A7 := Lib.hid (A.out.below b7)
        have F7 := Lib.hid f7
        have hs7 := b7.size
        have hpl := f7.b.lt
        have hql := f7.r.lt
        simp only [World.size_alloc] at hs7 hp7 hq7
        clear f7 b7 P6 A P
        have a1 := A7.out.c1
        go_wp2_with fail
        have hk2 : (k ++ (⟨#[120]⟩ : ByteArray)).size ≤ maxLen := size_x hk3
        refine (addR P7.out.f HOK.out _ hk2).mono ?_
        rintro e w8 ⟨rfl, f8, b8⟩
        clear hk2
        have P8 := Lib.hid (P7.out.butq b8 f8)
        have A8 := Lib.hid (A7.out.but b8 (by omega))
        have F8 := Lib.hid (F7.out.but b8 (by omega) (by omega))
        have hs8 := b8.size
        clear f8 b8 P7 A7 F7 a1
        go_wp2_with fail
        refine (clearR P8.out.f HOK.out).mono ?_
        rintro e w9 ⟨rfl, f9, b9⟩
        have P9 := Lib.hid (P8.out.butq b9 f9)
        have AX := Lib.hid (A8.out.but b9 (by omega))
        have F9 := Lib.hid (F8.out.but b9 (by omega) (by omega))
        have hs9 := b9.size
        clear f9 b9 P8 A8 F8
        have PX := Lib.hid (P9.out.newf F9.out (by omega) (by omega) (by omega) (by omega) (by omega) (by omega))
        clear P9 F9
        go_wp2_with fail
        refine (wordsR PX.out.f HOK.out).mono ?_
        rintro e w12 ⟨g, rfl, hg12, hrow, b12⟩
        have P12 := Lib.hid (PX.out.below b12)
        have A12 := Lib.hid (AX.out.below b12)
        have hpx := PX.out.f.b.lt
        have hqx := PX.out.f.r.lt
        have hbx := PX.out.z.lt
        have hex := PX.out.e.lt
        have hrx := PX.out.r1.lt
        have hr2x := PX.out.r2.lt
        have hax := AX.out.lt
        have hWx := PX.out.w.size
        have RW := Lib.hid (show ∃ F : Nat → Int, Row w12 g n 22 (fun i => .int .u64 (F i)) from ⟨_, hrow⟩)
        clear b12 hrow
        go_wp2_with fail
        go_loopw [28] (fun k wt => ∃ m : Nat, m ≤ n ∧ k = .int .i64 m ∧ (∃ F : Nat → Int, Row wt g n 22 (fun i => .int .u64 (F i))) ∧ But g w12 wt) (fun k _ => n - (intOf k).toNat)
        case atStart => exact ⟨0, by omega, rfl, RW.out, But.refl _ _⟩
        case round =>
          clear RW
          obtain ⟨m, hm, rfl, ⟨F, hF⟩, hbt⟩ := hrel
          have RT := Lib.hid hF
          have BT := Lib.hid hbt
          clear hF hbt
          by_cases hmn : m < n
          · have hc := RT.out.cell m hmn
            have hfr := RT.out.fr m
            have hgl := RT.out.lt
            go_wp2_with fail
            go_roundw
            case rel => exact ⟨m + 1, by omega, by go_num, setI RT.out m _, BT.out.setCell _⟩
            case measure => simp [intOf] <;> omega
          · obtain rfl : m = n := by omega
            have PT := Lib.hid (P12.out.far BT.out (by omega) (by omega) (by omega) (by omega) (by omega) (by omega) (by omega))
            have AT := Lib.hid (A12.out.but BT.out (by omega))
            have t0 := PT.out.z.c0
            have t1 := PT.out.z.c1
            have t2 := PT.out.z.c2
            have t3 := AT.out.c1
            go_wp2_with fail
            refine (equal_any PT.out.f PT.out.r1 HOK.out k hkm).mono ?_
            rintro e w13 ⟨rfl, b13⟩
            have P13 := Lib.hid (PT.out.below b13)
            clear b13 PT t0 t1 t2
            go_wp2_with fail
            go_roundw
            case rel => exact ⟨j + 1, _, _, _, _, _, by omega, rfl, by go_num, P13.out⟩
            case measure => simp [intOf] <;> omega
    · obtain rfl : j = len := by omega
      go_wp2_with fail
      refine (HK.out _ P.out.w).mono ?_
      rintro e w18 ⟨rfl, b18⟩
      go_wp2_with fail
      go_ret
      exact ⟨rfl, tr P.out.w b18⟩
set_option maxRecDepth 100000 in
set_option maxHeartbeats 2000000 in
theorem lplays_a {W : World} {b hs sd : Int} (hin : In b hs) (ha : alw b hs = false) {a : Option Addr} {len cap : Nat} (hk : Kn W) :
    Calls Try.prog 5 #[.int .i64 b, .int .i64 hs, .int .u64 sd, .slice a len cap] W fun e w' => e = .returned (.bool true) ∧ Below W.heap.size W w' := by
  have HK := Lib.hid hk
  have HR := Lib.hid (fun w => rnew_bad (W := w) (sd := sd) hin ha)
  clear hk ha hin
  go_enter Try.func5, Try.ntmps5
  go_wp2_with fail
  refine (HR.out _).mono ?_
  rintro e w1 ⟨rfl, b1⟩
  have B1 := Lib.hid (tr b1 (by go_grown : Below w1.heap.size w1 (w1.alloc (.cells #[.int .i64 0, .int .u64 0, .slice none 0 0] 25))))
  clear b1
  go_wp2_with fail
  refine (HK.out _ B1.out).mono ?_
  rintro e w3 ⟨rfl, b3⟩
  go_wp2_with fail
  go_ret
  exact ⟨rfl, tr B1.out b3⟩
set_option maxRecDepth 100000 in
set_option maxHeartbeats 2000000 in
theorem lplays_c {W : World} {b hs sd : Int} {n : Nat} (hin : In b hs) (ha : alw b hs = true) (hbn : b = 64 * n) {a : Option Addr} {len cap : Nat} {f0 : Nat → Int} {f1 : Nat → ByteArray} (hacts : Acts W a len f0 f1) (hbig : ¬ (b ≤ 1024 ∧ fewB len 60 f1 = true)) (hk : Kn W) :
    Calls Try.prog 5 #[.int .i64 b, .int .i64 hs, .int .u64 sd, .slice a len cap] W fun e w' => e = .returned (.bool true) ∧ Below W.heap.size W w' := by
  have HK := Lib.hid hk
  have HR := Lib.hid (fun w => rnew_ok (W := w) (sd := sd) hin ha hbn)
  have HFEW := Lib.hid (fun (w : World) (hb : Below W.heap.size W w) => few_any (cap := cap) (hacts.below hb) 60 (by omega))
  clear hk ha hin hacts hbn
  go_enter Try.func5, Try.ntmps5
  go_wp2_with fail
  refine (HR.out _).mono ?_
  rintro e w1 ⟨r1, rfl, hr1, hg1, b1⟩
  have C2 := Lib.hid (tr b1 (by go_grown : Below w1.heap.size w1 (w1.alloc (rfO hs sd r1 (64 * n) (64 * n)))))
  clear hr1 hg1 b1
  by_cases x1 : 1024 < b
  · clear hbig
    go_wp2_with fail
    refine (HK.out _ C2.out).mono ?_
    rintro e w3 ⟨rfl, b3⟩
    go_wp2_with fail
    go_ret
    exact ⟨rfl, tr C2.out b3⟩
  · have hf : fewB len 60 f1 = false := by
      cases hh : fewB len 60 f1
      · rfl
      · exact absurd ⟨by omega, hh⟩ hbig
    rw [hf] at HFEW
    clear hbig hf
    go_wp2_with fail
    refine (HFEW.out _ C2.out).mono ?_
    rintro e w2 ⟨rfl, b2⟩
    have C3 := Lib.hid (tr C2.out b2)
    clear b2
    go_wp2_with fail
    refine (HK.out _ C3.out).mono ?_
    rintro e w3 ⟨rfl, b3⟩
    go_wp2_with fail
    go_ret
    exact ⟨rfl, tr C3.out b3⟩
theorem lplays_any {W : World} {b hs sd : Int} (hin : In b hs) (hsd : Word sd) {a : Option Addr} {len cap : Nat} {f0 : Nat → Int} {f1 : Nat → ByteArray} (hacts : Acts W a len f0 f1) (hk : Kn W) :
    Calls Try.prog 5 #[.int .i64 b, .int .i64 hs, .int .u64 sd, .slice a len cap] W fun e w' => e = .returned (.bool true) ∧ Below W.heap.size W w' := by
  cases ha : alw b hs
  · exact lplays_a hin ha hk
  · obtain ⟨n, hbn, ok⟩ := Ok.of ha hsd
    by_cases hbig : b ≤ 1024 ∧ fewB len 60 f1 = true
    · exact lplays_ok hin ha hbn ok hacts hbig.1 hbig.2 hk
    · exact lplays_c hin ha hbn hacts hbig hk
end Go.Proofs.Ytohldfhelppehaa.Blo
