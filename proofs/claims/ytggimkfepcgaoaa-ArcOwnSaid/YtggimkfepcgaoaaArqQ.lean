/-
  Adaptive replacement (layer 29): ArcOwn.
-/
import Derived.Test.YtggimkfepcgaoaaArqP
set_option linter.unusedVariables false
set_option linter.unusedSimpArgs false
namespace Go.Proofs.Ytggimkfepcgaoaa.Arc
open Go Go.RowKit Kit Go.Maps Lnk Gho
set_option maxRecDepth 100000 in
set_option maxHeartbeats 8000000 in
theorem lown29_in {w : World} {s : Nat} {a : Option Addr} {len cap : Nat} {f0 f1 : Nat → Int} (hacts : Ac2 w.heap.size w a len f0 f1) (s1 : 1 ≤ s) (s40 : s ≤ 40) (hlen : len ≤ 120) (HK : ∀ v, Below w.heap.size w v → Calls Try.prog 50 #[] v fun e w' => e = .returned (.bool true) ∧ Below v.heap.size v w') :
    Calls Try.prog 12 #[.int .i64 (s : Int), .slice a len cap] w fun e w' => e = .returned (.bool true) ∧ Below w.heap.size w w' := by
  have HNW := Lib.hid (new_any w s s1 (by omega))
  have HK0 := Lib.hid HK
  have HA := Lib.hid hacts
  have HI := Lib.hid (show 1 ≤ s ∧ s ≤ 40 ∧ len ≤ 120 from ⟨s1, s40, hlen⟩)
  have HRN := Lib.hid (fun v => rnew29 (w := v) s1 (show s ≤ 1024 by omega))
  have h1 : ¬ (s : Int) < 1 := by omega
  have h2 : ¬ 40 < (s : Int) := by omega
  have h3 : ¬ 120 < (len : Int) := by omega
  unfold rv29 nos at HRN
  clear s1 s40 hlen HK hacts
  go_enter Try.func12, Try.ntmps12
  go_wp2_with fail
  refine HNW.out.mono ?_
  rintro e w1 ⟨o, b, rfl, ax⟩
  have G1 := Lib.hid ax
  clear ax HNW
  go_wp2_with fail
  refine (HRN.out _).mono ?_
  rintro e w2 ⟨rfl, b2⟩
  have G2 := Lib.hid (G1.out.below' b2)
  have hA : Below w2.heap.size w2 (w2.alloc (.cells #[.int .i64 (s : Int), .slice none 0 0, .slice none 0 0, .slice none 0 0, .slice none 0 0, .int .i64 0] 97)) := by go_grown
  have G3 := Lib.hid ((G2.out.below hA).only (X' := fun k => False ∨ (w2.heap.size ≤ k ∧ k < (w2.alloc (.cells #[.int .i64 (s : Int), .slice none 0 0, .slice none 0 0, .slice none 0 0, .slice none 0 0, .int .i64 0] 97)).heap.size)) fun k hk => hk)
  have hx := (MapKept.heap_alloc w2 (.cells #[.int .i64 (s : Int), .slice none 0 0, .slice none 0 0, .slice none 0 0, .slice none 0 0, .int .i64 0] 97)).1
  have hsz : w2.heap.size < (w2.alloc (.cells #[.int .i64 (s : Int), .slice none 0 0, .slice none 0 0, .slice none 0 0, .slice none 0 0, .int .i64 0] 97)).heap.size := by simp [World.size_alloc]
  have hlo : w.heap.size ≤ w2.heap.size := G2.out.bl.size
  clear b2 G1 G2 HRN hA
  go_upto_region 7 with fail
  generalize w2.alloc (.cells #[.int .i64 (s : Int), .slice none 0 0, .slice none 0 0, .slice none 0 0, .slice none 0 0, .int .i64 0] 97) = w3 at *
  generalize w2.heap.size = rb at *
  obtain ⟨c0, c1, c2, c3, c4, c5, cf⟩ : w3.cell? ⟨rb, 0, none⟩ = some (.int .i64 (s : Int)) ∧ w3.cell? ⟨rb, 1, none⟩ = some (.slice none 0 0) ∧ w3.cell? ⟨rb, 2, none⟩ = some (.slice none 0 0) ∧ w3.cell? ⟨rb, 3, none⟩ = some (.slice none 0 0) ∧ w3.cell? ⟨rb, 4, none⟩ = some (.slice none 0 0) ∧ w3.cell? ⟨rb, 5, none⟩ = some (.int .i64 0) ∧ ∀ j, w3.frozen? ⟨rb, j, none⟩ = false := by refine ⟨?_, ?_, ?_, ?_, ?_, ?_, fun j => ?_⟩ <;> simp [World.cell?, World.frozen?, hx]
  have HPL := Lib.hid (plays29 (cap := cap) G3.out HI.out.1 HI.out.2.1 HA.out HI.out.2.2)
  unfold rv29 nos at HPL
  have HX3 := Lib.hid (And.intro hx (And.intro hsz hlo))
  clear hx hsz hlo
  go_wp2_with fail
  refine HPL.out.mono ?_
  rintro e w4 ⟨o', K', b', t', L', f', X', rfl, ax, rs, ai, hxf, hki⟩
  obtain ⟨hxr, hx4⟩ := hki rb (.inr ⟨Nat.le_refl _, HX3.out.2.1⟩)
  rw [HX3.out.1] at hx4
  obtain ⟨e5, kk⟩ := sset (d0 := .int .i64 (s : Int)) (d1 := f' 0) (d2 := f' 1) (d3 := f' 2) (d4 := f' 3) (d5 := .int .i64 t') hx4
  have hax := ax.aside kk fun j _ hj => ⟨hj ▸ hxr, hj ▸ HX3.out.2.2⟩
  have hrs : Rs _ L' f' := fun i hi => (rs i hi).kp kk fun p n c hf y hy => by
    have h1 := hxf i hi p n c y hf hy
    have h2 := HX3.out.2.1
    show ¬ y.block = rb
    omega
  have A5 := Lib.hid (And.intro hax (And.intro hrs e5))
  have AI := Lib.hid ai
  obtain ⟨p0, n0, e0, g0, -⟩ := rs 0 (by omega)
  obtain ⟨p1, n1, e1, g1, -⟩ := rs 1 (by omega)
  obtain ⟨p2, n2, e2, g2, -⟩ := rs 2 (by omega)
  obtain ⟨p3, n3, e3, g3, -⟩ := rs 3 (by omega)
  have HGG := Lib.hid (show f' 0 = .slice p0 n0 e0 ∧ f' 1 = .slice p1 n1 e1 ∧ f' 2 = .slice p2 n2 e2 ∧ f' 3 = .slice p3 n3 e3 from ⟨g0, g1, g2, g3⟩)
  rw [g0, g1, g2, g3]
  rw [g0, g1, g2, g3] at A5
  clear c0 c1 c2 c3 c4 c5 cf G3 HPL g0 g1 g2 g3 ax rs ai e5 hax hrs kk hki hxf
  obtain ⟨c0, c1, c2, c3, c4, c5, cf⟩ : w4.cell? ⟨rb, 0, none⟩ = some (.int .i64 (s : Int)) ∧ w4.cell? ⟨rb, 1, none⟩ = some (.slice none 0 0) ∧ w4.cell? ⟨rb, 2, none⟩ = some (.slice none 0 0) ∧ w4.cell? ⟨rb, 3, none⟩ = some (.slice none 0 0) ∧ w4.cell? ⟨rb, 4, none⟩ = some (.slice none 0 0) ∧ w4.cell? ⟨rb, 5, none⟩ = some (.int .i64 0) ∧ ∀ j, w4.frozen? ⟨rb, j, none⟩ = false := by refine ⟨?_, ?_, ?_, ?_, ?_, ?_, fun j => ?_⟩ <;> simp [World.cell?, World.frozen?, hx4]
  clear hx4 hxr
  go_upto_region 8 with fail
  clear c0 c1 c2 c3 c4 c5 cf
  generalize (((((w4.setCell ⟨rb, 0, none⟩ (.int .i64 (s : Int))).setCell ⟨rb, 1, none⟩ (.slice p0 n0 e0)).setCell ⟨rb, 2, none⟩ (.slice p1 n1 e1)).setCell ⟨rb, 3, none⟩ (.slice p2 n2 e2)).setCell ⟨rb, 4, none⟩ (.slice p3 n3 e3)).setCell ⟨rb, 5, none⟩ (.int .i64 t') = w5 at *
  have hl4 : ∀ i, i < 4 → (L' i).length ≤ 4096 := fun i hi => by have := ai_lens AI.out i hi; omega
  have HLO := Lib.hid (lists_own A5.out.1 HI.out.1 hl4 rfl rfl rfl rfl)
  clear hl4
  go_wp2_with fail
  refine HLO.out.mono ?_
  rintro e w6 ⟨q0, q1, q2, q3, m0, m1, m2, m3, rfl, nws, b6⟩
  have hbV : Below w6.heap.size w6 (w6.alloc (.cells #[.slice q0 (L' 0).length m0, .slice q1 (L' 1).length m1, .slice q2 (L' 2).length m2, .slice q3 (L' 3).length m3] 39)) := by go_grown
  obtain ⟨pp, nn, mm, hkr, hnn⟩ : ∃ (pp : Nat → Option Addr) (nn mm : Nat → Nat), Kr w5 (w6.alloc (.cells #[.slice q0 (L' 0).length m0, .slice q1 (L' 1).length m1, .slice q2 (L' 2).length m2, .slice q3 (L' 3).length m3] 39)) w6.heap.size pp nn mm ∧ ∀ i, i < 4 → nn i ≤ 4096 :=
    ⟨_, _, _, Kr.of nws b6 hbV (MapKept.heap_alloc w6 _).1, fun i hi => by
      have := ai_lens AI.out i hi
      match i, hi with
      | 0, _ => show (L' 0).length ≤ 4096; omega
      | 1, _ => show (L' 1).length ≤ 4096; omega
      | 2, _ => show (L' 2).length ≤ 4096; omega
      | 3, _ => show (L' 3).length ≤ 4096; omega⟩
  have KR := Lib.hid hkr
  have HNN := Lib.hid hnn
  clear hkr hnn hbV nws b6 HLO
  go_wp2_with fail
  generalize w6.alloc (.cells #[.slice q0 (L' 0).length m0, .slice q1 (L' 1).length m1, .slice q2 (L' 2).length m2, .slice q3 (L' 3).length m3] 39) = w7 at *
  generalize w6.heap.size = tb at *
  go_loopw [74] (fun jv v => ∃ j : Nat, j ≤ 4 ∧ jv = .int .i64 (j : Int) ∧ Hid (Kr w5 v tb pp nn mm)) (fun jv _ => 4 - (intOf jv).toNat)
  case atStart => exact ⟨0, by omega, rfl, KR⟩
  case round =>
    obtain ⟨j, hj, rfl, KJ⟩ := hrel
    clear KR
    by_cases hj4 : j < 4
    · have j1 : (j : Int) < 4 := by omega
      have j0 : (0 : Int) ≤ (j : Int) := by omega
      have wj := IntWalk.i64_in ((j : Int) + 1) (by omega)
      have d1 := KJ.out.row hj4
      have HJ := Lib.hid hj4
      obtain ⟨p, hp⟩ : ∃ p, pp j = p := ⟨_, rfl⟩
      obtain ⟨n, hn⟩ : ∃ n, nn j = n := ⟨_, rfl⟩
      obtain ⟨kc, hkc⟩ : ∃ n, mm j = n := ⟨_, rfl⟩
      rw [hp, hn, hkc] at d1
      have HP := Lib.hid hp
      have HN := Lib.hid (And.intro hn (hn ▸ HNN.out j hj4))
      clear hj4 hp hn hkc
      go_wp2_with fail
      go_loopw [17] (fun iv v => ∃ i : Nat, i ≤ n ∧ iv = .int .i64 (i : Int) ∧ Hid (Kr w5 v tb pp nn mm)) (fun iv _ => n - (intOf iv).toNat)
      case atStart => exact ⟨0, Nat.zero_le _, rfl, KJ⟩
      case round =>
        obtain ⟨i, hi, rfl, KI⟩ := hrel
        clear KJ d1
        by_cases hin : i < n
        · obtain ⟨g, z, hg, z1, zf, hset⟩ := KI.out.at_ HJ.out (j := i) (by rw [HN.out.1]; exact hin)
          obtain rfl : p = some ⟨g, 0, none⟩ := HP.out.symm.trans hg
          have HS := Lib.hid hset
          have i0 : (0 : Int) ≤ (i : Int) := by omega
          have i1 : (i : Int) < (n : Int) := by omega
          have wi := IntWalk.i64_in ((i : Int) + 1) (by have := HN.out; omega)
          clear hset hg
          go_wp2_with fail
          go_roundw
          case rel => exact ⟨i + 1, by omega, by go_num, Lib.hid (HS.out _)⟩
          case measure => simp [intOf] <;> omega
        · have i1 : ¬ (i : Int) < (n : Int) := by omega
          have HJ2 := Lib.hid (show j + 1 ≤ 4 by have := HJ.out; omega)
          go_wp2_with fail
          go_roundw
          case rel => exact ⟨j + 1, HJ2.out, by go_num, KI⟩
          case measure => have := HJ.out; simp [intOf] <;> omega
    · have j1 : ¬ (j : Int) < 4 := by omega
      have hb7 := KJ.out.b
      have hx := (hb7.block rb (Array.getElem?_eq_some_iff.1 A5.out.2.2).1).trans A5.out.2.2
      have HE := equal29 (A5.out.1.below' hb7) HI.out.1 (fun i hi => by have := ai_lens AI.out i hi; omega) (A5.out.2.1.below hb7) 1 (by omega)
      unfold rv29 at HE
      rw [HGG.out.1, HGG.out.2.1, HGG.out.2.2.1, HGG.out.2.2.2] at HE
      have HE2 := Lib.hid HE
      have B7 := Lib.hid (A5.out.1.below' hb7).bl
      obtain ⟨c0, c1, c2, c3, c4, c5⟩ : wr.cell? ⟨rb, 0, none⟩ = some (.int .i64 (s : Int)) ∧ wr.cell? ⟨rb, 1, none⟩ = some (.slice p0 n0 e0) ∧ wr.cell? ⟨rb, 2, none⟩ = some (.slice p1 n1 e1) ∧ wr.cell? ⟨rb, 3, none⟩ = some (.slice p2 n2 e2) ∧ wr.cell? ⟨rb, 4, none⟩ = some (.slice p3 n3 e3) ∧ wr.cell? ⟨rb, 5, none⟩ = some (.int .i64 t') := by refine ⟨?_, ?_, ?_, ?_, ?_, ?_⟩ <;> simp [World.cell?, hx]
      clear HE hx hb7
      go_wp2_with fail
      refine HE2.out.mono ?_
      rintro e w8 ⟨rfl, b8⟩
      have B8 := Lib.hid (tr B7.out b8)
      clear b8 c0 c1 c2 c3 c4 c5 HE2
      go_wp2_with fail
      refine (HK0.out _ B8.out).mono ?_
      rintro e w9 ⟨rfl, b9⟩
      have B9 := Lib.hid (tr B8.out b9)
      clear b9
      go_wp2_with fail
      exact bodyPost_ret (v := .bool true) (by simp [results, Try.results12, go_sem]) rfl ⟨rfl, B9.out⟩
set_option maxRecDepth 100000 in
set_option maxHeartbeats 8000000 in
theorem lown29 {w : World} {n : Int} {a : Option Addr} {len cap : Nat} {f0 f1 : Nat → Int} (hacts : Ac2 w.heap.size w a len f0 f1) (HK : ∀ v, Below w.heap.size w v → Calls Try.prog 50 #[] v fun e w' => e = .returned (.bool true) ∧ Below v.heap.size v w') :
    Calls Try.prog 12 #[.int .i64 n, .slice a len cap] w fun e w' => e = .returned (.bool true) ∧ Below w.heap.size w w' := by
  by_cases hc : 1 ≤ n ∧ n ≤ 40 ∧ len ≤ 120
  · obtain ⟨M, rfl⟩ := Int.eq_ofNat_of_zero_le (show 0 ≤ n by omega)
    exact lown29_in hacts (by omega) (by omega) (by omega) HK
  · have HKN := Lib.hid (HK w (Below.refl _ _))
    have hd : n < 1 ∨ (¬ n < 1 ∧ 40 < n) ∨ (¬ n < 1 ∧ ¬ 40 < n ∧ 120 < (len : Int)) := by omega
    clear hc HK hacts
    rcases hd with h1 | ⟨h1, h2⟩ | ⟨h1, h2, h3⟩
    all_goals (
      go_enter Try.func12, Try.ntmps12
      go_wp2_with fail
      refine HKN.out.mono ?_
      rintro e u ⟨rfl, bl⟩
      go_wp2_with fail
      exact bodyPost_ret (v := .bool true) (by simp [results, Try.results12, go_sem]) rfl ⟨rfl, bl⟩)
end Go.Proofs.Ytggimkfepcgaoaa.Arc
