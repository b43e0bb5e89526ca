/-
  Second chance (layer 31): any calls, the loop.
-/
import Derived.Test.YteppcjolgpdenaaSeqS
set_option linter.unusedVariables false
set_option linter.unusedSimpArgs false
namespace Go.Proofs.Yteppcjolgpdenaa.Seq
open Go Go.RowKit Kit Go.Maps
set_option maxHeartbeats 1000000 in
set_option maxRecDepth 100000 in
theorem plays_any {B : Nat} {W : World} {a : Option Addr} {len acap : Nat} {f0 f1 : Nat → Int} (hacts : Acts B W a len f0 f1) (hl : len ≤ 100) {c lo hi q cap : Nat} {l : List Pl} {h : Nat} (H0 : Sc W c lo hi l h) (R0 : Rw W q l) (hlo : B ≤ lo) (hd : q < lo ∨ hi ≤ q) :
    Calls Try.prog 9 #[.pointer (some ⟨c, 0, none⟩), rv q l.length cap (h : Int), .slice a len acap] W fun e w' => ∃ (c' lo' hi' q' cap' : Nat) (l' : List Pl) (h' : Nat), e = .returned (.tuple #[.pointer (some ⟨c', 0, none⟩), rv q' l'.length cap' (h' : Int), .bool true]) ∧ Sc w' c' lo' hi' l' h' ∧ Rw w' q' l' ∧ (q' < lo' ∨ hi' ≤ q') ∧ l'.length = l.length ∧ ((lo ≤ lo' ∧ hi' ≤ hi) ∨ W.heap.size ≤ lo') ∧ (q' = q ∨ W.heap.size ≤ q') ∧ Keep lo hi W w' := by
  obtain ⟨n, hn⟩ : ∃ n, l.length = n := ⟨_, rfl⟩
  have HN := Lib.hid hn
  have hBW : B ≤ W.heap.size := by
    obtain ⟨⟨q, m, cap, N, D, h1, h2, h3, h4, h5, h6, h7, n1, n2, n3, b1, b2, -⟩, -, -, -, -, a5⟩ := H0
    omega
  have HA := Lib.hid (fun (w : World) (L H : Nat) (hk : Keep L H W w) (hL : B ≤ L) => hacts.keep hk hL hBW)
  have HAL := Lib.hid hlo
  obtain ⟨x1, x2⟩ := two_boxes W (.slice (some ⟨q, 0, none⟩) n cap) (.int .i64 (h : Int)) (.slice none 0 0) (.int .i64 0)
  have hq := R0.lt
  have ht := H0.top
  have P0 := Lib.hid (show Ps lo hi q W _ c lo hi q cap n W.heap.size l h l h from
    ⟨H0.below (by go_grown), R0.of ((by go_grown : Below W.heap.size W ((W.alloc (.cells #[.slice (some ⟨q, 0, none⟩) n cap, .int .i64 (h : Int)] 30)).alloc (.cells #[.slice none 0 0, .int .i64 0] 30))).block q hq), x1, x2, hn, Keep.of (by go_grown), .inl ⟨Nat.le_refl _, Nat.le_refl _⟩, Nat.le_refl _, hd, .inr ht, by omega, .inl rfl⟩)
  rw [hn]
  clear hacts x1 x2 H0 R0 hn ht hq hd hlo hBW
  obtain ⟨L, hL⟩ : ∃ L, lo = L := ⟨_, rfl⟩
  obtain ⟨H, hH⟩ : ∃ H, hi = H := ⟨_, rfl⟩
  obtain ⟨q0, hq0⟩ : ∃ q0, q = q0 := ⟨_, rfl⟩
  have P0 := Lib.hid (show Ps L H q0 W _ c lo hi q cap n W.heap.size l h l h from by rw [← hL, ← hH, ← hq0]; exact P0.out)
  have HAL := Lib.hid (show B ≤ L from by rw [← hL]; exact HAL.out)
  rw [show (fun (e : Ending) (w' : World) => ∃ (c' lo' hi' q' cap' : Nat) (l' : List Pl) (h' : Nat), e = .returned (.tuple #[.pointer (some ⟨c', 0, none⟩), rv q' l'.length cap' (h' : Int), .bool true]) ∧ Sc w' c' lo' hi' l' h' ∧ Rw w' q' l' ∧ (q' < lo' ∨ hi' ≤ q') ∧ l'.length = n ∧ ((lo ≤ lo' ∧ hi' ≤ hi) ∨ W.heap.size ≤ lo') ∧ (q' = q ∨ W.heap.size ≤ q') ∧ Keep lo hi W w') = (fun (e : Ending) (w' : World) => ∃ (c' lo' hi' q' cap' : Nat) (l' : List Pl) (h' : Nat), e = .returned (.tuple #[.pointer (some ⟨c', 0, none⟩), rv q' l'.length cap' (h' : Int), .bool true]) ∧ Sc w' c' lo' hi' l' h' ∧ Rw w' q' l' ∧ (q' < lo' ∨ hi' ≤ q') ∧ l'.length = n ∧ ((L ≤ lo' ∧ hi' ≤ H) ∨ W.heap.size ≤ lo') ∧ (q' = q0 ∨ W.heap.size ≤ q') ∧ Keep L H W w') from by rw [hL, hH, hq0]]
  clear hL hH hq0
  go_enter Try.func9, Try.ntmps9
  go_wp2_with fail
  go_loopw [0, 9] (fun v i wr => ∃ (j c lo hi q cap : Nat) (l : List Pl) (h : Nat), j ≤ len ∧ v = .pointer (some ⟨c, 0, none⟩) ∧ i = .int .i64 j ∧ Ps L H q0 W wr c lo hi q cap n W.heap.size l h l h) (fun _ i _ => len - (intOf i).toNat)
  case atStart => exact ⟨0, c, lo, hi, q, cap, l, h, by omega, rfl, rfl, P0.out⟩
  case round =>
    clear P0
    obtain ⟨j, c, lo, hi, q, cap, l, h, hj, rfl, rfl, hP⟩ := hrel
    have P := Lib.hid hP
    clear hP
    by_cases hlt : j < len
    · obtain ⟨x, rfl, hxb, y0, y1, k0, k1⟩ := HA.out _ _ _ P.out.b HAL.out j hlt
      generalize f1 j = k at *
      generalize f0 j = what at *
      have A := Lib.hid (show Bk (wr.alloc (.cells #[.int .i64 what, .int .u32 k] 44)) wr.heap.size what k from (MapKept.heap_alloc wr _).1)
      have hb6 : Below wr.heap.size wr (wr.alloc (.cells #[.int .i64 what, .int .u32 k] 44)) := by go_grown
      have P6 := Lib.hid (P.out.below hb6)
      have hqw := P.out.r.lt
      have hbw := BoxR.lt P.out.y
      have htw := P.out.s.top
      clear hb6
      by_cases c0 : what = 0
      · subst c0
        go_wp2_with fail
        refine (use_any P6.out.s k0 k1).mono ?_
        rintro e w7 ⟨rfl, s7, kp7⟩
        have hul := useL_len (l := l) (h := h) (by have := P.out.s.hh; omega) k
        have hln := P.out.ln
        have HRU := Lib.hid (fun w' q' cap' (hr : Rw w' q' l) => ruse_any (cap := cap') hr P.out.s.h1 P.out.s.h2 P.out.s.hh k)
        rw [hln] at HRU hul
        generalize useL l h k = U at *
        obtain ⟨l', h', b1, b2, o⟩ := U
        simp only at hul s7 HRU ⊢
        have P7 := Lib.hid (P6.out.obj s7 kp7)
        have A7 := Lib.hid (A.out.keep kp7 (.inr (by omega)))
        have hs7 := kp7.size
        simp only [World.size_alloc] at hs7
        have hdx := P.out.dx
        have hq1 := P.out.q1
        have hwz := P.out.b.size
        clear s7 kp7 A P6 y0 y1
        obtain ⟨z0, z1, zf⟩ := P7.out.z.all
        obtain ⟨a0, a1, a2⟩ := A7.out.c
        have g7 : W.heap.size < w7.heap.size := by omega
        go_wp2_with fail
        refine (HRU.out _ _ _ (P7.out.below (by go_grown)).r).mono ?_
        rintro e w9 ⟨g, cap', rfl, r9, hg9, b9⟩
        have b8 : Below w7.heap.size w7 (w7.alloc (.cells #[.bool b1, .bool b2, .int .u32 o] 46)) := by go_grown
        have T9 : BoxA w9 w7.heap.size _ _ := (b9.block _ (by simp)).trans (MapKept.heap_alloc w7 (.cells #[.bool b1, .bool b2, .int .u32 o] 46)).1
        have P9 := Lib.hid ((P7.out.below b8).below b9)
        have A9 := Lib.hid ((A7.out.below b8).below b9)
        have hs9 := b9.size
        simp only [World.size_alloc] at hs9 hg9
        have R9 := Lib.hid r9
        clear b9 r9 b8 z0 z1 zf a0 a1 HRU
        obtain ⟨z0, z1, zf⟩ := P9.out.z.all
        obtain ⟨a0, a1, a3⟩ := A9.out.c
        obtain ⟨t0, t1, t2, t3⟩ := BoxA.three T9
        have g9 : W.heap.size < w9.heap.size := by omega
        have g10 : w7.heap.size < w9.heap.size := by omega
        clear T9
        have PR := Lib.hid (P9.out.ref (cap' := cap') (hr' := h') R9.out hul.1 (by omega) (by omega) (by omega) (by omega))
        have HEQ := Lib.hid (fun w' hb => equal_any (cap := cap') (PR.out.below (v := w') hb).s (PR.out.below hb).r k0 k1)
        rw [hul.1] at HEQ
        clear P7 A7 P9 A9 R9
        go_wp2_with fail
        refine (HEQ.out _ (by go_grown)).mono ?_
        rintro e w12 ⟨rfl, b12⟩
        have P12 := Lib.hid ((PR.out.below (by go_grown)).below b12)
        clear b12 HEQ PR z0 z1 zf a0 a1 t0 t1 t2 t3
        go_wp2_with fail
        go_roundw
        case rel => exact ⟨j + 1, _, _, _, _, _, _, _, by omega, rfl, by go_num, P12.out⟩
        case measure => simp [intOf] <;> omega
      by_cases c1 : what = 1
      · subst c1
        go_wp2_with fail
        refine (drop_any P6.out.s k0 k1).mono ?_
        rintro e w7 ⟨rfl, s7, kp7⟩
        have hul := dropL_len l k
        have hln := P.out.ln
        have HRU := Lib.hid (fun w' q' cap' (hr : Rw w' q' l) => rdrop_any (cap := cap') hr P.out.s.h1 P.out.s.h2 (h : Int) k)
        rw [hln] at HRU hul
        generalize dropL l k = l' at *
        generalize (find l k).isSome = b1 at *
        have P7 := Lib.hid (P6.out.obj s7 kp7)
        have A7 := Lib.hid (A.out.keep kp7 (.inr (by omega)))
        have hs7 := kp7.size
        simp only [World.size_alloc] at hs7
        have hdx := P.out.dx
        have hq1 := P.out.q1
        have hwz := P.out.b.size
        have hdd := P.out.d
        have hdq := P.out.dq
        clear s7 kp7 A P6 y0 y1
        obtain ⟨z0, z1, zf⟩ := P7.out.z.all
        obtain ⟨a0, a1, a2⟩ := A7.out.c
        have g7 : W.heap.size < w7.heap.size := by omega
        go_wp2_with fail
        refine (HRU.out _ _ _ P7.out.r).mono ?_
        rintro e w9 ⟨g, cap', rfl, r9, hg9, b9⟩
        have P9 := Lib.hid (P7.out.below b9)
        have A9 := Lib.hid (A7.out.below b9)
        have hs9 := b9.size
        have R9 := Lib.hid r9
        clear b9 r9 z0 z1 zf a0 a1 HRU
        obtain ⟨z0, z1, zf⟩ := P9.out.z.all
        obtain ⟨a0, a1, a3⟩ := A9.out.c
        have g9 : W.heap.size < w9.heap.size := by omega
        have PR := Lib.hid (P9.out.ref (cap' := cap') (hr' := h) R9.out hul (by omega) (by omega) (by omega) (by omega))
        have HEQ := Lib.hid (fun w' hb => equal_any (cap := cap') (PR.out.below (v := w') hb).s (PR.out.below hb).r k0 k1)
        rw [hul] at HEQ
        clear P7 A7 P9 A9 R9
        go_wp2_with fail
        refine (HEQ.out _ (by go_grown)).mono ?_
        rintro e w12 ⟨rfl, b12⟩
        have P12 := Lib.hid ((PR.out.below (by go_grown)).below b12)
        clear b12 HEQ PR z0 z1 zf a0 a1
        go_wp2_with fail
        go_roundw
        case rel => exact ⟨j + 1, _, _, _, _, _, _, _, by omega, rfl, by go_num, P12.out⟩
        case measure => simp [intOf] <;> omega
      · have e0 : (what == 0) = false := by rw [beq_eq_false_iff_ne]; exact c0
        have e1 : (what == 1) = false := by rw [beq_eq_false_iff_ne]; exact c1
        obtain ⟨k', hk'⟩ : ∃ k', IntKind.u32.wrap (k + 77) = k' := ⟨_, rfl⟩
        have hkk : 0 ≤ k' ∧ k' < 4294967296 := by rw [← hk']; simp [IntKind.wrap, IntKind.signed, IntKind.bits] <;> omega
        go_wp2_with fail
        refine (copy_any P6.out.s).mono ?_
        rintro e w7 ⟨c', hi', rfl, s7, b7⟩
        have P7 := Lib.hid (P6.out.below b7)
        have A7 := Lib.hid (A.out.below b7)
        have hs7 := b7.size
        simp only [World.size_alloc] at hs7
        have hdx := P.out.dx
        have hq1 := P.out.q1
        have hwz := P.out.b.size
        have hdd := P.out.d
        have hdq := P.out.dq
        have hsb := P.out.b.size
        have PC := Lib.hid (P7.out.copy s7 (by simp; omega) (by simp; omega) (by simp; omega))
        clear s7 b7 A P6 y0 y1
        obtain ⟨a0, a1, a2⟩ := A7.out.c
        go_wp2_with fail
        refine (use_any P7.out.s hkk.1 hkk.2).mono ?_
        rintro e w8 ⟨rfl, s8, kp8⟩
        have A8 := Lib.hid (A7.out.keep kp8 (.inr (by omega)))
        have PC8 := Lib.hid (PC.out.other kp8 (by simp; omega) P7.out.lob hdd hdx)
        have S8 := Lib.hid s8
        have hs8 := kp8.size
        clear a0 a1 s8 kp8 A7 PC P7
        obtain ⟨a0, a1, a3⟩ := A8.out.c
        generalize useL l h k' = U at *
        go_wp2_with fail
        refine (drop_any S8.out k0 k1).mono ?_
        rintro e w9 ⟨rfl, s9, kp9⟩
        have A9 := Lib.hid (A8.out.keep kp9 (.inr (by omega)))
        have PR := Lib.hid (PC8.out.other kp9 (by simp; omega) P.out.lob hdd hdx)
        have hs9 := kp9.size
        have hln := P.out.ln
        clear a0 a1 s9 kp9 A8 PC8
        obtain ⟨a0, a1, a4⟩ := A9.out.c
        obtain ⟨z0, z1, zf⟩ := PR.out.z.all
        have HEQ := Lib.hid (fun w' hb => equal_any (cap := cap) (PR.out.below (v := w') hb).s (PR.out.below hb).r k0 k1)
        rw [hln] at HEQ
        go_wp2_with fail
        refine (HEQ.out _ (Below.refl _ _)).mono ?_
        rintro e w12 ⟨rfl, b12⟩
        have P12 := Lib.hid (PR.out.below b12)
        clear b12 HEQ PR z0 z1 zf a0 a1
        go_wp2_with fail
        go_roundw
        case rel => exact ⟨j + 1, _, _, _, _, _, _, _, by omega, rfl, by go_num, P12.out⟩
        case measure => simp [intOf] <;> omega
    · obtain rfl : j = len := by omega
      obtain ⟨z0, z1, zf⟩ := P.out.z.all
      obtain ⟨y0, y1, yf⟩ := P.out.y.all
      have hbw := BoxR.lt P.out.y
      have hln := P.out.ln
      have PF := Lib.hid (fun (v : World) (hb : Below wr.heap.size wr v) => ((P.out.below hb).fin (.slice (some ⟨q, 0, none⟩) n cap) (.int .i64 (h : Int))))
      have hdd := P.out.d
      have hlo := P.out.lob
      have hq1 := P.out.q1
      go_wp2_with fail
      go_region_with fail
      all_goals
        go_wp2_with fail
        refine ret_rv3 rfl rfl rfl rfl (PF.out _ (by go_grown)).2.2.1 rfl ?_
        obtain ⟨f1, f2, -, f4⟩ := PF.out _ (by go_grown)
        subst hln
        exact ⟨c, lo, hi, q, cap, l, h, rfl, f1.below (Below.drew (Below.refl _ _)), f2.of rfl, hdd, rfl, hlo, hq1, f4.tr (Below.drew (Below.refl _ _))⟩
end Go.Proofs.Yteppcjolgpdenaa.Seq
