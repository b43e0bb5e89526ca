/-
  Walks over package entry (layer 4): what is checked, copies.
-/
import Derived.Test.YtdhdaknfmpfegaaEntV
import Derived.Test.YtdhdaknfmpfegaaEno
set_option linter.unusedVariables false
set_option linter.unusedSimpArgs false
namespace Go.Proofs.Ytdhdaknfmpfegaa.Ent
open Go.RowKit Kit
def chk (k : ByteArray) (l : Nat) (b : Int) : Int := if b = 0 then 2 else if keyB k = false then 2 else if 65536 < l then 5 else 0
set_option maxRecDepth 100000 in
theorem echeck_any (k : ByteArray) (p : Option Addr) (l c : Nat) (d b : Int) (w : World) :
    Calls Try.prog 47 #[ent k p l c d b] w fun e w' => e = .returned (.int .i64 (chk k l b)) ∧ Below w.heap.size w w' := by
  unfold chk
  have CB := Lib.hid (fun (h : keyB k = false) (w1 : World) => cost_bad k p l c h w1)
  have CL := Lib.hid (fun (h : keyB k = true) (h2 : 65536 < l) (w1 : World) => cost_long k p l c h h2 w1)
  have CO := Lib.hid (fun (h : keyB k = true) (h2 : l ≤ 65536) (w1 : World) => cost_ok k p l c h h2 w1)
  by_cases h0 : b = 0
  · subst h0
    go_enter Try.func47, Try.ntmps47
    go_wp2_with fail
    go_ret
    exact ⟨by simp, by go_grown⟩
  by_cases h1 : keyB k = false
  · go_enter Try.func47, Try.ntmps47
    go_wp2_with (refine (CB.out h1 _).mono ?_; rintro e w1 ⟨rfl, rfl⟩)
    go_ret
    exact ⟨by simp [h0, h1], by go_grown⟩
  by_cases h2 : 65536 < l
  · go_enter Try.func47, Try.ntmps47
    go_wp2_with (refine (CL.out (by simpa using h1) h2 _).mono ?_; rintro e w1 ⟨rfl, rfl⟩)
    go_ret
    exact ⟨by simp [h0, h1, h2], by go_grown⟩
  · go_enter Try.func47, Try.ntmps47
    go_wp2_with (refine (CO.out (by simpa using h1) (by omega) _).mono ?_; rintro e w1 ⟨rfl, rfl⟩)
    go_ret
    exact ⟨by simp [h0, h1, h2], by go_grown⟩
set_option maxRecDepth 100000 in
theorem rcheck_any (k : ByteArray) (p : Option Addr) (l c : Nat) (b : Int) (w : World) :
    Calls Try.prog 44 #[.string k, .slice p l c, .int .u64 b] w fun e w' => e = .returned (.int .i64 (chk k l b)) ∧ Below w.heap.size w w' := by
  unfold chk
  have HV := Lib.hid (rvalid_any k)
  generalize keyB k = kb at HV
  go_enter Try.func44, Try.ntmps44
  go_wp2_with fail
  refine (HV.out _).mono ?_
  rintro e w1 ⟨rfl, rfl⟩
  cases kb
  · go_wp2_with fail
    go_ret
    exact ⟨by simp, by go_grown⟩
  · go_wp2_with fail
    all_goals go_ret
    all_goals refine ⟨ret_int ?_, by go_grown⟩
    all_goals first | (simp_all; done) | (simp; omega) | (simp_all; omega) | trace_state
set_option maxRecDepth 100000 in
theorem clone_nil (l c : Nat) (w : World) : Calls Try.prog 41 #[.slice none l c] w fun e w' => e = .returned (.slice none 0 0) ∧ Below w.heap.size w w' := by
  have q22 : ∀ (w : World) (a : Option Addr) (n c n' c' : Nat), (binOp .eql 32 (.slice a n c) (.slice none n' c')).run Try.prog w = .ok (.bool a.isNone) w := fun w a n c n' c' => Lib.run_eql_slice_nil w _ _ a n c n' c' Try.underlying32
  go_enter Try.func41, Try.ntmps41
  go_wp2_with fail
  go_ret
  exact ⟨rfl, by go_grown⟩
/-- bytes of a row of its own -/
theorem own_bytes {w1 : World} {base l : Nat} {e : TypeId} {v : Value} {zs : List Int} (h : w1.ownsRow base e 1 v l (zs.map (Value.int .u8))) (h1 : zs.length = l) (h2 : ∀ n ∈ zs, 0 ≤ n ∧ n < 256) (h4 : l ≤ maxLen) :
    ∃ p c, v = .slice p l c ∧ Ev.BytesOf w1 p l zs ∧ ∀ a, p = some a → base ≤ a.block ∧ a.block < w1.heap.size := by
  subst h1
  rcases own_cases h with ⟨rfl, rfl⟩ | ⟨g, cap, rfl, hb, hg, -, -, hc⟩
  · exact ⟨none, 0, rfl, ⟨rfl, h2, Lib.BytesIn.nil _ _ _, h4⟩, fun a h => by cases h⟩
  · refine ⟨some ⟨g, 0, none⟩, cap, rfl, ⟨rfl, h2, fun _ => ⟨g, 0, rfl, fun j hj => ?_⟩, h4⟩, fun a h => by cases h; exact ⟨hb, hg⟩⟩
    rw [Nat.zero_add, hc j hj]
    simp [List.getD, hj]
set_option maxRecDepth 100000 in
set_option maxHeartbeats 2000000 in
theorem clone_some (ad : Addr) (l c : Nat) (zs : List Int) (hl : l ≤ 100000) (w : World) (h : Ev.BytesOf w (some ad) l zs) :
    Calls Try.prog 41 #[.slice (some ad) l c] w fun e w' => ∃ p' c', e = .returned (.slice p' l c') ∧ Ev.BytesOf w' p' l zs ∧ Below w.heap.size w w' ∧ ∀ a, p' = some a → w.heap.size ≤ a.block := by
  have q22 : ∀ (w : World) (a : Option Addr) (n c n' c' : Nat), (binOp .eql 32 (.slice a n c) (.slice none n' c')).run Try.prog w = .ok (.bool a.isNone) w := fun w a n c n' c' => Lib.run_eql_slice_nil w _ _ a n c n' c' Try.underlying32
  have hnews := Lib.hid (news_of h)
  obtain ⟨h1, h2, -, h4⟩ := h
  obtain ⟨i0, hi, hzz⟩ := Option.map_eq_some_iff.1 (by kernel_rfl : (Try.prog.info? 5).map (fun i => (i.zero, i.size, i.bytes)) = some (some (.int .u8 0), 1, 1))
  simp only [Prod.mk.injEq] at hzz
  obtain ⟨hz0, hz1, hz2⟩ := hzz
  go_enter Try.func41, Try.ntmps41
  go_wp2_with (at_builtin; refine wpList_append_own _ rfl _ _ 32 rfl w.heap.size 5 i0 (.int .u8 0) 1 1 Try.underlying32 hi hz0 hz1 hz2 rfl (by decide) _ _ _ rfl (World.ownsRow_made w #[] 0 (Nat.le_refl _) (Nat.zero_le _) rfl) ad l c (zs.map (Value.int .u8)) rfl (by simp; omega) (hnews.out _ (by go_grown)) (by intro u hu; obtain ⟨x, _, rfl⟩ := List.mem_map.1 hu; rfl) (by unfold maxLen; omega) (by omega) (by simp) ?_)
  intro v' w1 hown hgrow hnil
  go_wp2
  go_ret
  obtain ⟨p', c', rfl, hb, hfr⟩ := own_bytes hown h1 h2 h4
  exact ⟨p', c', rfl, hb, (by go_grown : Below w.heap.size w (w.alloc (.cells #[] 5))).grown hgrow (by simp) (fun k hk => by simp [Value.ownBlock] at hk; omega), fun a h => (hfr a h).1⟩
theorem clone_any (p : Option Addr) (l c : Nat) (zs : List Int) (hl : l ≤ 100000) (w : World) (h : Ev.BytesOf w p l zs) :
    Calls Try.prog 41 #[.slice p l c] w fun e w' => ∃ p' c', e = .returned (.slice p' l c') ∧ Ev.BytesOf w' p' l zs ∧ Below w.heap.size w w' ∧ ∀ a, p' = some a → w.heap.size ≤ a.block := by
  cases p with
  | some ad => exact clone_some ad l c zs hl w h
  | none =>
    obtain ⟨h1, h2, h3, h4⟩ := h
    rcases Nat.eq_zero_or_pos l with rfl | hpos
    · refine (clone_nil 0 c w).mono ?_
      rintro e w' ⟨rfl, hb⟩
      exact ⟨none, 0, rfl, ⟨h1, h2, Lib.BytesIn.nil _ _ _, h4⟩, hb, fun a h => by cases h⟩
    · obtain ⟨b0, o0, e, -⟩ := h3 hpos
      cases e
theorem two4 {w w1 : World} {t u : TypeId} {a0 a1 a2 a3 b0 b1 b2 b3 : Value} (h : Below ((w.alloc (.cells #[a0, a1, a2, a3] t)).alloc (.cells #[b0, b1, b2, b3] u)).heap.size ((w.alloc (.cells #[a0, a1, a2, a3] t)).alloc (.cells #[b0, b1, b2, b3] u)) w1) :
    (w1.cell? ⟨w.heap.size, 0, none⟩ = some a0 ∧ w1.cell? ⟨w.heap.size, 1, none⟩ = some a1 ∧ w1.cell? ⟨w.heap.size, 2, none⟩ = some a2 ∧ w1.cell? ⟨w.heap.size, 3, none⟩ = some a3 ∧ w1.cell? ⟨w.heap.size + 1, 0, none⟩ = some b0 ∧ w1.cell? ⟨w.heap.size + 1, 1, none⟩ = some b1 ∧ w1.cell? ⟨w.heap.size + 1, 2, none⟩ = some b2 ∧ w1.cell? ⟨w.heap.size + 1, 3, none⟩ = some b3) ∧ (∀ o, w1.frozen? ⟨w.heap.size, o, none⟩ = false) ∧ (∀ o, w1.frozen? ⟨w.heap.size + 1, o, none⟩ = false) ∧ Below w.heap.size w w1 ∧ w.heap.size + 1 < w1.heap.size := by
  obtain ⟨c, f, s⟩ := bcell h
  have hs : ((w.alloc (.cells #[a0, a1, a2, a3] t)).alloc (.cells #[b0, b1, b2, b3] u)).heap.size = w.heap.size + 2 := by simp
  refine ⟨⟨?_, ?_, ?_, ?_, ?_, ?_, ?_, ?_⟩, fun o => ?_, fun o => ?_, tr (by go_grown) h, by omega⟩
  all_goals first | (rw [c _ _ (by omega)]; simp [go_sem]; done) | (rw [f _ _ (by omega)]; simp [go_sem]; done)
theorem _root_.Go.Proofs.Ytdhdaknfmpfegaa.Ev.BytesOf.set {w : World} {a : Option Addr} {l : Nat} {zs : List Int} (h : Ev.BytesOf w a l zs) {q o : Nat} {v : Value} (hne : ∀ x, a = some x → x.block ≠ q) : Ev.BytesOf (w.setCell ⟨q, o, none⟩ v) a l zs := by
  obtain ⟨h1, h2, h3, h4⟩ := h
  refine ⟨h1, h2, fun hl => ?_, h4⟩
  obtain ⟨p, o', rfl, hc⟩ := h3 hl
  refine ⟨p, o', rfl, fun i hi => ?_⟩
  have := hne _ rfl
  rw [← hc i hi]
  unfold World.cell?
  rw [Below.heap_setCell w ⟨q, o, none⟩ v p this]
set_option maxRecDepth 100000 in
set_option maxHeartbeats 2000000 in
theorem ecopy_any (k : ByteArray) (p : Option Addr) (l c : Nat) (zs : List Int) (d b : Int) (hl : l ≤ 100000) (w : World) (h : Ev.BytesOf w p l zs) :
    Calls Try.prog 39 #[ent k p l c d b] w fun e w' => ∃ p' c', e = .returned (ent k p' l c' d b) ∧ Ev.BytesOf w' p' l zs ∧ Below w.heap.size w w' ∧ ∀ a, p' = some a → w.heap.size ≤ a.block := by
  have HC := Lib.hid (fun (w1 : World) (b : Below w.heap.size w w1) => clone_any p l c zs hl w1 (h.below b))
  clear h
  go_enter Try.func39, Try.ntmps39
  go_wp2_with fail
  refine (HC.out _ (by go_grown)).mono ?_
  rintro e w1 ⟨p', c', rfl, hb, hbl, hfr⟩
  obtain ⟨⟨k0, k1, k2, k3, m0, m1, m2, m3⟩, f0, f1, bel, hsz⟩ := two4 hbl
  simp at hfr
  go_wp2_with fail
  refine bodyPost_ret (v := ent k p' l c' d b) (by simp [results, Try.results39, go_sem, k0, k1, k2, k3, m0, m1, m2, m3]) rfl ?_
  refine ⟨p', c', rfl, ?_, ?_, fun a h => by have := hfr a h; omega⟩
  · exact ((((hb.set (fun x hx => by have := hfr x hx; omega)).set (fun x hx => by have := hfr x hx; omega)).set (fun x hx => by have := hfr x hx; omega)).set (fun x hx => by have := hfr x hx; omega)).set (fun x hx => by have := hfr x hx; omega)
  · exact ((((bel.setCell (p := ⟨w.heap.size, 1, none⟩) (by simp) _).setCell (p := ⟨w.heap.size + 1, 0, none⟩) (by simp) _).setCell (p := ⟨w.heap.size + 1, 1, none⟩) (by simp) _).setCell (p := ⟨w.heap.size + 1, 2, none⟩) (by simp) _).setCell (p := ⟨w.heap.size + 1, 3, none⟩) (by simp) _
abbrev ent0 : Value := ent ⟨#[]⟩ none 0 0 0 0
set_option maxRecDepth 100000 in
set_option maxHeartbeats 2000000 in
theorem enew_any (k : ByteArray) (p : Option Addr) (l c : Nat) (zs : List Int) (d b : Int) (hl : l ≤ 100000) (w : World) (h : Ev.BytesOf w p l zs) :
    Calls Try.prog 42 #[.string k, .slice p l c, .int .u64 d, .int .u64 b] w fun e w' => Below w.heap.size w w' ∧
      ((chk k l b ≠ 0 ∧ e = .returned (.tuple #[ent0, .int .i64 (chk k l b)])) ∨
       (chk k l b = 0 ∧ ∃ p' c', e = .returned (.tuple #[ent k p' l c' d b, .int .i64 0]) ∧ Ev.BytesOf w' p' l zs ∧ ∀ a, p' = some a → w.heap.size ≤ a.block)) := by
  have HC := Lib.hid (fun (w1 : World) => echeck_any k p l c d b w1)
  have HP := Lib.hid (fun (w1 : World) (b' : Below w.heap.size w w1) => ecopy_any k p l c zs d b hl w1 (h.below b'))
  clear h
  generalize chk k l b = r at HC
  by_cases hr : r = 0
  · subst hr
    go_enter Try.func42, Try.ntmps42
    go_wp2_with fail
    refine (HC.out _).mono ?_
    rintro e w1 ⟨rfl, b1⟩
    obtain ⟨⟨k0, k1, k2, k3, m0, m1, m2, m3⟩, f0, f1, bel, hsz⟩ := two4 b1
    go_wp2_with fail
    refine (HP.out _ bel).mono ?_
    rintro e w2 ⟨p', c', rfl, hb, b2, hfr⟩
    clear k0 k1 k2 k3 m0 m1 m2 m3 f0 f1
    obtain ⟨⟨k0, k1, k2, k3, m0, m1, m2, m3⟩, f0, f1, bel2, hsz2⟩ := two4 (tr b1 b2)
    go_wp2_with fail
    refine bodyPost_ret (v := .tuple #[ent k p' l c' d b, .int .i64 0]) (by simp [results, Try.results42, go_sem, k0, k1, k2, k3, m0, m1, m2, m3]) rfl ?_
    refine ⟨?_, .inr ⟨trivial, p', c', rfl, ?_, fun a h => by have := hfr a h; have := bel.size; omega⟩⟩
    · exact (((bel2.setCell (p := ⟨w.heap.size, 0, none⟩) (by simp) _).setCell (p := ⟨w.heap.size, 1, none⟩) (by simp) _).setCell (p := ⟨w.heap.size, 2, none⟩) (by simp) _).setCell (p := ⟨w.heap.size, 3, none⟩) (by simp) _
    · exact (((hb.set (fun x hx => by have := hfr x hx; omega)).set (fun x hx => by have := hfr x hx; omega)).set (fun x hx => by have := hfr x hx; omega)).set (fun x hx => by have := hfr x hx; omega)
  · go_enter Try.func42, Try.ntmps42
    go_wp2_with fail
    refine (HC.out _).mono ?_
    rintro e w1 ⟨rfl, b1⟩
    obtain ⟨⟨k0, k1, k2, k3, m0, m1, m2, m3⟩, f0, f1, bel, hsz⟩ := two4 b1
    go_wp2_with fail
    refine bodyPost_ret (v := .tuple #[ent0, .int .i64 r]) (by simp [results, Try.results42, go_sem, k0, k1, k2, k3, m0, m1, m2, m3]) rfl ?_
    refine ⟨?_, .inl ⟨hr, rfl⟩⟩
    exact (((bel.setCell (p := ⟨w.heap.size, 0, none⟩) (by simp) _).setCell (p := ⟨w.heap.size, 1, none⟩) (by simp) _).setCell (p := ⟨w.heap.size, 2, none⟩) (by simp) _).setCell (p := ⟨w.heap.size, 3, none⟩) (by simp) _
end Go.Proofs.Ytdhdaknfmpfegaa.Ent
