/-
  Entries (layer 4): the program's Parse.
-/
import Derived.Test.YtlpepmhpnmnpkaaDoorEnpH
import Derived.Test.YtlpepmhpnmnpkaaDoorEntR
set_option linter.unusedVariables false
set_option linter.unusedSimpArgs false
namespace Go.Proofs.YtlpepmhpnmnpkaaDoor.Ent
open Go Go.RowKit Kit
/-- the variable that strings.Index reads holds some number -/
def Mx (w : World) : Prop := ∃ m, w.cell? ⟨2, 0, none⟩ = some (.int .i64 m)
theorem Mx.below {w w' : World} (h : Mx w) (hb : Below w.heap.size w w') : Mx w' := by
  obtain ⟨m, h⟩ := h
  exact ⟨m, by rw [hb.cell (World.block_lt_of_cell? w _ h)]; exact h⟩
theorem cut_any (s x : List UInt8) (hs : s.length ≤ 100000) (w : World) (hm : Mx w) :
    Calls Tryd.prog 55 #[.string (str s), .string (str x)] w fun e w' => e = .returned (.tuple #[.string (str (Lib.cut s x).1), .string (str (Lib.cut s x).2.1), .bool (Lib.cut s x).2.2]) ∧ Below w.heap.size w w' := by
  obtain ⟨m, hm⟩ := hm
  refine (Tryd.strings_Cut (str s) (str x) m w (by rw [str_size]; omega) hm).mono ?_
  rintro e w' ⟨rfl, n, rfl⟩
  exact ⟨rfl, below_drewN (Below.refl _ _) n⟩
/-- ParseUint, with its error -/
theorem pu_any (l : List UInt8) (hl : l.length ≤ 100000) (w : World) (he : Num.Errs w) :
    Calls Tryd.prog 56 #[.string (str l), .int .i64 10, .int .i64 64] w fun e w' => (∃ u er, e = .returned (.tuple #[.int .u64 (u : Int), er]) ∧ 0 ≤ u ∧ u ≤ 18446744073709551615 ∧ ((er = .nilIface ∧ Lib.parseUintB 64 l = .ok u.toNat) ∨ (∃ t v, er = .iface t v ∧ ∀ x, Lib.parseUintB 64 l ≠ .ok x))) ∧ Below w.heap.size w w' := by
  cases hp : Lib.parseUintB 64 l with
  | ok u =>
    refine (Tryd.strconv_ParseUint_10_at64_ok (str l) (by rw [str_size]; omega) u hp w).mono ?_
    rintro e w1 ⟨rfl, hw1⟩
    have := Lib.parseUintB_le hp
    exact ⟨⟨(u : Int), _, rfl, by omega, by omega, .inl ⟨rfl, by simp⟩⟩, Num.bw hw1⟩
  | «syntax» =>
    obtain ⟨ev, hv, hev⟩ := he.syn
    refine (Tryd.strconv_ParseUint_10_at64_syntax (str l) (by rw [str_size]; omega) hp ev w hv hev).mono ?_
    rintro e w1 ⟨NN, rfl, hN1, hN2, hb1⟩
    exact ⟨⟨0, _, rfl, by omega, by omega, .inr ⟨_, _, rfl, fun x => by simp⟩⟩, hb1⟩
  | range =>
    obtain ⟨ev, hv, hev⟩ := he.rng
    refine (Tryd.strconv_ParseUint_10_at64_range (str l) (by rw [str_size]; omega) hp ev w hv hev).mono ?_
    rintro e w1 ⟨NN, rfl, hN1, hN2, hb1⟩
    exact ⟨⟨18446744073709551615, _, rfl, by omega, by omega, .inr ⟨_, _, rfl, fun x => by simp⟩⟩, hb1⟩
structure Gv (w : World) : Prop where
  vals : Vals w
  mx : Mx w
  tabs : Num.Tabs w
  errs : Num.Errs w
theorem Gv.below {w w' : World} (h : Gv w) (hb : Below w.heap.size w w') : Gv w' := ⟨h.vals.below hb, h.mx.below hb, h.tabs.below hb, h.errs.below hb⟩
theorem readHex2 (s : List UInt8) (hl : s.length ≤ 2000) (W : World) (hv : Vals W) :
    Calls Tryd.prog 57 #[.string (str s)] W fun e w' => ∃ p c, e = .returned (.tuple #[.slice p ((rdh s).getD []).length c, .bool (rdh s).isSome]) ∧ Ev.BytesOf w' p ((rdh s).getD []).length ((rdh s).getD []) ∧ (∀ a, p = some a → W.heap.size ≤ a.block) ∧ Below W.heap.size W w' := by
  refine (readHex_any s hl hv).mono ?_
  rintro e w1 ⟨h1, h2⟩
  cases hr : rdh s with
  | none =>
    rw [hr] at h1
    exact ⟨none, 0, h1, BytesOf.nothing w1, fun a h => (by cases h), h2⟩
  | some zs =>
    rw [hr] at h1
    obtain ⟨v, rfl, ho⟩ := h1
    obtain ⟨hz, hll⟩ := rdh_bytes hr
    obtain ⟨p, c, rfl, hb, hf⟩ := own_bytes ho rfl hz (by unfold maxLen; omega)
    exact ⟨p, c, rfl, hb, fun a h => (hf a h).1, h2⟩
/-- nothing but block b is written; there may be new ones -/
structure ButG (b : Nat) (w w' : World) : Prop where
  os : w'.os = w.os
  tape : w'.tape = w.tape
  output : w'.output = w.output
  size : w.heap.size ≤ w'.heap.size
  block : ∀ k, k < w.heap.size → k ≠ b → w'.heap[k]? = w.heap[k]?
theorem ButG.below {b n : Nat} {w w' : World} (h : ButG b w w') (hb : n ≤ b) (hn : n ≤ w.heap.size) : Below n w w' :=
  ⟨h.os, h.tape, h.output, h.size, fun k hk => h.block k (by omega) (by omega)⟩
theorem ButG.of {b : Nat} {w w' : World} (h : Below w.heap.size w w') : ButG b w w' := ⟨h.os, h.tape, h.output, h.size, fun k hk _ => h.block k hk⟩
theorem ButG.setCell {b j : Nat} {w w' : World} (h : ButG b w w') (v : Value) : ButG b w (w'.setCell ⟨b, j, none⟩ v) :=
  ⟨h.os, h.tape, h.output, by simpa using h.size, fun k hk hn => (Below.heap_setCell w' ⟨b, j, none⟩ v k hn).trans (h.block k hk hn)⟩
theorem ButG.trans {b : Nat} {x y z : World} (h : ButG b x y) (k : ButG b y z) : ButG b x z :=
  ⟨k.os.trans h.os, k.tape.trans h.tape, k.output.trans h.output, Nat.le_trans h.size k.size, fun j hj hn => (k.block j (Nat.lt_of_lt_of_le hj h.size) hn).trans (h.block j hj hn)⟩
theorem ButG.bytes {b : Nat} {w w' : World} {a : Option Addr} {l : Nat} {zs : List Int} (h : ButG b w w') (hb : Ev.BytesOf w a l zs) (hne : ∀ x, a = some x → x.block ≠ b) : Ev.BytesOf w' a l zs := by
  have hb' := hb
  obtain ⟨h1, h2, h3, h4⟩ := hb
  refine ⟨h1, h2, fun hl => ?_, h4⟩
  obtain ⟨p, o', rfl, hc⟩ := h3 hl
  have hlt := BytesOf.lt hb' hl
  exact ⟨p, o', rfl, fun i hi => (World.cell?_of_block (a := ⟨p, o' + i, none⟩) (h.block p hlt (hne _ rfl))).trans (hc i hi)⟩
/-- a variable that holds a string -/
def BoxS (w : World) (q : Nat) (r : List UInt8) : Prop := w.heap[q]? = some (.cells #[.string (str r)] 9 (0, 0))
theorem BoxS.is {w : World} {q : Nat} {r : List UInt8} (h : BoxS w q r) : w.heap[q]? = some (.cells #[.string (str r)] 9 (0, 0)) := h
theorem BoxS.all {w : World} {q : Nat} {r : List UInt8} (h : BoxS w q r) : w.cell? ⟨q, 0, none⟩ = some (.string (str r)) ∧ ∀ j, w.frozen? ⟨q, j, none⟩ = false := by
  have h := h.is
  refine ⟨?_, fun j => ?_⟩ <;> simp [World.cell?, World.frozen?, h]
theorem BoxS.lt {w : World} {q : Nat} {r : List UInt8} (h : BoxS w q r) : q < w.heap.size := (Array.getElem?_eq_some_iff.1 h.is).1
theorem BoxS.below {w w' : World} {q : Nat} {r : List UInt8} (h : BoxS w q r) (hb : Below w.heap.size w w') : BoxS w' q r := by
  unfold BoxS
  exact (hb.block q (BoxS.lt h)).trans h.is
theorem BoxS.set_ {w : World} {q : Nat} {r : List UInt8} (h : BoxS w q r) (r' : List UInt8) : BoxS (w.setCell ⟨q, 0, none⟩ (.string (str r'))) q r' := by
  have h1 := heap_set (j := 0) h.is (.string (str r'))
  unfold BoxS
  simpa using h1
set_option maxRecDepth 100000 in
theorem part_any {w : World} {q : Nat} {r : List UInt8} (h : BoxS w q r) (hl : r.length ≤ 100000) (hm : Mx w) :
    Calls Tryd.prog 54 #[.pointer (some ⟨q, 0, none⟩)] w fun e w' => e = .returned (.string (str (Lib.cut r [32]).1)) ∧ BoxS w' q (Lib.cut r [32]).2.1 ∧ ButG q w w' := by
  have HC := Lib.hid (fun w' (hb : Below w.heap.size w w') => cut_any r [32] hl w' (hm.below hb))
  obtain ⟨c0, cf⟩ := h.all
  have H := Lib.hid h
  have hlt := h.lt
  clear h hm
  generalize Lib.cut r [32] = C at *
  obtain ⟨x, y, z⟩ := C
  simp only at HC ⊢
  go_enter Tryd.func54, Tryd.ntmps54
  go_wp2_with fail
  refine (HC.out _ (by go_grown)).mono ?_
  rintro e w1 ⟨rfl, b1⟩
  have B1 := Lib.hid ((by go_grown : Below w.heap.size w _).trans (b1.mono (by simp)))
  have H1 := Lib.hid (H.out.below B1.out)
  obtain ⟨d0, df⟩ := H1.out.all
  go_wp2_with fail
  go_ret
  exact ⟨rfl, H1.out.set_ y, (ButG.of B1.out).setCell _⟩
structure St (W w : World) (r : List UInt8) : Prop where
  rb : BoxE w W.heap.size ⟨#[]⟩ none 0 0 0 0
  bs : BoxS w (W.heap.size + 1) r
  b : Below W.heap.size W w
theorem St.below {W w v : World} {r : List UInt8} (h : St W w r) (hb : Below w.heap.size w v) : St W v r := ⟨h.rb.below hb, h.bs.below hb, tr h.b hb⟩
theorem St.part {W w v : World} {r r' : List UInt8} (h : St W w r) (hb : ButG (W.heap.size + 1) w v) (hs : BoxS v (W.heap.size + 1) r') : St W v r' := by
  have hl := h.rb.lt
  refine ⟨?_, hs, h.b.trans (hb.below (by omega) (by omega))⟩
  unfold BoxE
  exact (hb.block _ hl (by omega)).trans h.rb.is
theorem St.start (W : World) (s : List UInt8) : St W ((W.alloc (.cells #[.string ⟨#[]⟩, .slice none 0 0, .int .u64 0, .int .u64 0] 33)).alloc (.cells #[.string (str s)] 9)) s := by
  refine ⟨(BoxE.new W ⟨#[]⟩ none 0 0 0 0).below (by go_grown), ?_, by go_grown⟩
  unfold BoxS
  have := (MapKept.heap_alloc (W.alloc (.cells #[.string ⟨#[]⟩, .slice none 0 0, .int .u64 0, .int .u64 0] 33)) (.cells #[.string (str s)] 9)).1
  rw [World.size_alloc] at this
  exact this
def epR (W w' : World) (e : Ending) : Option En → Prop
  | some x => ∃ p c, e = .returned (.tuple #[ent x.k p x.zs.length c x.d x.b, .int .i64 0]) ∧ Ev.BytesOf w' p x.zs.length x.zs ∧ ∀ a, p = some a → W.heap.size ≤ a.block
  | none => e = .returned (.tuple #[ent0, .int .i64 6])
def epm (s : List UInt8) (pu : Lib.NumEnd Nat) (pr : Int × Int) (o2 o3 : Option (List Int)) : Option En := match pu, pr, o2, o3 with
  | .ok u, (d, 0), some k, some zs => if chk (strOfNums k) zs.length (u : Int) = 0 ∧ (⟨strOfNums k, zs, d, (u : Int)⟩ : En).line = s then some ⟨strOfNums k, zs, d, (u : Int)⟩ else none
  | _, _, _, _ => none
theorem eparse_eq (s : List UInt8) : eparse s = epm s (Lib.parseUintB 64 (Lib.cut s [32]).1) (Num.pres (str (Lib.cut (Lib.cut s [32]).2.1 [32]).1)) (rdh (Lib.cut (Lib.cut (Lib.cut s [32]).2.1 [32]).2.1 [32]).1) (rdh (Lib.cut (Lib.cut (Lib.cut (Lib.cut s [32]).2.1 [32]).2.1 [32]).2.1 [32]).1) := rfl
theorem epm_no {s : List UInt8} {pu : Lib.NumEnd Nat} {d f : Int} {o2 o3 : Option (List Int)} (h : (∀ x, pu ≠ .ok x) ∨ f ≠ 0 ∨ o2.isSome = false ∨ o3.isSome = false) : epm s pu (d, f) o2 o3 = none := by
  cases pu with
  | ok u =>
    rcases h with h | h | h | h
    · exact (h u rfl).elim
    · unfold epm
      split
      · simp_all
      · rfl
    · cases o2 with
      | none => unfold epm; split <;> first | rfl | contradiction
      | some k => cases h
    · cases o3 with
      | none => unfold epm; split <;> first | rfl | contradiction
      | some k => cases h
  | «syntax» => rfl
  | range => rfl
theorem pres_two (s : ByteArray) : (Num.pres s).2 = 0 ∨ (Num.pres s).2 = 6 := by
  rw [Num.pres_rpres]
  simp only
  split
  · exact .inl rfl
  · exact .inr rfl
set_option maxRecDepth 100000 in
set_option maxHeartbeats 4000000 in
theorem eparse_any (s : List UInt8) (hl : s.length ≤ 2000) (W : World) (hg : Gv W) :
    Calls Tryd.prog 29 #[.string (str s)] W fun e w' => epR W w' e (eparse s) ∧ Below W.heap.size W w' := by
  have HG := Lib.hid (fun w (hb : Below W.heap.size W w) => hg.below hb)
  clear hg
  have l0 := cut1_le s [32]
  have m0 := cut2_le s [32]
  obtain ⟨p0, r0, hc0⟩ : ∃ p r, (Lib.cut s [32]).1 = p ∧ (Lib.cut s [32]).2.1 = r := ⟨_, _, rfl, rfl⟩
  rw [hc0.1] at l0
  rw [hc0.2] at m0
  have l1 := cut1_le r0 [32]
  have m1 := cut2_le r0 [32]
  obtain ⟨p1, r1, hc1⟩ : ∃ p r, (Lib.cut r0 [32]).1 = p ∧ (Lib.cut r0 [32]).2.1 = r := ⟨_, _, rfl, rfl⟩
  rw [hc1.1] at l1
  rw [hc1.2] at m1
  have l2 := cut1_le r1 [32]
  have m2 := cut2_le r1 [32]
  obtain ⟨p2, r2, hc2⟩ : ∃ p r, (Lib.cut r1 [32]).1 = p ∧ (Lib.cut r1 [32]).2.1 = r := ⟨_, _, rfl, rfl⟩
  rw [hc2.1] at l2
  rw [hc2.2] at m2
  have l3 := cut1_le r2 [32]
  obtain ⟨p3, r3, hc3⟩ : ∃ p r, (Lib.cut r2 [32]).1 = p ∧ (Lib.cut r2 [32]).2.1 = r := ⟨_, _, rfl, rfl⟩
  rw [hc3.1] at l3
  have HEP := Lib.hid (show eparse s = epm s (Lib.parseUintB 64 p0) (Num.pres (str p1)) (rdh p2) (rdh p3) from by rw [eparse_eq, hc0.1, hc0.2, hc1.1, hc1.2, hc2.1, hc2.2, hc3.1])
  have HP0 := Lib.hid (fun w (h : St W w s) => part_any (r := s) h.bs (by omega) (HG.out w h.b).mx)
  have HP1 := Lib.hid (fun w (h : St W w r0) => part_any (r := r0) h.bs (by omega) (HG.out w h.b).mx)
  have HP2 := Lib.hid (fun w (h : St W w r1) => part_any (r := r1) h.bs (by omega) (HG.out w h.b).mx)
  have HP3 := Lib.hid (fun w (h : St W w r2) => part_any (r := r2) h.bs (by omega) (HG.out w h.b).mx)
  rw [hc0.1, hc0.2] at HP0
  rw [hc1.1, hc1.2] at HP1
  rw [hc2.1, hc2.2] at HP2
  rw [hc3.1, hc3.2] at HP3
  have HU := Lib.hid (fun w (h : Below W.heap.size W w) => pu_any p0 (by omega) w (HG.out w h).errs)
  have HT := Lib.hid (fun w (h : Below W.heap.size W w) => Num.parse_any (str p1) (by rw [str_size]; omega) w (HG.out w h).tabs (HG.out w h).errs)
  have HH2 := Lib.hid (fun w (h : Below W.heap.size W w) => readHex2 p2 (by omega) w (HG.out w h).vals)
  have HH3 := Lib.hid (fun w (h : Below W.heap.size W w) => readHex2 p3 (by omega) w (HG.out w h).vals)
  have hd := pres_rng (str p1)
  have hd2 := pres_two (str p1)
  clear hc0 hc1 hc2 hc3 l0 m0 l1 m1 l2 m2 l3
  obtain ⟨d, f1, hx1⟩ : ∃ b f, Num.pres (str p1) = (b, f) := ⟨_, _, rfl⟩
  rw [hx1] at hd hd2 HT HEP
  simp only at hd hd2 HT
  clear hx1
  have HBB := Lib.hid (show (∀ z, rdh p2 = some z → ∀ n ∈ z, 0 ≤ n ∧ n < 256) ∧ (∀ z, rdh p3 = some z → ∀ n ∈ z, 0 ≤ n ∧ n < 256) from ⟨fun z hz => (rdh_bytes hz).1, fun z hz => (rdh_bytes hz).1⟩)
  generalize rdh p2 = o2 at *
  generalize rdh p3 = o3 at *
  generalize Lib.parseUintB 64 p0 = PU at *
  go_enter Tryd.func29, Tryd.ntmps29
  go_wp2_with fail
  refine (HP0.out _ (St.start W s)).mono ?_
  rintro e w1 ⟨rfl, s1, k1⟩
  have S1 := Lib.hid ((St.start W s).part k1 s1)
  clear s1 k1
  go_wp2_with fail
  refine (HU.out _ S1.out.b).mono ?_
  rintro e w2 ⟨⟨u, er, rfl, u0, u1, her⟩, b2⟩
  have S2 := Lib.hid (S1.out.below b2)
  clear b2 S1
  go_wp2_with fail
  refine (HP1.out _ S2.out).mono ?_
  rintro e w3 ⟨rfl, s3, k3⟩
  have S3 := Lib.hid (S2.out.part k3 s3)
  clear s3 k3 S2
  go_wp2_with fail
  refine (HT.out _ S3.out.b).mono ?_
  rintro e w4 ⟨rfl, b4⟩
  have S4 := Lib.hid (S3.out.below b4)
  clear b4 S3
  go_wp2_with fail
  refine (HP2.out _ S4.out).mono ?_
  rintro e w5 ⟨rfl, s5, k5⟩
  have S5 := Lib.hid (S4.out.part k5 s5)
  clear s5 k5 S4
  go_wp2_with fail
  refine (HH2.out _ S5.out.b).mono ?_
  rintro e w6 ⟨q6, c6, rfl, by6, fr6, b6⟩
  have S6 := Lib.hid (S5.out.below b6)
  have BY6 := Lib.hid by6
  have hs5 := S5.out.bs.lt
  clear b6 by6 S5
  go_wp2_with fail
  refine (HP3.out _ S6.out).mono ?_
  rintro e w7 ⟨rfl, s7, k7⟩
  have S7 := Lib.hid (S6.out.part k7 s7)
  have BY7 := Lib.hid (k7.bytes BY6.out (fun a h => by have := fr6 a h; omega))
  clear s7 k7 S6 BY6
  go_wp2_with fail
  refine (HH3.out _ S7.out.b).mono ?_
  rintro e w8 ⟨q8, c8, rfl, by8, fr8, b8⟩
  have S8 := Lib.hid (S7.out.below b8)
  have BY8 := Lib.hid by8
  have hs7 := S7.out.bs.lt
  have hcv := (BY7.out.below b8).str (P := Tryd.prog) c6 (src := 31) (e := 5) (dst := 9) Tryd.underlying31 (by kernel_rfl) Tryd.underlying9
  have hs8 := b8.size
  clear b8 by8 S7 HP0 HP1 HP2 HP3 HU HT HH2 HH3
  have hrl := S8.out.bs.lt
  have hrl2 : W.heap.size < w8.heap.size := by omega
  obtain ⟨y0, y1, y2, y3, yf⟩ := BoxE.all S8.out.rb
  rcases her with ⟨rfl, hpu⟩ | ⟨t1, t2, rfl, hpu⟩
  rotate_left
  · have HN := Lib.hid (show eparse s = none from by rw [HEP.out]; exact epm_no (.inl hpu))
    go_wp2_with fail
    refine ret_ent rfl rfl rfl (BoxE.set4 S8.out.rb) rfl ?_
    exact ⟨by rw [HN.out]; rfl, set4_below S8.out.b (Nat.le_refl _)⟩
  rcases hd2 with rfl | rfl
  rotate_left
  · have HN := Lib.hid (show eparse s = none from by rw [HEP.out]; exact epm_no (.inr (.inl (by decide))))
    go_wp2_with fail
    refine ret_ent rfl rfl rfl (BoxE.set4 S8.out.rb) rfl ?_
    exact ⟨by rw [HN.out]; rfl, set4_below S8.out.b (Nat.le_refl _)⟩
  cases o2 with
  | none =>
    have HN := Lib.hid (show eparse s = none from by rw [HEP.out]; exact epm_no (.inr (.inr (.inl rfl))))
    simp only [Option.isSome_none]
    go_wp2_with fail
    refine ret_ent rfl rfl rfl (BoxE.set4 S8.out.rb) rfl ?_
    exact ⟨by rw [HN.out]; rfl, set4_below S8.out.b (Nat.le_refl _)⟩
  | some z2 =>
    cases o3 with
    | none =>
      have HN := Lib.hid (show eparse s = none from by rw [HEP.out]; exact epm_no (.inr (.inr (.inr rfl))))
      simp only [Option.isSome_none, Option.isSome_some]
      go_wp2_with fail
      refine ret_ent rfl rfl rfl (BoxE.set4 S8.out.rb) rfl ?_
      exact ⟨by rw [HN.out]; rfl, set4_below S8.out.b (Nat.le_refl _)⟩
    | some z3 =>
      simp only [Option.isSome_some, Option.getD_some] at *
      obtain ⟨un, rfl⟩ : ∃ n : Nat, u = n := ⟨u.toNat, by omega⟩
      have HE2 := Lib.hid (show eparse s = if chk (strOfNums z2) z3.length (un : Int) = 0 ∧ (⟨strOfNums z2, z3, d, (un : Int)⟩ : En).line = s then some ⟨strOfNums z2, z3, d, (un : Int)⟩ else none from by
        rw [HEP.out, hpu]; rfl)
      clear HEP hpu HBB
      by_cases hch : chk (strOfNums z2) z3.length (un : Int) = 0
      rotate_left
      · have HN := Lib.hid (show eparse s = none from by rw [HE2.out, if_neg (fun h => hch h.1)])
        have HTX := Lib.hid (fun w => etext_bad (strOfNums z2) q8 z3.length c8 d (un : Int) w hch)
        have hcb : (chk (strOfNums z2) z3.length (un : Int) != 0) = true := by simp [hch]
        generalize chk (strOfNums z2) z3.length (un : Int) = ce at *
        go_wp2_with fail
        refine (HTX.out _).mono ?_
        rintro e w9 ⟨rfl, b9⟩
        have S9 := Lib.hid ((S8.out.below (by go_grown)).below b9)
        clear b9 y0 y1 y2 y3 yf hcv
        obtain ⟨y0, y1, y2, y3, yf⟩ := BoxE.all S9.out.rb
        go_wp2_with fail
        refine ret_ent rfl rfl rfl (BoxE.set4 S9.out.rb) rfl ?_
        exact ⟨by rw [HN.out]; rfl, set4_below S9.out.b (Nat.le_refl _)⟩
      · obtain ⟨k250, l65⟩ := chk_ok hch
        have HTX := Lib.hid (fun w (hb : Below w8.heap.size w8 w) => etext_ok (strOfNums z2) q8 z3.length c8 z3 d (un : Int) hd.1 hd.2 (by omega) (by omega) w (BY8.out.below hb) (HG.out w (tr S8.out.b hb)).tabs hch k250 l65)
        rw [rowB_eq] at HTX
        obtain ⟨A, hA⟩ : ∃ A, rowB (strOfNums z2) z3 d (un : Int) = A := ⟨_, rfl⟩
        rw [hA] at HTX
        by_cases hAs : A = s
        rotate_left
        · have HN := Lib.hid (show eparse s = none from by rw [HE2.out, if_neg]; rintro ⟨-, h⟩; exact hAs (hA.symm.trans h))
          have hAb : ((str A).toList == (str s).toList) = false := by
            rw [beq_str, ByteArray.toList_eq]; exact decide_eq_false hAs
          generalize str A = TA at *
          clear hA hch hAs
          go_wp2_with fail
          refine (HTX.out _ (by go_grown)).mono ?_
          rintro e w9 ⟨rfl, b9⟩
          have S9 := Lib.hid ((S8.out.below (by go_grown)).below b9)
          clear b9 y0 y1 y2 y3 yf hcv
          obtain ⟨y0, y1, y2, y3, yf⟩ := BoxE.all S9.out.rb
          go_wp2_with fail
          refine ret_ent rfl rfl rfl (BoxE.set4 S9.out.rb) rfl ?_
          exact ⟨by rw [HN.out]; rfl, set4_below S9.out.b (Nat.le_refl _)⟩
        · have HN := Lib.hid (show eparse s = some ⟨strOfNums z2, z3, d, (un : Int)⟩ from by rw [HE2.out, if_pos ⟨hch, hA.trans hAs⟩])
          rw [hAs] at HTX
          clear hA hch hAs
          go_wp2_with fail
          refine (HTX.out _ (by go_grown)).mono ?_
          rintro e w9 ⟨rfl, b9⟩
          have b89 : Below w8.heap.size w8 (w8.alloc (.cells #[.string (strOfNums z2), .slice q8 z3.length c8, .int .u64 d, .int .u64 (un : Int)] 33)) := by go_grown
          have S9 := Lib.hid ((S8.out.below b89).below b9)
          have BY9 := Lib.hid ((BY8.out.below b89).below b9)
          have E9 := BoxE.all ((BoxE.new w8 (strOfNums z2) q8 z3.length c8 d (un : Int)).below b9)
          have hs9 := b9.size
          simp only [World.size_alloc] at hs9
          clear b9 b89 y0 y1 y2 y3 yf hcv
          obtain ⟨y0, y1, y2, y3, yf⟩ := BoxE.all S9.out.rb
          obtain ⟨e0, e1, e2, e3, ef⟩ := E9
          go_wp2_with fail
          refine ret_ent rfl rfl rfl (BoxE.set4 S9.out.rb) rfl ?_
          rw [HN.out]
          exact ⟨⟨q8, c8, rfl, set4_bytes BY9.out (fun a h => by have := fr8 a h; omega), fun a h => by have := fr8 a h; omega⟩, set4_below S9.out.b (Nat.le_refl _)⟩
end Go.Proofs.YtlpepmhpnmnpkaaDoor.Ent
