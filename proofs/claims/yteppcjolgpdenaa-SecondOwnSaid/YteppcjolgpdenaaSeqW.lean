/-
  Second chance (layer 31): what Ring returns may be changed.
-/
import Derived.Test.YteppcjolgpdenaaSeqV
set_option linter.unusedVariables false
set_option linter.unusedSimpArgs false
namespace Go.Proofs.Yteppcjolgpdenaa.Seq
open Go Go.RowKit Kit Go.Maps
/-- a row of n values of a kind, in a block from B on -/
def RowW (w : World) (B : Nat) (o : Option Addr) (n : Nat) (e : TypeId) (P : Value → Prop) : Prop := n = 0 ∨ ∃ g cs, o = some ⟨g, 0, none⟩ ∧ B ≤ g ∧ w.heap[g]? = some (.cells cs e (0, 0)) ∧ ∀ j, j < n → ∃ u, cs[j]? = some u ∧ P u
theorem own_roww {α : Type} {w : World} {B : Nat} {e : TypeId} {v : Value} {l : List α} {f : α → Value} {P : Value → Prop} (h : w.ownsRow B e 1 v l.length (l.map f)) (hP : ∀ x, P (f x)) : ∃ o cap, v = .slice o l.length cap ∧ RowW w B o l.length e P := by
  obtain ⟨_, ⟨hv, hn⟩ | ⟨g, cap, cur, hv, hb, hg, hc, hm, hs, ht⟩⟩ := h
  · exact ⟨none, 0, by rw [hv, hn], .inl hn⟩
  · refine ⟨_, cap, hv, .inr ⟨g, cur, rfl, hb, hg, fun j hj => ?_⟩⟩
    have h2 : (cur.toList.take (l.length * 1))[j]? = some (f (l[j]'hj)) := by rw [ht]; simp [hj]
    rw [List.getElem?_take_of_lt (by omega)] at h2
    exact ⟨_, by simpa using h2, hP _⟩
theorem RowW.at_ {w : World} {B : Nat} {o : Option Addr} {n : Nat} {e : TypeId} {P : Value → Prop} (h : RowW w B o n e P) {j : Nat} (hj : j < n) : ∃ g u, o = some ⟨g, 0, none⟩ ∧ B ≤ g ∧ g < w.heap.size ∧ w.cell? ⟨g, j, none⟩ = some u ∧ P u ∧ (∀ i, w.frozen? ⟨g, i, none⟩ = false) ∧ ∀ z, P z → RowW (w.setCell ⟨g, j, none⟩ z) B o n e P := by
  rcases h with h | ⟨g, cs, h1, h2, h3, h4⟩
  · omega
  · obtain ⟨u, hu, hp⟩ := h4 j hj
    refine ⟨g, u, h1, h2, (Array.getElem?_eq_some_iff.1 h3).1, by simp only [World.cell?, h3]; exact hu, hp, fun i => by simp [World.frozen?, h3], fun z hz => .inr ⟨g, _, h1, h2, heap_set h3 z, fun i hi => ?_⟩⟩
    by_cases hij : i = j
    · subst hij
      exact ⟨z, by rw [Array.getElem?_setIfInBounds_self_of_lt (Array.getElem?_eq_some_iff.1 hu).1], hz⟩
    · obtain ⟨y, hy, hpy⟩ := h4 i hi
      exact ⟨y, by rw [Array.getElem?_setIfInBounds_ne (by omega)]; exact hy, hpy⟩
theorem RowW.other {w : World} {B g j : Nat} {o : Option Addr} {n : Nat} {e e' : TypeId} {P : Value → Prop} (h : RowW w B o n e P) {cs : Array Value} (hg : w.heap[g]? = some (.cells cs e' (0, 0))) (hne : e ≠ e') (z : Value) : RowW (w.setCell ⟨g, j, none⟩ z) B o n e P := by
  rcases h with h | ⟨g', cs', h1, h2, h3, h4⟩
  · exact .inl h
  · refine .inr ⟨g', cs', h1, h2, ?_, h4⟩
    rw [Below.heap_setCell _ _ _ g' (by
      show g' ≠ g
      rintro rfl
      rw [h3] at hg
      injection hg with hg
      injection hg with q1 q2 q3
      exact hne q2)]
    exact h3
theorem RowW.below {w w' : World} {B : Nat} {o : Option Addr} {n : Nat} {e : TypeId} {P : Value → Prop} (h : RowW w B o n e P) (hb : Below w.heap.size w w') : RowW w' B o n e P := by
  rcases h with h | ⟨g', cs', h1, h2, h3, h4⟩
  · exact .inl h
  · exact .inr ⟨g', cs', h1, h2, (hb.block _ (Array.getElem?_eq_some_iff.1 h3).1).trans h3, h4⟩
abbrev IsU (v : Value) : Prop := ∃ z, v = .int .u32 z
abbrev IsB (v : Value) : Prop := ∃ z, v = .bool z
/-- both rows -/
def Two (V w : World) (o1 : Option Addr) (n1 : Nat) (o2 : Option Addr) (n2 : Nat) : Prop := RowW w V.heap.size o1 n1 40 IsU ∧ RowW w V.heap.size o2 n2 4 IsB ∧ Below V.heap.size V w
theorem RowW.blk {w : World} {B : Nat} {o : Option Addr} {n : Nat} {e : TypeId} {P : Value → Prop} (h : RowW w B o n e P) {j : Nat} (hj : j < n) {g : Nat} (ho : o = some ⟨g, 0, none⟩) : ∃ cs, w.heap[g]? = some (.cells cs e (0, 0)) := by
  rcases h with h | ⟨g', cs', h1, h2, h3, h4⟩
  · omega
  · rw [h1] at ho
    simp at ho
    exact ⟨cs', ho ▸ h3⟩
theorem Two.at1 {V w : World} {o1 : Option Addr} {n1 : Nat} {o2 : Option Addr} {n2 : Nat} (h : Two V w o1 n1 o2 n2) {j : Nat} (hj : j < n1) : ∃ g z, o1 = some ⟨g, 0, none⟩ ∧ g < w.heap.size ∧ w.cell? ⟨g, j, none⟩ = some (.int .u32 z) ∧ (∀ i, w.frozen? ⟨g, i, none⟩ = false) ∧ ∀ z', Two V (w.setCell ⟨g, j, none⟩ (.int .u32 z')) o1 n1 o2 n2 := by
  obtain ⟨h1, h2, h3⟩ := h
  obtain ⟨g, u, e1, e2, e3, e4, ⟨z, rfl⟩, e6, e7⟩ := h1.at_ hj
  obtain ⟨cs, hcs⟩ := h1.blk hj e1
  exact ⟨g, z, e1, e3, e4, e6, fun z' => ⟨e7 _ ⟨z', rfl⟩, h2.other hcs (by decide) _, h3.setCell (p := ⟨g, j, none⟩) e2 _⟩⟩
theorem Two.at2 {V w : World} {o1 : Option Addr} {n1 : Nat} {o2 : Option Addr} {n2 : Nat} (h : Two V w o1 n1 o2 n2) {j : Nat} (hj : j < n2) : ∃ g z, o2 = some ⟨g, 0, none⟩ ∧ g < w.heap.size ∧ w.cell? ⟨g, j, none⟩ = some (.bool z) ∧ (∀ i, w.frozen? ⟨g, i, none⟩ = false) ∧ ∀ z', Two V (w.setCell ⟨g, j, none⟩ (.bool z')) o1 n1 o2 n2 := by
  obtain ⟨h1, h2, h3⟩ := h
  obtain ⟨g, u, e1, e2, e3, e4, ⟨z, rfl⟩, e6, e7⟩ := h2.at_ hj
  obtain ⟨cs, hcs⟩ := h2.blk hj e1
  exact ⟨g, z, e1, e3, e4, e6, fun z' => ⟨h1.other hcs (by decide) _, e7 _ ⟨z', rfl⟩, h3.setCell (p := ⟨g, j, none⟩) e2 _⟩⟩
set_option maxHeartbeats 1000000 in
set_option maxRecDepth 100000 in
theorem lown_bad {W : World} {n : Int} {a : Option Addr} {len cap : Nat} (hk : Kn W) (hbad : n < 1 ∨ 40 < n ∨ 100 < (len : Int)) :
    Calls Try.prog 4 #[.int .i64 n, .slice a len cap] W fun e w' => e = .returned (.bool true) ∧ Below W.heap.size W w' := by
  have HK := Lib.hid hk
  clear hk
  have h3 : n < 1 ∨ (¬ n < 1 ∧ 40 < n) ∨ (¬ n < 1 ∧ ¬ 40 < n ∧ 100 < (len : Int)) := by omega
  clear hbad
  rcases h3 with c1 | ⟨c1, c2⟩ | ⟨c1, c2, c3⟩ <;>
  · go_enter Try.func4, Try.ntmps4
    go_wp2_with fail
    refine (HK.out _ (Below.refl _ _)).mono ?_
    rintro e w3 ⟨rfl, b3⟩
    go_wp2_with fail
    go_ret
    exact ⟨rfl, b3⟩
set_option maxHeartbeats 1000000 in
set_option maxRecDepth 100000 in
theorem lown_ok {W : World} {n : Int} {a : Option Addr} {len cap : Nat} {f0 f1 : Nat → Int} (hacts : Acts W.heap.size W a len f0 f1) (hk : Kn W) (c1 : 1 ≤ n) (c2 : n ≤ 40) (c3 : len ≤ 100) :
    Calls Try.prog 4 #[.int .i64 n, .slice a len cap] W fun e w' => e = .returned (.bool true) ∧ Below W.heap.size W w' := by
  have HK := Lib.hid hk
  have HA := Lib.hid hacts
  have c3' : ¬ 100 < (len : Int) := by omega
  clear hk hacts
  go_enter Try.func4, Try.ntmps4
  go_wp2_with fail
  refine (snew_any c1 (by omega)).mono ?_
  rintro e w1 ⟨c, hi, rfl, s1, b1⟩
  have S1 := Lib.hid s1
  have B1 := Lib.hid b1
  have ht := s1.top
  clear s1 b1
  go_wp2_with fail
  refine (srnew_any c1 (by omega)).mono ?_
  rintro e w2 ⟨q, rfl, r2, hq, b2⟩
  have S2 := Lib.hid (S1.out.below b2)
  have R2 := Lib.hid r2
  have B2 := Lib.hid (tr B1.out b2)
  have hs2 := b2.size
  clear r2 b2 S1 B1
  have HPL := Lib.hid (fun w' hb => plays_any (acap := cap) (cap := n.toNat) (HA.out.below (tr B2.out hb) (Nat.le_refl _)) c3 (S2.out.below (W' := w') hb) (R2.out.of ((show Below w2.heap.size w2 w' from hb).block q R2.out.lt)) (Nat.le_refl _) (.inr (by omega)))
  rw [blanks_len] at HPL
  go_wp2_with fail
  refine (HPL.out _ (by go_grown)).mono ?_
  rintro e w3 ⟨c', lo', hi', q', cap', l', h', rfl, s3, r3, hd3, hl3, hlo3, hq3, b3⟩
  have B3 := Lib.hid ((tr B2.out (by go_grown)).trans (b3.below (Nat.le_refl _) (by have := B2.out.size; simp; omega)))
  have X3 : BoxR w3 w2.heap.size _ _ := (b3.block _ (by simp) (by omega)).trans (MapKept.heap_alloc w2 (.cells #[.slice (some ⟨q, 0, none⟩) n.toNat n.toNat, .int .i64 0] 30)).1
  obtain ⟨z0, z1, zf⟩ := X3.all
  have hs3 := b3.size
  simp only [World.size_alloc] at hs3 hlo3 hq3
  have hql := R2.out.lt
  have kb : Keep w2.heap.size (w2.heap.size + 1) w3 ((w3.setCell ⟨w2.heap.size, 0, none⟩ (.slice (some ⟨q', 0, none⟩) n.toNat cap')).setCell ⟨w2.heap.size, 1, none⟩ (.int .i64 (h' : Int))) := ((Keep.refl _ _ w3).setCell (Nat.le_refl _) (Nat.lt_succ_self _) _).setCell (Nat.le_refl _) (Nat.lt_succ_self _) _
  have S4 := Lib.hid (s3.keep kb (by omega))
  have R4 := Lib.hid (r3.keep kb (by omega))
  have B4 := Lib.hid (B3.out.trans (kb.below (n := W.heap.size) (by have := B2.out.size; omega) (by have := B3.out.size; omega)))
  have X4 := Lib.hid (BoxR.set2 X3 (.slice (some ⟨q', 0, none⟩) n.toNat cap') (.int .i64 (h' : Int)))
  clear HPL b3 kb s3 r3 S2 R2 X3
  go_wp2_with fail
  generalize (w3.setCell ⟨w2.heap.size, 0, none⟩ (.slice (some ⟨q', 0, none⟩) n.toNat cap')).setCell ⟨w2.heap.size, 1, none⟩ (.int .i64 (h' : Int)) = V at *
  clear z0 z1 zf
  refine (ring_any S4.out).mono ?_
  rintro e w5 ⟨v1, v2, rfl, k5, m5, b5⟩
  have hkl := keys_len l'
  have hml := marks_len l'
  obtain ⟨o1, p1, rfl, g1⟩ := own_roww (P := IsU) k5 (fun x => ⟨x, rfl⟩)
  obtain ⟨o2, p2, rfl, g2⟩ := own_roww (P := IsB) m5 (fun x => ⟨x, rfl⟩)
  have T5 := Lib.hid (show Two V w5 o1 (keysOf l').length o2 (marksOf l').length from ⟨g1, g2, b5⟩)
  clear g1 g2 b5 k5 m5
  generalize (keysOf l').length = n1 at *
  generalize (marksOf l').length = n2 at *
  go_wp2_with fail
  go_loopw [12] (fun i wr => ∃ j : Nat, j ≤ n1 ∧ i = .int .i64 j ∧ Two V wr o1 n1 o2 n2) (fun i _ => n1 - (intOf i).toNat)
  case atStart => exact ⟨0, by omega, rfl, T5.out⟩
  case round =>
    clear T5
    obtain ⟨j, hj, rfl, hT⟩ := hrel
    have T := Lib.hid hT
    clear hT
    by_cases hlt : j < n1
    · obtain ⟨g, z, rfl, hg, hz, hf, hset⟩ := T.out.at1 hlt
      have HS := Lib.hid hset
      clear hset
      go_wp2_with fail
      go_roundw
      case rel => exact ⟨j + 1, by omega, by go_num, HS.out _⟩
      case measure => simp [intOf] <;> omega
    · obtain rfl : j = n1 := by omega
      go_wp2_with fail
      go_loopw [13] (fun i wr => ∃ m : Nat, m ≤ n2 ∧ i = .int .i64 m ∧ Two V wr o1 j o2 n2) (fun i _ => n2 - (intOf i).toNat)
      case atStart => exact ⟨0, by omega, rfl, T.out⟩
      case round =>
        clear T
        obtain ⟨m, hm, rfl, hT⟩ := hrel
        have T := Lib.hid hT
        clear hT
        by_cases hlt2 : m < n2
        · obtain ⟨g, z, rfl, hg, hz, hf, hset⟩ := T.out.at2 hlt2
          have HS := Lib.hid hset
          clear hset
          go_wp2_with fail
          go_roundw
          case rel => exact ⟨m + 1, by omega, by go_num, HS.out _⟩
          case measure => simp [intOf] <;> omega
        · obtain rfl : m = n2 := by omega
          have bV := T.out.2.2
          have HEQ := Lib.hid (equal_any (cap := cap') (S4.out.below bV) (R4.out.of (bV.block _ R4.out.lt)) (k := 1) (by decide) (by decide))
          rw [hl3] at HEQ
          obtain ⟨z0, z1, zf⟩ := BoxR.all ((bV.block _ (BoxR.lt X4.out)).trans X4.out)
          have B6 := Lib.hid (tr B4.out bV)
          clear bV
          go_wp2_with fail
          refine HEQ.out.mono ?_
          rintro e w6 ⟨rfl, b6⟩
          have B7 := Lib.hid (tr B6.out b6)
          clear b6 z0 z1 zf HEQ
          go_wp2_with fail
          refine (HK.out _ B7.out).mono ?_
          rintro e w7 ⟨rfl, b7⟩
          go_wp2_with fail
          go_ret
          exact ⟨rfl, tr B7.out b7⟩
theorem lown_any {W : World} {n : Int} {a : Option Addr} {len cap : Nat} {f0 f1 : Nat → Int} (hacts : Acts W.heap.size W a len f0 f1) (hk : Kn W) :
    Calls Try.prog 4 #[.int .i64 n, .slice a len cap] W fun e w' => e = .returned (.bool true) ∧ Below W.heap.size W w' := by
  by_cases h : n < 1 ∨ 40 < n ∨ 100 < (len : Int)
  · exact lown_bad hk h
  · exact lown_ok hacts hk (by omega) (by omega) (by omega)
end Go.Proofs.Yteppcjolgpdenaa.Seq
