/-
  Links (layer 14): the nodes of a list.
-/
import Derived.Test.YtggimkfepcgaoaaLnkJ
set_option linter.unusedVariables false
set_option linter.unusedSimpArgs false
section
namespace Go.Proofs.Ytggimkfepcgaoaa.Lnk
open Go Go.RowKit Kit
def Ks (w : World) (B : Nat) (v : Value) (l : List Int) : Prop := w.ownsRow B 38 1 v l.length (l.map (Value.int .u32))
theorem info_u32 : (Try.prog.info? 38).map (fun i => (i.size, i.bytes, i.zero)) = some (1, 4, some (.int .u32 0)) := by kernel_rfl
theorem u_parts : ∃ i, Try.prog.info? 38 = some i ∧ i.zero = some (.int .u32 0) ∧ i.size = 1 ∧ i.bytes = 4 := by
  have h := info_u32
  cases hi : Try.prog.info? 38 with
  | none => rw [hi] at h; cases h
  | some i => rw [hi] at h; simp at h; exact ⟨i, rfl, h.2.2, h.1, h.2.1⟩
theorem ks_below {w w' : World} {B : Nat} {v : Value} {l : List Int} (h : Ks w B v l) (hb : Below w.heap.size w w') : Ks w' B v l := by
  obtain ⟨h0, ⟨hv, hn⟩ | ⟨g, cap, cur, hv, hb', hg, hr⟩⟩ := h
  · exact ⟨h0, .inl ⟨hv, hn⟩⟩
  · exact ⟨h0, .inr ⟨g, cap, cur, hv, hb', (hb.block g (Array.getElem?_eq_some_iff.1 hg).1).trans hg, hr⟩⟩
theorem Ks.lift {w : World} {B C : Nat} {v : Value} {l : List Int} (h : Ks w B v l) (hb : C ≤ B) : Ks w C v l := by
  obtain ⟨h0, ⟨hv, hn⟩ | ⟨g, cap, cur, hv, hb', hg, hr⟩⟩ := h
  · exact ⟨h0, .inl ⟨hv, hn⟩⟩
  · exact ⟨h0, .inr ⟨g, cap, cur, hv, Nat.le_trans hb hb', hg, hr⟩⟩
def ints (l : List Nat) : List Int := l.map fun x : Nat => (x : Int)
theorem ints_len (l : List Nat) : (ints l).length = l.length := by unfold ints; simp
theorem ints_take {l : List Nat} {i x : Nat} (h : l[i]? = some x) : ints (l.take (i + 1)) = ints (l.take i) ++ [(x : Int)] := by
  unfold ints
  rw [List.take_add_one, h, List.map_append]
  rfl
def slen : Value → Nat
  | .slice _ n _ => n
  | _ => 0
theorem ks_slen {w : World} {B : Nat} {v : Value} {l : List Int} (h : Ks w B v l) : slen v = l.length := by
  obtain ⟨h0, ⟨rfl, hn⟩ | ⟨g, cap, cur, rfl, hb', hg, hr⟩⟩ := h
  · exact hn.symm
  · rfl
/-- a result that is a new row -/
def Kl (e : Ending) (w : World) (B : Nat) (l : List Int) : Prop := ∃ v, e = .returned v ∧ Ks w B v l
theorem fst_drop {l : List Nat} {i x : Nat} (h : l[i]? = some x) (b : Nat) : fst (l.drop i) b = x := by
  obtain ⟨hi, he⟩ := List.getElem?_eq_some_iff.1 h
  rw [List.drop_eq_getElem_cons hi]
  exact he
theorem Ring.at_ {F : Fd} {N : Nat} {Ls : List (List Nat)} (R : Ring F N Ls) {h i x : Nat} {l : List Nat} (hl : Ls[h]? = some l) (hx : l[i]? = some x) : F.nx x = fst (l.drop (i + 1)) (N + h) := by
  obtain ⟨hi, he⟩ := List.getElem?_eq_some_iff.1 hx
  have hd : l = l.take i ++ x :: l.drop (i + 1) := by
    conv => lhs; rw [← List.take_append_drop i l, List.drop_eq_getElem_cons hi, he]
  rw [hd] at hl
  exact (R.parts hl).2.2.2
section
variable {w : World} {c q r cq cr N : Nat} {F : Fd} {Ls : List (List Nat)}
set_option maxRecDepth 100000 in
set_option maxHeartbeats 2000000 in
theorem list_any (H : Lo w c q r cq cr N F Ls) {h : Nat} {l : List Nat} (hl : Ls[h]? = some l) :
    Calls Try.prog 88 #[.pointer (some ⟨c, 0, none⟩), .int .i64 (h : Int)] w fun e w' => Kl e w' w.heap.size (ints l) ∧ Below w.heap.size w w' := by
  have hh := (List.getElem?_eq_some_iff.1 hl).1
  obtain ⟨k0, k1, k2⟩ := H.cells
  obtain ⟨l0, l1⟩ := H.lw.at_ hl
  have hll := H.len_le hl
  have H1 := Lib.hid (fun w' (hb : Below w.heap.size w w') => root_any (H.below hb) hh)
  have i1 : (h : Int) < (Ls.length : Int) := by omega
  have i2 : (0 : Int) ≤ (h : Int) := by omega
  have HNX := Lib.hid H.ring
  have HFW := Lib.hid (fun w' (hb : Below w.heap.size w w') => (show w'.cell? ⟨c, 1, none⟩ = some (.slice (some ⟨q, 0, none⟩) (N + Ls.length) cq) ∧ Fw w' q (N + Ls.length) F from ⟨(H.below hb).cells.2.1, (H.below hb).fw⟩))
  have HME := Lib.hid (H.ring.mem h l · hl)
  have n1 := H.n1
  obtain ⟨i0, hi0, hz0, hz1, hz2⟩ := u_parts
  obtain ⟨W1, hr, own, bW1⟩ : ∃ W1, (Instr.makeSlice 39 (.int .i64 0) (.int .i64 (l.length : Int))).run Try.prog w = .ok (.slice (some ⟨w.heap.size, 0, none⟩) 0 l.length) W1 ∧ W1.ownsRow w.heap.size 38 1 (.slice (some ⟨w.heap.size, 0, none⟩) 0 l.length) 0 [] ∧ Below w.heap.size w W1 := by
    have hr := run_make (P := Try.prog) w 39 38 i0 (.int .u32 0) Try.underlying39 hi0 hz0 .i64 .i64 0 (l.length : Int) (Int.le_refl _) (by omega) (by rw [hz2]; omega) (by omega)
    rw [hz1] at hr
    simp only [Int.toNat_zero, Int.toNat_natCast] at hr
    exact ⟨_, hr, World.ownsRow_made w _ l.length (Nat.le_refl _) (by unfold maxLen; omega) (size_madeCells _ _), by go_grown⟩
  have OWN := Lib.hid own
  have BW1 := Lib.hid bW1
  obtain ⟨L, hL⟩ : ∃ L, l.length = L := ⟨_, rfl⟩
  obtain ⟨R, hR⟩ : ∃ R, N + h = R := ⟨_, rfl⟩
  rw [hL] at hr hll
  rw [hL] at l0
  have HLL := Lib.hid hL
  have HR := Lib.hid hR
  have hRl : R < N + Ls.length := by omega
  have hRN : N ≤ R := by omega
  rw [hR] at H1
  have HFS := Lib.hid (show F.nx R = fst (l.drop 0) R from by rw [← hR]; exact (H.ring.ch h l hl).first)
  clear H own bW1 hL hR
  go_enter Try.func88, Try.ntmps88
  go_wp2_with fail
  refine (H1.out _ BW1.out).mono ?_
  rintro e w2 ⟨rfl, rfl⟩
  obtain ⟨k1', fw'⟩ := HFW.out _ BW1.out
  obtain ⟨e0, e1, e2⟩ := fw'.at_ (i := R) (by omega)
  have i3 : (R : Int) < (N : Int) + (Ls.length : Int) := by omega
  have i4 : (0 : Int) ≤ (R : Int) := by omega
  clear e0 e2 fw'
  rw [HFS.out] at e1
  have FW := Lib.hid (fun w' (hb : Below w.heap.size w w') => (HFW.out w' hb).2)
  go_wp2_with fail
  go_loopw [5, 7] (fun v5 v7 wr => ∃ k, k ≤ L ∧ v7 = .int .u32 ((fst (l.drop k) R : Nat) : Int) ∧ Ks wr w.heap.size v5 (ints (l.take k)) ∧ Below w.heap.size w wr) (fun v5 _ _ => L - slen v5)
  case atStart => exact ⟨0, by omega, rfl, (by have h := OWN.out; rw [HLL.out] at h; exact h), BW1.out⟩
  case round =>
    obtain ⟨k, hk, rfl, ho, bw⟩ := hrel
    have KS := Lib.hid ho
    have BW := Lib.hid bw
    by_cases hkl : k = L
    · subst hkl
      have hf : fst (l.drop k) R = R := by rw [List.drop_of_length_le (by rw [HLL.out]; omega)]; rfl
      have END := Lib.hid (show Kl (.returned u5) wr w.heap.size (ints l) from ⟨_, rfl, by have := KS.out; rwa [List.take_of_length_le (by rw [HLL.out]; omega)] at this⟩)
      rw [hf]
      clear ho bw
      go_wp2_with fail
      go_ret
      exact ⟨END.out, BW.out⟩
    · have hlt : k < L := by omega
      obtain ⟨x, hx⟩ : ∃ x, l[k]? = some x := ⟨l[k]'(by rw [HLL.out]; omega), List.getElem?_eq_getElem _⟩
      have hxN := (HME.out x (List.mem_of_getElem? hx)).1
      rw [fst_drop hx]
      have hne : ((x : Int) != (R : Int)) = true := by rw [bne_iff_ne]; omega
      have hne2 : ((x : Int) == (R : Int)) = false := by rw [beq_eq_false_iff_ne]; omega
      have HNE := Lib.hid (HNX.out.at_ hl hx)
      rw [HR.out] at HNE
      have HIT := Lib.hid (ints_take hx)
      have hlen : (ints (l.take k)).length ≤ 4194304 := by rw [ints_len, List.length_take]; omega
      have HLEN := Lib.hid hlen
      have i5 : (x : Int) < (N : Int) + (Ls.length : Int) := by omega
      have i6 : (0 : Int) ≤ (x : Int) := by omega
      have hsl : slen u5 = k := by rw [ks_slen ho, ints_len, List.length_take]; have := HLL.out; omega
      have HSL := Lib.hid hsl
      clear ho bw hx hsl
      go_wp2_with (at_builtin; refine wpList_app1 rfl (.tmp 38) (.tmp 40) 39 rfl w.heap.size 38 i0 (.int .u32 0) 4 Try.underlying39 hi0 hz0 hz1 hz2 rfl _ _ _ (.int .u32 (x : Int)) rfl KS.out rfl rfl (by have := HLEN.out; omega) (by omega) BW.out.size ?_; intro v' w' o' b' s'; have BN := Lib.hid (BW.out.trans b'); have ON := Lib.hid o'; clear o' b'; obtain ⟨k1', fw'⟩ := HFW.out _ BN.out; obtain ⟨e0, e1, e2⟩ := fw'.at_ (i := x) (by omega); clear e0 e2 fw')
      have KN := Lib.hid (show Ks w' w.heap.size v' (ints (l.take (k + 1))) from by unfold Ks; rw [HIT.out]; simpa [List.map_append] using ON.out)
      refine ⟨⟨k + 1, by omega, by rw [HNE.out], KN.out, BN.out⟩, ?_⟩
      rw [ks_slen KN.out, HSL.out, ints_len, List.length_take]
      have := HLL.out
      omega
end
end Go.Proofs.Ytggimkfepcgaoaa.Lnk
end
section
namespace Go.Proofs.Ytggimkfepcgaoaa.Lnk
open Go Go.RowKit Kit
theorem add_block (x : Addr) (m : Nat) : (x.add m).block = x.block := by unfold Addr.add; split <;> rfl
theorem add2 (g j : Nat) : (⟨g, 0, none⟩ : Addr).add j = ⟨g, j, none⟩ := by unfold Addr.add; split <;> simp_all
def Is (v : Bool) (p : Prop) : Prop := v = true ↔ p
def Says (e : Ending) (p : Prop) : Prop := ∃ v : Bool, e = .returned (.bool v) ∧ Is v p
theorem Is.no {p : Prop} (h : ¬ p) : Is false p := ⟨fun h1 => (by cases h1), fun h1 => absurd h1 h⟩
theorem Is.yes {p : Prop} (h : p) : Is true p := ⟨fun _ => h, fun _ => rfl⟩
theorem Says.no {p : Prop} {e : Ending} (he : e = .returned (.bool false)) (h : ¬ p) : Says e p := ⟨false, he, Is.no h⟩
theorem Says.yes {p : Prop} {e : Ending} (he : e = .returned (.bool true)) (h : p) : Says e p := ⟨true, he, Is.yes h⟩
/-- a list of slots that is read -/
def Ru (w : World) (a : Option Addr) (l : List Int) : Prop := ∀ i x, l[i]? = some x → ∃ y, a = some y ∧ y.block < w.heap.size ∧ w.cell? (y.add i) = some (.int .u32 x)
theorem Ru.below {w w' : World} {a : Option Addr} {l : List Int} (h : Ru w a l) (hb : Below w.heap.size w w') : Ru w' a l := fun i x hx => by
  obtain ⟨y, h0, h1, h2⟩ := h i x hx
  exact ⟨y, h0, Nat.lt_of_lt_of_le h1 hb.size, by rw [hb.cell (by rw [add_block]; exact h1)]; exact h2⟩
theorem Ru.take {w : World} {a : Option Addr} {l : List Int} (h : Ru w a l) (n : Nat) : Ru w a (l.take n) := fun i x hx => by
  rw [List.getElem?_take] at hx
  split at hx
  · exact h i x hx
  · cases hx
theorem ks_ru {w : World} {B : Nat} {v : Value} {l : List Int} (h : Ks w B v l) : ∃ p c, v = .slice p l.length c ∧ Ru w p l := by
  rcases own_cases h with ⟨rfl, rfl⟩ | ⟨g, cap, rfl, h1, h2, h3, h4, h5⟩
  · exact ⟨none, 0, rfl, fun i x hx => by simp at hx⟩
  · refine ⟨_, cap, rfl, fun i x hx => ?_⟩
    obtain ⟨hi, he⟩ := List.getElem?_eq_some_iff.1 hx
    exact ⟨_, rfl, h2, by rw [add2]; have := h5 i hi; rw [he] at this; exact this⟩
theorem same_to {α : Type} {l1 l2 : List α} {j : Nat} {z : α} (h : l1.take j = l2.take j) (h1 : l1[j]? = some z) (h2 : l2[j]? = some z) : l1.take (j + 1) = l2.take (j + 1) := by
  rw [List.take_add_one, List.take_add_one, h, h1, h2]
theorem same_all {α : Type} {l1 l2 : List α} {n : Nat} (h : l1.take n = l2.take n) (h1 : l1.length = n) (h2 : l2.length = n) : l1 = l2 := by
  rwa [List.take_of_length_le (Nat.le_of_eq h1), List.take_of_length_le (Nat.le_of_eq h2)] at h
theorem other_at {α : Type} {l1 l2 : List α} {j : Nat} {x y : α} (h1 : l1[j]? = some x) (h2 : l2[j]? = some y) (h : ¬ x = y) : ¬ l1 = l2 := fun he => by
  rw [he, h2] at h1; cases h1; exact h rfl
set_option maxRecDepth 100000 in
theorem fsame_any {w : World} {p1 p2 : Option Addr} {n1 n2 c1 c2 : Nat} {l1 l2 : List Int} (h1 : l1.length = n1) (h2 : l2.length = n2) (r1 : Ru w p1 l1) (r2 : Ru w p2 l2) (hn1 : n1 ≤ 1000000) (hn2 : n2 ≤ 1000000) :
    Calls Try.prog 61 #[.slice p1 n1 c1, .slice p2 n2 c2] w fun e w' => Says e (l1 = l2) ∧ Below w.heap.size w w' := by
  by_cases hn : n1 = n2
  · subst hn
    have H1 := Lib.hid h1
    have H2 := Lib.hid h2
    have R1 := Lib.hid (fun w' (hb : Below w.heap.size w w') => r1.below hb)
    have R2 := Lib.hid (fun w' (hb : Below w.heap.size w w') => r2.below hb)
    clear r1 r2 h1 h2 hn2
    go_enter Try.func61, Try.ntmps61
    go_wp2_with fail
    go_loopw [5] (fun i wr => ∃ j : Nat, j ≤ n1 ∧ i = .int .i64 j ∧ l1.take j = l2.take j ∧ Below w.heap.size w wr) (fun i _ => n1 - (intOf i).toNat)
    case atStart => exact ⟨0, by omega, rfl, by simp, Below.refl _ _⟩
    case round =>
      obtain ⟨j, hj, rfl, hT, bW⟩ := hrel
      have BW := Lib.hid bW
      have HT := Lib.hid hT
      clear bW hT
      by_cases hlt : j < n1
      · obtain ⟨z1, hz1⟩ : ∃ p, l1[j]? = some p := ⟨l1[j]'(by rw [H1.out]; omega), List.getElem?_eq_getElem _⟩
        obtain ⟨z2, hz2⟩ : ∃ p, l2[j]? = some p := ⟨l2[j]'(by rw [H2.out]; omega), List.getElem?_eq_getElem _⟩
        obtain ⟨y1, rfl, _, x1⟩ := R1.out _ BW.out j z1 hz1
        obtain ⟨y2, rfl, _, x2⟩ := R2.out _ BW.out j z2 hz2
        have hlt' : (j : Int) < (n1 : Int) := by omega
        have j0 : (0 : Int) ≤ (j : Int) := by omega
        have HS := Lib.hid (fun w' (hb : Below w.heap.size w w') => (show w'.cell? (y1.add j) = some (.int .u32 z1) ∧ w'.cell? (y2.add j) = some (.int .u32 z2) ∧ Below w.heap.size w w' from by
          obtain ⟨y, hy, _, e1⟩ := R1.out _ hb j z1 hz1
          obtain ⟨y', hy', _, e2⟩ := R2.out _ hb j z2 hz2
          cases hy; cases hy'
          exact ⟨e1, e2, hb⟩))
        have Z1 := Lib.hid hz1
        have Z2 := Lib.hid hz2
        clear hz1 hz2
        by_cases hz : z1 = z2
        · subst hz
          go_wp2_with fail
          go_region_held3 (fun w' => w'.cell? (y1.add j) = some (.int .u32 z1) ∧ w'.cell? (y2.add j) = some (.int .u32 z1) ∧ Below w.heap.size w w')
            (first
              | (exact HS.out _ (Below.drew BW.out))
              | assumption
              | fail)
            (first | fail)
          have B2 := Lib.hid (Below.drew BW.out)
          go_wp2_with fail
          go_roundw
          case rel => exact ⟨j + 1, by omega, by go_num, same_to HT.out Z1.out Z2.out, B2.out⟩
          case measure => simp [intOf]; omega
        · have hb : (z1 == z2) = false := by rw [beq_eq_false_iff_ne]; exact hz
          have hb2 : (z1 != z2) = true := by rw [bne_iff_ne]; exact hz
          have HZ := Lib.hid hz
          clear hz
          go_wp2_with fail
          go_region_held3 (fun w' => w'.cell? (y1.add j) = some (.int .u32 z1) ∧ w'.cell? (y2.add j) = some (.int .u32 z2) ∧ Below w.heap.size w w')
            (first
              | (exact HS.out _ (Below.drew BW.out))
              | assumption
              | fail)
            (first | fail)
          have B2 := Lib.hid (Below.drew BW.out)
          go_wp2_with fail
          go_ret
          exact ⟨Says.no rfl (other_at Z1.out Z2.out HZ.out), B2.out⟩
      · obtain rfl : j = n1 := by omega
        go_wp2_with fail
        go_ret
        exact ⟨Says.yes rfl (same_all HT.out H1.out H2.out), BW.out⟩
  · have hb : ((n1 : Int) == (n2 : Int)) = false := by rw [beq_eq_false_iff_ne]; omega
    have hb2 : ((n1 : Int) != (n2 : Int)) = true := by rw [bne_iff_ne]; omega
    have HX := Lib.hid (show ¬ l1 = l2 from fun he => by rw [he] at h1; omega)
    clear r1 r2 h1 h2
    go_enter Try.func61, Try.ntmps61
    go_wp2_with fail
    go_ret
    exact ⟨Says.no rfl HX.out, Below.refl _ _⟩
end Go.Proofs.Ytggimkfepcgaoaa.Lnk
end
section
namespace Go.Proofs.Ytggimkfepcgaoaa.Lnk
open Go Go.RowKit Kit
section
variable {w : World} {c q r cq cr N : Nat} {F : Fd} {Ls : List (List Nat)}
set_option maxRecDepth 100000 in
theorem Back_badH (H : Lo w c q r cq cr N F Ls) {h n : Int} (hh : ¬ (0 ≤ h ∧ h < (Ls.length : Int))) :
    Calls Try.prog 21 #[.pointer (some ⟨c, 0, none⟩), .int .i64 h, .int .u32 n] w fun e w' => e = .returned (.int .i64 2) ∧ Below w.heap.size w w' := by
  have HA := Lib.hid (fun fv => add_badH (n := n) H fv hh)
  clear H
  clear hh
  go_enter Try.func21, Try.ntmps21
  go_wp2_with fail
  refine (HA.out _).mono ?_
  rintro e w1 ⟨rfl, b1⟩
  have B1 := Lib.hid (b1)
  clear b1
  go_wp2_with fail
  go_ret
  exact ⟨rfl, B1.out⟩
set_option maxRecDepth 100000 in
theorem Back_badN (H : Lo w c q r cq cr N F Ls) {h : Nat} {n : Int} (hh : h < Ls.length) (n0 : (N : Int) ≤ n) (n1 : n < 4294967296) :
    Calls Try.prog 21 #[.pointer (some ⟨c, 0, none⟩), .int .i64 (h : Int), .int .u32 n] w fun e w' => e = .returned (.int .i64 2) ∧ Below w.heap.size w w' := by
  have HA := Lib.hid (fun fv => add_badN (n := n) H fv hh n0 n1)
  clear H
  clear hh n0 n1
  go_enter Try.func21, Try.ntmps21
  go_wp2_with fail
  refine (HA.out _).mono ?_
  rintro e w1 ⟨rfl, b1⟩
  have B1 := Lib.hid (b1)
  clear b1
  go_wp2_with fail
  go_ret
  exact ⟨rfl, B1.out⟩
set_option maxRecDepth 100000 in
theorem Back_busy (H : Lo w c q r cq cr N F Ls) {h n : Nat} (hh : h < Ls.length) (hn : n < N) (hf : F.hd n ≠ -1) :
    Calls Try.prog 21 #[.pointer (some ⟨c, 0, none⟩), .int .i64 (h : Int), .int .u32 (n : Int)] w fun e w' => e = .returned (.int .i64 11) ∧ Below w.heap.size w w' := by
  have HA := Lib.hid (fun fv => add_busy (n := n) H fv hh hn hf)
  clear H
  clear hh hn hf
  go_enter Try.func21, Try.ntmps21
  go_wp2_with fail
  refine (HA.out _).mono ?_
  rintro e w1 ⟨rfl, b1⟩
  have B1 := Lib.hid (b1)
  clear b1
  go_wp2_with fail
  go_ret
  exact ⟨rfl, B1.out⟩
set_option maxRecDepth 100000 in
theorem Front_badH (H : Lo w c q r cq cr N F Ls) {h n : Int} (hh : ¬ (0 ≤ h ∧ h < (Ls.length : Int))) :
    Calls Try.prog 24 #[.pointer (some ⟨c, 0, none⟩), .int .i64 h, .int .u32 n] w fun e w' => e = .returned (.int .i64 2) ∧ Below w.heap.size w w' := by
  have HB := Lib.hid (box_below w #[.pointer (some ⟨c, 0, none⟩)] 28)
  have HA := Lib.hid (fun fv => add_badH (n := n) (H.below HB.out) fv hh)
  clear H
  clear hh
  go_enter Try.func24, Try.ntmps24
  go_wp2_with fail
  refine (HA.out _).mono ?_
  rintro e w1 ⟨rfl, b1⟩
  have B1 := Lib.hid (tr HB.out b1)
  clear b1
  go_wp2_with fail
  go_ret
  exact ⟨rfl, B1.out⟩
set_option maxRecDepth 100000 in
theorem Front_badN (H : Lo w c q r cq cr N F Ls) {h : Nat} {n : Int} (hh : h < Ls.length) (n0 : (N : Int) ≤ n) (n1 : n < 4294967296) :
    Calls Try.prog 24 #[.pointer (some ⟨c, 0, none⟩), .int .i64 (h : Int), .int .u32 n] w fun e w' => e = .returned (.int .i64 2) ∧ Below w.heap.size w w' := by
  have HB := Lib.hid (box_below w #[.pointer (some ⟨c, 0, none⟩)] 28)
  have HA := Lib.hid (fun fv => add_badN (n := n) (H.below HB.out) fv hh n0 n1)
  clear H
  clear hh n0 n1
  go_enter Try.func24, Try.ntmps24
  go_wp2_with fail
  refine (HA.out _).mono ?_
  rintro e w1 ⟨rfl, b1⟩
  have B1 := Lib.hid (tr HB.out b1)
  clear b1
  go_wp2_with fail
  go_ret
  exact ⟨rfl, B1.out⟩
set_option maxRecDepth 100000 in
theorem Front_busy (H : Lo w c q r cq cr N F Ls) {h n : Nat} (hh : h < Ls.length) (hn : n < N) (hf : F.hd n ≠ -1) :
    Calls Try.prog 24 #[.pointer (some ⟨c, 0, none⟩), .int .i64 (h : Int), .int .u32 (n : Int)] w fun e w' => e = .returned (.int .i64 11) ∧ Below w.heap.size w w' := by
  have HB := Lib.hid (box_below w #[.pointer (some ⟨c, 0, none⟩)] 28)
  have HA := Lib.hid (fun fv => add_busy (n := n) (H.below HB.out) fv hh hn hf)
  clear H
  clear hh hn hf
  go_enter Try.func24, Try.ntmps24
  go_wp2_with fail
  refine (HA.out _).mono ?_
  rintro e w1 ⟨rfl, b1⟩
  have B1 := Lib.hid (tr HB.out b1)
  clear b1
  go_wp2_with fail
  go_ret
  exact ⟨rfl, B1.out⟩
end
end Go.Proofs.Ytggimkfepcgaoaa.Lnk
end
