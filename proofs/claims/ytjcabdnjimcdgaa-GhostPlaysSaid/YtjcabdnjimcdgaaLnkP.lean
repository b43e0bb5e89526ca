/-
  Links (layer 14): the nodes of a list.
-/
import Derived.Test.YtjcabdnjimcdgaaLnkI
set_option linter.unusedVariables false
set_option linter.unusedSimpArgs false
namespace Go.Proofs.Ytjcabdnjimcdgaa.Lnk
open Go Go.RowKit Kit
def Ks (w : World) (B : Nat) (v : Value) (l : List Int) : Prop := w.ownsRow B 38 1 v l.length (l.map (Value.int .u32))
theorem info_u32 : (Try.prog.info? 38).map (fun i => (i.size, i.bytes, i.zero)) = some (1, 4, some (.int .u32 0)) := by kernel_rfl
theorem u_parts : ∃ i, Try.prog.info? 38 = some i ∧ i.zero = some (.int .u32 0) ∧ i.size = 1 ∧ i.bytes = 4 := by
  have h := info_u32
  cases hi : Try.prog.info? 38 with
  | none => rw [hi] at h; cases h
  | some i => rw [hi] at h; simp at h; exact ⟨i, rfl, h.2.2, h.1, h.2.1⟩
theorem ks_below {w w' : World} {B : Nat} {v : Value} {l : List Int} (h : Ks w B v l) (hb : Below w.heap.size w w') : Ks w' B v l := by
  obtain ⟨h0, ⟨hv, hn⟩ | ⟨g, cap, cur, hv, hb', hg, hr⟩⟩ := h
  · exact ⟨h0, .inl ⟨hv, hn⟩⟩
  · exact ⟨h0, .inr ⟨g, cap, cur, hv, hb', (hb.block g (Array.getElem?_eq_some_iff.1 hg).1).trans hg, hr⟩⟩
theorem Ks.lift {w : World} {B C : Nat} {v : Value} {l : List Int} (h : Ks w B v l) (hb : C ≤ B) : Ks w C v l := by
  obtain ⟨h0, ⟨hv, hn⟩ | ⟨g, cap, cur, hv, hb', hg, hr⟩⟩ := h
  · exact ⟨h0, .inl ⟨hv, hn⟩⟩
  · exact ⟨h0, .inr ⟨g, cap, cur, hv, Nat.le_trans hb hb', hg, hr⟩⟩
def ints (l : List Nat) : List Int := l.map fun x : Nat => (x : Int)
theorem ints_len (l : List Nat) : (ints l).length = l.length := by unfold ints; simp
theorem ints_take {l : List Nat} {i x : Nat} (h : l[i]? = some x) : ints (l.take (i + 1)) = ints (l.take i) ++ [(x : Int)] := by
  unfold ints
  rw [List.take_add_one, h, List.map_append]
  rfl
def slen : Value → Nat
  | .slice _ n _ => n
  | _ => 0
theorem ks_slen {w : World} {B : Nat} {v : Value} {l : List Int} (h : Ks w B v l) : slen v = l.length := by
  obtain ⟨h0, ⟨rfl, hn⟩ | ⟨g, cap, cur, rfl, hb', hg, hr⟩⟩ := h
  · exact hn.symm
  · rfl
/-- a result that is a new row -/
def Kl (e : Ending) (w : World) (B : Nat) (l : List Int) : Prop := ∃ v, e = .returned v ∧ Ks w B v l
theorem fst_drop {l : List Nat} {i x : Nat} (h : l[i]? = some x) (b : Nat) : fst (l.drop i) b = x := by
  obtain ⟨hi, he⟩ := List.getElem?_eq_some_iff.1 h
  rw [List.drop_eq_getElem_cons hi]
  exact he
theorem Ring.at_ {F : Fd} {N : Nat} {Ls : List (List Nat)} (R : Ring F N Ls) {h i x : Nat} {l : List Nat} (hl : Ls[h]? = some l) (hx : l[i]? = some x) : F.nx x = fst (l.drop (i + 1)) (N + h) := by
  obtain ⟨hi, he⟩ := List.getElem?_eq_some_iff.1 hx
  have hd : l = l.take i ++ x :: l.drop (i + 1) := by
    conv => lhs; rw [← List.take_append_drop i l, List.drop_eq_getElem_cons hi, he]
  rw [hd] at hl
  exact (R.parts hl).2.2.2
section
variable {w : World} {c q r cq cr N : Nat} {F : Fd} {Ls : List (List Nat)}
set_option maxRecDepth 100000 in
set_option maxHeartbeats 2000000 in
theorem list_any (H : Lo w c q r cq cr N F Ls) {h : Nat} {l : List Nat} (hl : Ls[h]? = some l) :
    Calls Try.prog 99 #[.pointer (some ⟨c, 0, none⟩), .int .i64 (h : Int)] w fun e w' => Kl e w' w.heap.size (ints l) ∧ Below w.heap.size w w' := by
  have hh := (List.getElem?_eq_some_iff.1 hl).1
  obtain ⟨k0, k1, k2⟩ := H.cells
  obtain ⟨l0, l1⟩ := H.lw.at_ hl
  have hll := H.len_le hl
  have H1 := Lib.hid (fun w' (hb : Below w.heap.size w w') => root_any (H.below hb) hh)
  have i1 : (h : Int) < (Ls.length : Int) := by omega
  have i2 : (0 : Int) ≤ (h : Int) := by omega
  have HNX := Lib.hid H.ring
  have HFW := Lib.hid (fun w' (hb : Below w.heap.size w w') => (show w'.cell? ⟨c, 1, none⟩ = some (.slice (some ⟨q, 0, none⟩) (N + Ls.length) cq) ∧ Fw w' q (N + Ls.length) F from ⟨(H.below hb).cells.2.1, (H.below hb).fw⟩))
  have HME := Lib.hid (H.ring.mem h l · hl)
  have n1 := H.n1
  obtain ⟨i0, hi0, hz0, hz1, hz2⟩ := u_parts
  obtain ⟨W1, hr, own, bW1⟩ : ∃ W1, (Instr.makeSlice 39 (.int .i64 0) (.int .i64 (l.length : Int))).run Try.prog w = .ok (.slice (some ⟨w.heap.size, 0, none⟩) 0 l.length) W1 ∧ W1.ownsRow w.heap.size 38 1 (.slice (some ⟨w.heap.size, 0, none⟩) 0 l.length) 0 [] ∧ Below w.heap.size w W1 := by
    have hr := run_make (P := Try.prog) w 39 38 i0 (.int .u32 0) Try.underlying39 hi0 hz0 .i64 .i64 0 (l.length : Int) (Int.le_refl _) (by omega) (by rw [hz2]; omega) (by omega)
    rw [hz1] at hr
    simp only [Int.toNat_zero, Int.toNat_natCast] at hr
    exact ⟨_, hr, World.ownsRow_made w _ l.length (Nat.le_refl _) (by unfold maxLen; omega) (size_madeCells _ _), by go_grown⟩
  have OWN := Lib.hid own
  have BW1 := Lib.hid bW1
  obtain ⟨L, hL⟩ : ∃ L, l.length = L := ⟨_, rfl⟩
  obtain ⟨R, hR⟩ : ∃ R, N + h = R := ⟨_, rfl⟩
  rw [hL] at hr hll
  rw [hL] at l0
  have HLL := Lib.hid hL
  have HR := Lib.hid hR
  have hRl : R < N + Ls.length := by omega
  have hRN : N ≤ R := by omega
  rw [hR] at H1
  have HFS := Lib.hid (show F.nx R = fst (l.drop 0) R from by rw [← hR]; exact (H.ring.ch h l hl).first)
  clear H own bW1 hL hR
  go_enter Try.func99, Try.ntmps99
  go_wp2_with fail
  refine (H1.out _ BW1.out).mono ?_
  rintro e w2 ⟨rfl, rfl⟩
  obtain ⟨k1', fw'⟩ := HFW.out _ BW1.out
  obtain ⟨e0, e1, e2⟩ := fw'.at_ (i := R) (by omega)
  have i3 : (R : Int) < (N : Int) + (Ls.length : Int) := by omega
  have i4 : (0 : Int) ≤ (R : Int) := by omega
  clear e0 e2 fw'
  rw [HFS.out] at e1
  have FW := Lib.hid (fun w' (hb : Below w.heap.size w w') => (HFW.out w' hb).2)
  go_wp2_with fail
  go_loopw [5, 7] (fun v5 v7 wr => ∃ k, k ≤ L ∧ v7 = .int .u32 ((fst (l.drop k) R : Nat) : Int) ∧ Ks wr w.heap.size v5 (ints (l.take k)) ∧ Below w.heap.size w wr) (fun v5 _ _ => L - slen v5)
  case atStart => exact ⟨0, by omega, rfl, (by have h := OWN.out; rw [HLL.out] at h; exact h), BW1.out⟩
  case round =>
    obtain ⟨k, hk, rfl, ho, bw⟩ := hrel
    have KS := Lib.hid ho
    have BW := Lib.hid bw
    by_cases hkl : k = L
    · subst hkl
      have hf : fst (l.drop k) R = R := by rw [List.drop_of_length_le (by rw [HLL.out]; omega)]; rfl
      have END := Lib.hid (show Kl (.returned u5) wr w.heap.size (ints l) from ⟨_, rfl, by have := KS.out; rwa [List.take_of_length_le (by rw [HLL.out]; omega)] at this⟩)
      rw [hf]
      clear ho bw
      go_wp2_with fail
      go_ret
      exact ⟨END.out, BW.out⟩
    · have hlt : k < L := by omega
      obtain ⟨x, hx⟩ : ∃ x, l[k]? = some x := ⟨l[k]'(by rw [HLL.out]; omega), List.getElem?_eq_getElem _⟩
      have hxN := (HME.out x (List.mem_of_getElem? hx)).1
      rw [fst_drop hx]
      have hne : ((x : Int) != (R : Int)) = true := by rw [bne_iff_ne]; omega
      have hne2 : ((x : Int) == (R : Int)) = false := by rw [beq_eq_false_iff_ne]; omega
      have HNE := Lib.hid (HNX.out.at_ hl hx)
      rw [HR.out] at HNE
      have HIT := Lib.hid (ints_take hx)
      have hlen : (ints (l.take k)).length ≤ 4194304 := by rw [ints_len, List.length_take]; omega
      have HLEN := Lib.hid hlen
      have i5 : (x : Int) < (N : Int) + (Ls.length : Int) := by omega
      have i6 : (0 : Int) ≤ (x : Int) := by omega
      have hsl : slen u5 = k := by rw [ks_slen ho, ints_len, List.length_take]; have := HLL.out; omega
      have HSL := Lib.hid hsl
      clear ho bw hx hsl
      go_wp2_with (at_builtin; refine wpList_app1 rfl (.tmp 38) (.tmp 40) 39 rfl w.heap.size 38 i0 (.int .u32 0) 4 Try.underlying39 hi0 hz0 hz1 hz2 rfl _ _ _ (.int .u32 (x : Int)) rfl KS.out rfl rfl (by have := HLEN.out; omega) (by omega) BW.out.size ?_; intro v' w' o' b' s'; have BN := Lib.hid (BW.out.trans b'); have ON := Lib.hid o'; clear o' b'; obtain ⟨k1', fw'⟩ := HFW.out _ BN.out; obtain ⟨e0, e1, e2⟩ := fw'.at_ (i := x) (by omega); clear e0 e2 fw')
      have KN := Lib.hid (show Ks w' w.heap.size v' (ints (l.take (k + 1))) from by unfold Ks; rw [HIT.out]; simpa [List.map_append] using ON.out)
      refine ⟨⟨k + 1, by omega, by rw [HNE.out], KN.out, BN.out⟩, ?_⟩
      rw [ks_slen KN.out, HSL.out, ints_len, List.length_take]
      have := HLL.out
      omega
end
end Go.Proofs.Ytjcabdnjimcdgaa.Lnk
