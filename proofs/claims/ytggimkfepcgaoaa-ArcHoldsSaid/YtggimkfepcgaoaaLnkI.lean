/-
  Links (layer 14): Front, Back.
-/
import Derived.Test.YtggimkfepcgaoaaLnkH
set_option linter.unusedVariables false
set_option linter.unusedSimpArgs false
namespace Go.Proofs.Ytggimkfepcgaoaa.Lnk
open Go Go.RowKit Kit
section
variable {w : World} {c q r cq cr N : Nat} {F : Fd} {Ls : List (List Nat)}
theorem back1_any (x : Int) (w : World) : Calls Try.prog 86 #[.int .u32 x] w fun e v => e = .returned (.int .u32 x) ∧ Below w.heap.size w v := by
  go_enter Try.func86, Try.ntmps86
  go_wp2_with fail
  go_ret
  exact ⟨rfl, Below.refl _ _⟩
theorem front1_any (H : Lo w c q r cq cr N F Ls) {h : Nat} {l : List Nat} (hl : Ls[h]? = some l) {g : Nat} {t : TypeId} (hg : w.heap[g]? = some (.cells #[.pointer (some ⟨c, 0, none⟩)] t (0, 0))) :
    Calls Try.prog 90 #[.int .u32 ((N + h : Nat) : Int), .pointer (some ⟨g, 0, none⟩)] w fun e v => e = .returned (.int .u32 ((fst l (N + h) : Nat) : Int)) ∧ Below w.heap.size w v := by
  have hh := (List.getElem?_eq_some_iff.1 hl).1
  have hc := (H.ring.ch h l hl).first
  obtain ⟨k0, k1, k2⟩ := H.cells
  obtain ⟨e0, e1, e2⟩ := H.fw.at_ (i := N + h) (by omega)
  rw [hc] at e1
  have g0 : w.cell? ⟨g, 0, none⟩ = some (.pointer (some ⟨c, 0, none⟩)) := by simp [World.cell?, hg]
  have i1 : ((N + h : Nat) : Int) < (N : Int) + (Ls.length : Int) := by omega
  have i2 : ((N + h : Nat) : Int) < ((N + Ls.length : Nat) : Int) := by omega
  have i3 : (0 : Int) ≤ ((N + h : Nat) : Int) := by omega
  generalize fst l (N + h) = x at *
  obtain ⟨M, hM⟩ : ∃ M, N + h = M := ⟨_, rfl⟩
  rw [hM] at i1 i2 i3 e1 ⊢
  clear H hc hl hg hM e0 e2
  go_enter Try.func90, Try.ntmps90
  go_wp2_with fail
  go_ret
  exact ⟨rfl, Below.refl _ _⟩
set_option maxRecDepth 100000 in
theorem Back_ok (H : Lo w c q r cq cr N F Ls) {h n : Nat} {l : List Nat} (hl : Ls[h]? = some l) (hn : n < N) (hf : Free Ls n) :
    Calls Try.prog 21 #[.pointer (some ⟨c, 0, none⟩), .int .i64 (h : Int), .int .u32 (n : Int)] w fun e w' => e = .returned (.int .i64 0) ∧ Lo w' c q r cq cr N (linkF F n (N + h)) (Ls.set h (l ++ [n])) ∧ Kp (Ob c q r) w w' := by
  have HA := Lib.hid (add_back H (l1 := l) (l2 := []) (by rw [List.append_nil]; exact hl) hn hf (o := N + h) rfl (fun w' hb => back1_any _ w'))
  clear H hl hf
  go_enter Try.func21, Try.ntmps21
  go_wp2_with fail
  refine HA.out.mono ?_
  rintro e w1 ⟨rfl, h1, k1⟩
  have H1 := Lib.hid h1
  have K1 := Lib.hid k1
  clear h1 k1
  go_wp2_with fail
  go_ret
  exact ⟨rfl, H1.out, K1.out⟩
set_option maxRecDepth 100000 in
theorem Front_ok (H : Lo w c q r cq cr N F Ls) {h n : Nat} {l : List Nat} (hl : Ls[h]? = some l) (hn : n < N) (hf : Free Ls n) :
    Calls Try.prog 24 #[.pointer (some ⟨c, 0, none⟩), .int .i64 (h : Int), .int .u32 (n : Int)] w fun e w' => e = .returned (.int .i64 0) ∧ Lo w' c q r cq cr N (linkF F n (fst l (N + h))) (Ls.set h (n :: l)) ∧ Kp (Ob c q r) w w' := by
  have HB := Lib.hid (box_below w #[.pointer (some ⟨c, 0, none⟩)] 28)
  have HA := Lib.hid (add_front (H.below HB.out) (l1 := []) (l2 := l) w.heap.size hl hn hf (o := fst l (N + h)) rfl (fun w' hb => front1_any ((H.below HB.out).below hb) hl ((hb.block _ (by simp)).trans (one_block w _ 28))))
  clear H hl hf
  go_enter Try.func24, Try.ntmps24
  go_wp2_with fail
  refine HA.out.mono ?_
  rintro e w1 ⟨rfl, h1, k1⟩
  have H1 := Lib.hid h1
  have K1 := Lib.hid ((Kp.of HB.out).trans k1)
  clear h1 k1
  go_wp2_with fail
  go_ret
  exact ⟨rfl, H1.out, K1.out⟩
end
end Go.Proofs.Ytggimkfepcgaoaa.Lnk
