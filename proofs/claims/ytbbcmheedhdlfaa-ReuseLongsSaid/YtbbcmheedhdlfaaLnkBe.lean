/-
  Links (layer 14): Join.
-/
import Derived.Test.YtbbcmheedhdlfaaLnkBd
import Derived.Test.YtbbcmheedhdlfaaLnkK
import Derived.Test.YtbbcmheedhdlfaaLnkP
import Derived.Deep.LoopGhost
set_option linter.unusedVariables false
set_option linter.unusedSimpArgs false
namespace Go.Proofs.Ytbbcmheedhdlfaa.Lnk
open Go Go.RowKit Kit
/-- other heads for some nodes -/
def hdF (F : Fd) (l : List Nat) (b : Nat) : Fd := ⟨F.pv, F.nx, fun y => if y ∈ l then (b : Int) else F.hd y⟩
theorem hdF_nil (F : Fd) (b : Nat) : hdF F [] b = F := by unfold hdF; simp
theorem hdF_up (F : Fd) (l : List Nat) (b k y : Nat) (hy : l[k]? = some y) : (hdF F (l.take k) b).upH y (b : Int) = hdF F (l.take (k + 1)) b := by
  unfold hdF Fd.upH
  congr 1
  funext z
  rw [List.take_add_one, hy]
  by_cases h1 : z = y
  · simp [h1]
  · simp [h1]
/-- while the heads are changed -/
structure Jk (w v : World) (c q r cq cr N M : Nat) (F : Fd) (Ls : List (List Nat)) : Prop where
  obj : v.heap[c]? = w.heap[c]?
  fw : Fw v q M F
  lw : Lw v r Ls
  kp : Kp (Ob c q r) w v
section
variable {w : World} {c q r cq cr N : Nat} {F : Fd} {Ls : List (List Nat)}
set_option maxRecDepth 100000 in
theorem Join_bad (H : Lo w c q r cq cr N F Ls) {a b : Int} (hb : ¬ (0 ≤ a ∧ a < (Ls.length : Int)) ∨ ¬ (0 ≤ b ∧ b < (Ls.length : Int)) ∨ a = b) :
    Calls Try.prog 56 #[.pointer (some ⟨c, 0, none⟩), .int .i64 a, .int .i64 b] w fun e w' => e = .returned (.int .i64 2) ∧ Below w.heap.size w w' := by
  by_cases ha : 0 ≤ a ∧ a < (Ls.length : Int)
  · obtain ⟨a', rfl⟩ : ∃ a' : Nat, a = (a' : Int) := ⟨a.toNat, by omega⟩
    have H1 := Lib.hid (checkHead_ok H (h := a') (by omega))
    by_cases hb2 : 0 ≤ b ∧ b < (Ls.length : Int)
    · obtain ⟨b', rfl⟩ : ∃ b' : Nat, b = (b' : Int) := ⟨b.toNat, by omega⟩
      obtain rfl : a' = b' := by omega
      clear H hb ha hb2
      go_enter Try.func56, Try.ntmps56
      go_wp2_with fail
      refine H1.out.mono ?_
      rintro e w1 ⟨rfl, rfl⟩
      go_wp2_with fail
      refine H1.out.mono ?_
      rintro e w1 ⟨rfl, rfl⟩
      go_wp2_with fail
      go_ret
      exact ⟨rfl, Below.refl _ _⟩
    · have H2 := Lib.hid (checkHead_bad H hb2)
      clear H hb ha hb2
      go_enter Try.func56, Try.ntmps56
      go_wp2_with fail
      refine H1.out.mono ?_
      rintro e w1 ⟨rfl, rfl⟩
      go_wp2_with fail
      refine H2.out.mono ?_
      rintro e w1 ⟨rfl, rfl⟩
      go_wp2_with fail
      go_ret
      exact ⟨rfl, Below.refl _ _⟩
  · have H1 := Lib.hid (checkHead_bad H ha)
    clear H hb ha
    go_enter Try.func56, Try.ntmps56
    go_wp2_with fail
    refine H1.out.mono ?_
    rintro e w1 ⟨rfl, rfl⟩
    go_wp2_with fail
    go_ret
    exact ⟨rfl, Below.refl _ _⟩
set_option maxRecDepth 100000 in
theorem Join_empty (H : Lo w c q r cq cr N F Ls) {a b : Nat} (ha : Ls[a]? = some []) (hb : b < Ls.length) (hab : a ≠ b) :
    Calls Try.prog 56 #[.pointer (some ⟨c, 0, none⟩), .int .i64 (a : Int), .int .i64 (b : Int)] w fun e w' => e = .returned (.int .i64 0) ∧ Below w.heap.size w w' := by
  have hal := (List.getElem?_eq_some_iff.1 ha).1
  have H1 := Lib.hid (checkHead_ok H hal)
  have H2 := Lib.hid (checkHead_ok H hb)
  obtain ⟨k0, k1, k2⟩ := H.cells
  have l0 := (H.lw.at_ ha).1
  simp only [List.length_nil] at l0
  have hne : ((a : Int) == (b : Int)) = false := by rw [beq_eq_false_iff_ne]; omega
  have i1 : (a : Int) < (Ls.length : Int) := by omega
  have i0 : (0 : Int) ≤ (a : Int) := by omega
  clear H ha hb
  go_enter Try.func56, Try.ntmps56
  go_wp2_with fail
  refine H1.out.mono ?_
  rintro e w1 ⟨rfl, rfl⟩
  go_wp2_with fail
  refine H2.out.mono ?_
  rintro e w1 ⟨rfl, rfl⟩
  go_wp2_with fail
  go_ret
  exact ⟨rfl, Below.refl _ _⟩
theorem jk_raw {v : World} {M b n : Nat} {G : Fd} (h : Jk w v c q r cq cr N M G Ls) (hM : N + Ls.length = M) (hob : w.heap[c]? = some (.cells #[.int .i64 (N : Int), .slice (some ⟨q, 0, none⟩) M cq, .slice (some ⟨r, 0, none⟩) Ls.length cr] 92 (0, 0))) (hcq : c ≠ q) (hqr : q ≠ r) (hcr : c ≠ r) (n1 : 1 ≤ N) (n2 : N ≤ 4194304) (h2 : Ls.length ≤ 4096) (hb : b < Ls.length) (l : List Nat) (hl : l.length = n) :
    Ro (v.setCell ⟨r, b, none⟩ (.int .i64 (n : Int))) c q r cq cr N Ls.length G (fun k => (((Ls.set b l)[k]?.getD []).length : Int)) := by
  subst hl hM
  have hlw := h.lw.set (h := b) (l := l)
  refine ⟨(Below.heap_setCell v ⟨r, b, none⟩ _ c hcr).trans (h.obj.trans hob), h.fw.of (Below.heap_setCell v ⟨r, b, none⟩ _ q hqr), ?_, hcq, hcr, hqr, n1, n2, h2⟩
  obtain ⟨cur, g1, g2⟩ := hlw
  refine ⟨cur, g1, fun k hk => ?_⟩
  have : (Ls.set b l)[k]? = some ((Ls.set b l)[k]'(by simpa using hk)) := List.getElem?_eq_getElem _
  show cur[k]? = some (.int .i64 ((((Ls.set b l)[k]?.getD []).length : Nat) : Int))
  rw [this]
  exact g2 k _ this
theorem join_eq (F : Fd) (l : List Nat) (b a ra rb x ez z : Nat) (hra : ra ∉ l) (hroot : F.hd ra = (a : Int)) : clearF (((((hdF F l b).upN ez x).upP x ez).upN z rb).upP rb z) ra (a : Int) = joinF F ra rb b x ez z l := by
  have h : (fun y => if y = ra then (a : Int) else if y ∈ l then (b : Int) else F.hd y) = fun y => if y ∈ l then (b : Int) else F.hd y := by
    funext y
    by_cases hy : y = ra
    · subst hy; simp [hra, hroot]
    · simp [hy]
  show Fd.mk _ _ (fun y => if y = ra then (a : Int) else if y ∈ l then (b : Int) else F.hd y) = _
  rw [h]
  rfl
theorem join_end (HH : Lo w c q r cq cr N F Ls) {v5 : World} {a b x k ra rb ez z : Nat} {La' Lb La : List Nat} (ha : Ls[a]? = some (x :: La')) (hb : Ls[b]? = some Lb) (hab : a ≠ b) (hLa : x :: La' = La) (hk : La.take k = La) (HRA : N + a = ra) (HRB : N + b = rb) (HZ : lst (N + a) (x :: La') = z) (HEZ : lst (N + b) Lb = ez)
    (R5 : Ro v5 c q r cq cr N Ls.length (clearF (((((hdF F (La.take k) b).upN ez x).upP x ez).upN z rb).upP rb z) (N + a) (a : Int)) (fun k' => if k' = a then 0 else (((Ls.set b (Lb ++ La))[k']?.getD []).length : Int))) :
    Lo v5 c q r cq cr N (joinF F ra rb b x ez z (x :: La')) ((Ls.set b (Lb ++ x :: La')).set a []) := by
  have hal := (List.getElem?_eq_some_iff.1 ha).1
  have hR := HH.ring.join ha hb hab
  rw [HEZ, HZ, HRA, HRB] at hR
  rw [hk, HRA, join_eq F La b a ra rb x ez z (fun h => by rw [← hLa] at h; have := (HH.ring.mem a _ ra ha h).1; omega) (by rw [← HRA]; exact HH.ring.root a hal), ← hLa] at R5
  have hlen : ((Ls.set b (Lb ++ x :: La')).set a []).length = Ls.length := by simp
  rw [← hlen] at R5
  refine Ro.lo R5 hR (fun k' l hl => ?_) (by rw [hlen]; exact HH.h1)
  by_cases h : k' = a
  · subst h
    rw [List.getElem?_set_self (by simpa using hal)] at hl
    cases hl
    simp
  · rw [List.getElem?_set_ne (by omega)] at hl
    rw [if_neg h, hl]
    rfl
end
end Go.Proofs.Ytbbcmheedhdlfaa.Lnk
