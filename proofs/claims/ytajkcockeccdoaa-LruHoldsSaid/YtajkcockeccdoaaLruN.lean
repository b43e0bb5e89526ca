/-
  Plain LRU lists (layer 15): used, of the law LruHolds.
-/
import Derived.Test.YtajkcockeccdoaaLruC
import Derived.Test.YtajkcockeccdoaaLruM
set_option linter.unusedVariables false
set_option linter.unusedSimpArgs false
namespace Go.Proofs.Ytajkcockeccdoaa.Lru
open Go Go.RowKit Kit Go.Shelf Lnk
theorem Opr.comp {w v u : World} {o c q r : Nat} {l1 l2 : List Nat} (h1 : Opr w v o c q r l1) (h2 : ∀ c1 q1 r1 cq cr N F, Lu v o c1 q1 r1 cq cr N F l1 → Opr v u o c1 q1 r1 l2) : Opr w u o c q r l2 := by
  obtain ⟨c1, q1, r1, cq, cr, N, F, k1, k2, k3, k4, k5⟩ := h1
  exact Opr.trans k2 k3 k4 k5 (h2 _ _ _ _ _ _ _ k1)
theorem Opr.below {w v u : World} {o c q r : Nat} {l1 : List Nat} (h1 : Opr w v o c q r l1) (hb : Below v.heap.size v u) : Opr w u o c q r l1 :=
  h1.comp fun _ _ _ _ _ _ _ k => Opr.same k hb
theorem use_add {l : List Nat} {x : Nat} (hx : x < 4194304) (hm : x ∉ l) : addL l x = l.erase x ++ [x] ∧ addC l x = 0 := by
  refine ⟨?_, by unfold addC; rw [if_pos hx, if_neg hm]⟩
  unfold addL
  rw [if_pos ⟨hx, hm⟩, List.erase_of_not_mem hm]
set_option maxRecDepth 100000 in
theorem used_any {w : World} {o c q r cq cr N : Nat} {F : Lnk.Fd} {l : List Nat} (H : Lu w o c q r cq cr N F l) (x : Nat) (hx : x < 4194304) {most : Nat} (hl : l.length ≤ most) (hm : most ≤ 5000) :
    Calls Try.prog 49 #[.pointer (some ⟨o, 0, none⟩), .int .u32 (x : Int), .int .i64 (most : Int)] w fun e w' => e = .returned (.bool true) ∧ Opr w w' o c q r (usedL l x most) := by
  -- the first half leaves l1 = l.erase x ++ [x]
  obtain ⟨l1, hl1⟩ : ∃ l1, l.erase x ++ [x] = l1 := ⟨_, rfl⟩
  have HL1 := Lib.hid hl1
  have HHas := Lib.hid (Has_any H x (by omega))
  have HU := Lib.hid (fun (v : World) (hb : Below w.heap.size w v) (hm : x ∈ l) => (by
    have := Use_any (H.below hb) x (by omega)
    rw [show remC l x = 0 by unfold remC; rw [if_pos hx, if_pos hm], show useL l x = l1 by unfold useL; rw [if_pos hm, hl1]] at this
    exact this.mono fun e w' ⟨a, b⟩ => ⟨a, Opr.trans (.inl rfl) (.inl rfl) (.inl rfl) (Kp.of hb) b⟩ : Calls Try.prog 47 #[.pointer (some ⟨o, 0, none⟩), .int .u32 (x : Int)] v fun e w' => e = .returned (.int .i64 0) ∧ Opr w w' o c q r l1))
  have HA := Lib.hid (fun (v : World) (hb : Below w.heap.size w v) (hm : x ∉ l) => (by
    have := Add_any (H.below hb) x (by omega)
    rw [(use_add hx hm).2, (use_add hx hm).1, hl1] at this
    exact this.mono fun e w' ⟨a, b⟩ => ⟨a, Opr.trans (.inl rfl) (.inl rfl) (.inl rfl) (Kp.of hb) b⟩ : Calls Try.prog 45 #[.pointer (some ⟨o, 0, none⟩), .int .u32 (x : Int)] v fun e w' => e = .returned (.int .i64 0) ∧ Opr w w' o c q r l1))
  obtain ⟨n1, hn1⟩ : ∃ n1, l1.length = n1 := ⟨_, rfl⟩
  have HN1 := Lib.hid hn1
  have hle : n1 ≤ most + 1 := by
    rw [← hn1, ← hl1, List.length_append]
    have : (l.erase x).length ≤ l.length := List.length_erase_le
    simp
    omega
  have HLen := Lib.hid (fun (v : World) (op : Opr w v o c q r l1) => (by
    obtain ⟨c1, q1, r1, cq, cr, N, F, k1, k2⟩ := op
    rw [← hn1]
    exact Len_any k1 : Calls Try.prog 98 #[.pointer (some ⟨o, 0, none⟩)] v fun e w' => e = .returned (.int .i64 (n1 : Int)) ∧ v = w'))
  have hne : l1 ≠ [] := by rw [← hl1]; simp
  obtain ⟨hd, tl, hdt⟩ : ∃ hd tl, l1 = hd :: tl := by cases l1 with | nil => exact absurd rfl hne | cons a b => exact ⟨a, b, rfl⟩
  have HOld := Lib.hid (fun (v : World) (op : Opr w v o c q r l1) => (by
    obtain ⟨c1, q1, r1, cq, cr, N, F, k1, k2⟩ := op
    have := Oldest_any k1
    rw [hdt] at this
    exact this : Calls Try.prog 108 #[.pointer (some ⟨o, 0, none⟩)] v fun e w' => e = .returned (.tuple #[.int .u32 (hd : Int), .int .i64 0]) ∧ Below v.heap.size v w'))
  have hhd : hd < 4194304 := by
    have : hd ∈ l.erase x ++ [x] := by rw [hl1, hdt]; simp
    rcases List.mem_append.1 this with h | h
    · have h1 := (H.lo.ring.mem 0 l hd rfl (List.mem_of_mem_erase h)).1
      have h2 := H.lo.n2
      omega
    · simp at h; omega
  have HRem := Lib.hid (fun (v : World) (op : Opr w v o c q r l1) => (by
    obtain ⟨c1, q1, r1, cq, cr, N, F, k1, k2, k3, k4, k5⟩ := op
    have := Remove_any k1 hd (by omega)
    rw [show remC l1 hd = 0 by unfold remC; rw [if_pos hhd, if_pos (by rw [hdt]; simp)], show l1.erase hd = tl by rw [hdt]; simp] at this
    exact this.mono fun e w' ⟨a, b⟩ => ⟨a, Opr.trans k2 k3 k4 k5 b⟩ : Calls Try.prog 48 #[.pointer (some ⟨o, 0, none⟩), .int .u32 (hd : Int)] v fun e w' => e = .returned (.int .i64 0) ∧ Opr w w' o c q r tl))
  have htl : tl.length = n1 - 1 := by rw [← hn1, hdt]; simp
  have HLen2 := Lib.hid (fun (v : World) (op : Opr w v o c q r tl) => (by
    obtain ⟨c1, q1, r1, cq, cr, N, F, k1, k2⟩ := op
    rw [← htl]
    exact Len_any k1 : Calls Try.prog 98 #[.pointer (some ⟨o, 0, none⟩)] v fun e w' => e = .returned (.int .i64 ((n1 - 1 : Nat) : Int)) ∧ v = w'))
  have hres : usedL l x most = if n1 > most then tl else l1 := by
    unfold usedL
    rw [hl1, hn1, hdt]
    rfl
  rw [hres]
  obtain ⟨z, hz⟩ : ∃ z : Int, (x : Int) = z := ⟨_, rfl⟩
  obtain ⟨y, hy⟩ : ∃ y : Int, (hd : Int) = y := ⟨_, rfl⟩
  rw [hz] at HHas HU HA ⊢
  rw [hy] at HOld HRem
  clear hl1 hn1 hdt hhd htl hres hz hy hne H hx hl
  by_cases hm' : x ∈ l
  · rw [decide_eq_true hm'] at HHas
    have HM := Lib.hid hm'
    clear hm'
    by_cases hgt : n1 > most
    · obtain rfl : n1 = most + 1 := by omega
      rw [if_pos hgt]
      have g1 : (most : Int) < ((most + 1 : Nat) : Int) := by omega
      rw [show most + 1 - 1 = most by omega] at HLen2
      obtain ⟨k, hk⟩ : ∃ k : Int, ((most + 1 : Nat) : Int) = k := ⟨_, rfl⟩
      rw [hk] at g1 HLen
      clear hk hgt hle
      go_enter Try.func49, Try.ntmps49
      go_wp2_with fail
      refine HHas.out.mono ?_
      rintro e w1 ⟨rfl, b1⟩
      have B1 := Lib.hid b1
      clear b1
      go_wp2_with fail
      refine (HU.out _ B1.out HM.out).mono ?_
      rintro e w2 ⟨rfl, o2⟩
      have O2 := Lib.hid o2
      clear o2
      go_wp2_with fail
      refine (HLen.out _ O2.out).mono ?_
      rintro e w3 ⟨rfl, rfl⟩
      go_wp2_with fail
      refine (HOld.out _ O2.out).mono ?_
      rintro e w3 ⟨rfl, b3⟩
      have O3 := Lib.hid (O2.out.below b3)
      clear b3
      go_wp2_with fail
      refine (HRem.out _ O3.out).mono ?_
      rintro e w4 ⟨rfl, o4⟩
      have O4 := Lib.hid o4
      clear o4
      go_wp2_with fail
      refine (HLen2.out _ O4.out).mono ?_
      rintro e w5 ⟨rfl, rfl⟩
      go_wp2_with fail
      go_ret
      exact ⟨rfl, O4.out⟩
    · rw [if_neg hgt]
      have g1 : ¬ (most : Int) < (n1 : Int) := by omega
      clear hgt hle
      go_enter Try.func49, Try.ntmps49
      go_wp2_with fail
      refine HHas.out.mono ?_
      rintro e w1 ⟨rfl, b1⟩
      have B1 := Lib.hid b1
      clear b1
      go_wp2_with fail
      refine (HU.out _ B1.out HM.out).mono ?_
      rintro e w2 ⟨rfl, o2⟩
      have O2 := Lib.hid o2
      clear o2
      go_wp2_with fail
      refine (HLen.out _ O2.out).mono ?_
      rintro e w3 ⟨rfl, rfl⟩
      go_wp2_with fail
      go_ret
      exact ⟨rfl, O2.out⟩
  · rw [decide_eq_false hm'] at HHas
    have HM := Lib.hid hm'
    clear hm'
    by_cases hgt : n1 > most
    · obtain rfl : n1 = most + 1 := by omega
      rw [if_pos hgt]
      have g1 : (most : Int) < ((most + 1 : Nat) : Int) := by omega
      rw [show most + 1 - 1 = most by omega] at HLen2
      obtain ⟨k, hk⟩ : ∃ k : Int, ((most + 1 : Nat) : Int) = k := ⟨_, rfl⟩
      rw [hk] at g1 HLen
      clear hk hgt hle
      go_enter Try.func49, Try.ntmps49
      go_wp2_with fail
      refine HHas.out.mono ?_
      rintro e w1 ⟨rfl, b1⟩
      have B1 := Lib.hid b1
      clear b1
      go_wp2_with fail
      refine (HA.out _ B1.out HM.out).mono ?_
      rintro e w2 ⟨rfl, o2⟩
      have O2 := Lib.hid o2
      clear o2
      go_wp2_with fail
      refine (HLen.out _ O2.out).mono ?_
      rintro e w3 ⟨rfl, rfl⟩
      go_wp2_with fail
      refine (HOld.out _ O2.out).mono ?_
      rintro e w3 ⟨rfl, b3⟩
      have O3 := Lib.hid (O2.out.below b3)
      clear b3
      go_wp2_with fail
      refine (HRem.out _ O3.out).mono ?_
      rintro e w4 ⟨rfl, o4⟩
      have O4 := Lib.hid o4
      clear o4
      go_wp2_with fail
      refine (HLen2.out _ O4.out).mono ?_
      rintro e w5 ⟨rfl, rfl⟩
      go_wp2_with fail
      go_ret
      exact ⟨rfl, O4.out⟩
    · rw [if_neg hgt]
      have g1 : ¬ (most : Int) < (n1 : Int) := by omega
      clear hgt hle
      go_enter Try.func49, Try.ntmps49
      go_wp2_with fail
      refine HHas.out.mono ?_
      rintro e w1 ⟨rfl, b1⟩
      have B1 := Lib.hid b1
      clear b1
      go_wp2_with fail
      refine (HA.out _ B1.out HM.out).mono ?_
      rintro e w2 ⟨rfl, o2⟩
      have O2 := Lib.hid o2
      clear o2
      go_wp2_with fail
      refine (HLen.out _ O2.out).mono ?_
      rintro e w3 ⟨rfl, rfl⟩
      go_wp2_with fail
      go_ret
      exact ⟨rfl, O2.out⟩
end Go.Proofs.Ytajkcockeccdoaa.Lru
