/-
  Plain LRU lists (layer 15): Add, Remove, Use, and the ends.
-/
import Derived.Test.YtbbcmheedhdlfaaLruB
set_option linter.unusedVariables false
set_option linter.unusedSimpArgs false
namespace Go.Proofs.Ytbbcmheedhdlfaa.Lru
open Go Go.RowKit Kit Lnk
def addC (l : List Nat) (x : Nat) : Int := if x < 4194304 then (if x ∈ l then 11 else 0) else 2
def addL (l : List Nat) (x : Nat) : List Nat := if x < 4194304 ∧ x ∉ l then l ++ [x] else l
def remC (l : List Nat) (x : Nat) : Int := if x < 4194304 then (if x ∈ l then 0 else 9) else 2
def useL (l : List Nat) (x : Nat) : List Nat := if x ∈ l then l.erase x ++ [x] else l
section
variable {w : World} {o c q r cq cr N : Nat} {F : Lnk.Fd} {l : List Nat}
theorem free1 {l : List Nat} {x : Nat} : Free [l] x ↔ x ∉ l := by
  constructor
  · exact fun h => h 0 l rfl
  · intro h k m hm
    match k, hm with
    | 0, hm => simp at hm; subst hm; exact h
    | k + 1, hm => simp at hm
/-- Back of the field -/
theorem back1_ok (H : Lu w o c q r cq cr N F l) {x : Nat} (hx : x < N) (hm : x ∉ l) :
    Calls Try.prog 20 #[.pointer (some ⟨c, 0, none⟩), .int .i64 0, .int .u32 (x : Int)] w fun e w' => e = .returned (.int .i64 0) ∧ Opr w w' o c q r (l ++ [x]) := by
  refine Calls.mono (Back_ok (h := 0) H.lo rfl hx (free1.2 hm)) ?_
  rintro e w' ⟨h1, h2, h3⟩
  exact ⟨h1, c, q, r, cq, cr, N, _, H.upd h2 h3 H.oq H.or, .inl rfl, .inl rfl, .inl rfl, Kp.four h3⟩
theorem back1_busy (H : Lu w o c q r cq cr N F l) {x : Nat} (hx : x < N) (hm : x ∈ l) :
    Calls Try.prog 20 #[.pointer (some ⟨c, 0, none⟩), .int .i64 0, .int .u32 (x : Int)] w fun e w' => e = .returned (.int .i64 11) ∧ Opr w w' o c q r l := by
  refine Calls.mono (Back_busy (h := 0) H.lo (by simp) hx (by rw [((H.mem hx).1).2 hm]; decide)) ?_
  rintro e w' ⟨h1, h2⟩
  exact ⟨h1, .same H h2⟩
set_option maxRecDepth 100000 in
theorem Add_any (H : Lu w o c q r cq cr N F l) (x : Nat) (hx : x < 4294967296) :
    Calls Try.prog 30 #[.pointer (some ⟨o, 0, none⟩), .int .u32 (x : Int)] w fun e w' => e = .returned (.int .i64 (addC l x)) ∧ Opr w w' o c q r (addL l x) := by
  have HC := Lib.hid (check_any H x hx)
  have HH := Lib.hid H
  by_cases h : x < 4194304
  · rw [if_pos h] at HC
    have HG := Lib.hid (grow_any H h)
    by_cases hm : x ∈ l
    · have e1 : addC l x = 11 := by unfold addC; rw [if_pos h, if_pos hm]
      have e2 : addL l x = l := by unfold addL; rw [if_neg (fun k => k.2 hm)]
      rw [e1, e2]
      clear H e1 e2 hx h
      have HM := Lib.hid hm
      clear hm
      go_enter Try.func30, Try.ntmps30
      go_wp2_with fail
      refine HC.out.mono ?_
      rintro e w1 ⟨rfl, rfl⟩
      go_wp2_with fail
      refine HG.out.mono ?_
      rintro e w1 ⟨rfl, q1, r1, cq1, cr1, N1, F1, lu, hx1, hq, hr, kp⟩
      have cc := lu.cell
      have HB := Lib.hid (back1_busy lu hx1 HM.out)
      have TR := Lib.hid (fun (u : World) (l' : List Nat) (h : Opr w1 u o c q1 r1 l') => Opr.trans (.inl rfl) hq hr kp h)
      clear lu hx1 hq hr kp
      go_wp2_with fail
      refine HB.out.mono ?_
      rintro e w2 ⟨rfl, op⟩
      have OP := Lib.hid (TR.out _ _ op)
      clear op
      go_wp2_with fail
      go_ret
      exact ⟨rfl, OP.out⟩
    · have e1 : addC l x = 0 := by unfold addC; rw [if_pos h, if_neg hm]
      have e2 : addL l x = l ++ [x] := by unfold addL; rw [if_pos ⟨h, hm⟩]
      rw [e1, e2]
      clear H e1 e2 hx h
      have HM := Lib.hid hm
      clear hm
      go_enter Try.func30, Try.ntmps30
      go_wp2_with fail
      refine HC.out.mono ?_
      rintro e w1 ⟨rfl, rfl⟩
      go_wp2_with fail
      refine HG.out.mono ?_
      rintro e w1 ⟨rfl, q1, r1, cq1, cr1, N1, F1, lu, hx1, hq, hr, kp⟩
      have cc := lu.cell
      have HB := Lib.hid (back1_ok lu hx1 HM.out)
      have TR := Lib.hid (fun (u : World) (l' : List Nat) (h : Opr w1 u o c q1 r1 l') => Opr.trans (.inl rfl) hq hr kp h)
      clear lu hx1 hq hr kp
      go_wp2_with fail
      refine HB.out.mono ?_
      rintro e w2 ⟨rfl, op⟩
      have OP := Lib.hid (TR.out _ _ op)
      clear op
      go_wp2_with fail
      go_ret
      exact ⟨rfl, OP.out⟩
  · rw [if_neg h] at HC
    have e1 : addC l x = 2 := by unfold addC; rw [if_neg h]
    have e2 : addL l x = l := by unfold addL; rw [if_neg (fun k => h k.1)]
    rw [e1, e2]
    clear H e1 e2 hx h
    go_enter Try.func30, Try.ntmps30
    go_wp2_with fail
    refine HC.out.mono ?_
    rintro e w1 ⟨rfl, rfl⟩
    go_wp2_with fail
    go_ret
    exact ⟨rfl, .same HH.out (Below.refl _ _)⟩
set_option maxRecDepth 100000 in
theorem Remove_in (H : Lu w o c q r cq cr N F l) {x : Nat} (hm : x ∈ l) :
    Calls Try.prog 33 #[.pointer (some ⟨o, 0, none⟩), .int .u32 (x : Int)] w fun e w' => e = .returned (.int .i64 0) ∧ (∃ F', Lu w' o c q r cq cr N F' (l.erase x)) ∧ Kp (Ob4 o c q r) w w' := by
  have hxN := (H.lo.ring.mem 0 l x rfl hm).1
  have h : x < 4194304 := by have := H.lo.n2; omega
  have HF := Lib.hid (find_any H x (by omega))
  rw [if_pos h, if_pos hm] at HF
  have HR := Lib.hid (fun (v : World) (hb : Below w.heap.size w v) => (show Calls Try.prog 22 #[.pointer (some ⟨c, 0, none⟩), .int .u32 (x : Int)] v fun e w' => e = .returned (.int .i64 0) ∧ (∃ F', Lu w' o c q r cq cr N F' (l.erase x)) ∧ Kp (Ob4 o c q r) w w' from by
    obtain ⟨l1, l2, hl⟩ := List.append_of_mem hm
    have hnd := H.lo.ring.nodup 0 l rfl
    have hn1 : x ∉ l1 := fun h1 => by
      rw [hl, List.nodup_append] at hnd
      exact hnd.2.2 x h1 x (by simp) rfl
    have he : l.erase x = l1 ++ l2 := by rw [hl, List.erase_append_right _ hn1]; simp
    rw [he]
    refine Calls.mono (Remove_ok (h := 0) (l1 := l1) (l2 := l2) (H.below hb).lo (by rw [hl]; rfl)) ?_
    rintro e w' ⟨h1, h2, h3⟩
    exact ⟨h1, ⟨_, (H.below hb).upd h2 h3 H.oq H.or⟩, (Kp.of hb).trans (Kp.four h3)⟩))
  have CC := Lib.hid (fun (v : World) (hb : Below w.heap.size w v) => (H.below hb).cell)
  clear H h hm hxN
  go_enter Try.func33, Try.ntmps33
  go_wp2_with fail
  refine HF.out.mono ?_
  rintro e w1 ⟨rfl, b1⟩
  have B1 := Lib.hid b1
  have cc := CC.out _ b1
  clear b1
  go_wp2_with fail
  refine (HR.out _ B1.out).mono ?_
  rintro e w2 ⟨rfl, op⟩
  have OP := Lib.hid op
  clear op
  go_wp2_with fail
  go_ret
  exact ⟨rfl, OP.out⟩
set_option maxRecDepth 100000 in
theorem Remove_any (H : Lu w o c q r cq cr N F l) (x : Nat) (hx : x < 4294967296) :
    Calls Try.prog 33 #[.pointer (some ⟨o, 0, none⟩), .int .u32 (x : Int)] w fun e w' => e = .returned (.int .i64 (remC l x)) ∧ Opr w w' o c q r (l.erase x) := by
  have HF := Lib.hid (find_any H x hx)
  have HH := Lib.hid H
  by_cases hm : x ∈ l
  · have hxN := (H.lo.ring.mem 0 l x rfl hm).1
    have h : x < 4194304 := by have := H.lo.n2; omega
    rw [if_pos h, if_pos hm] at HF
    have e1 : remC l x = 0 := by unfold remC; rw [if_pos h, if_pos hm]
    rw [e1]
    exact (Remove_in H hm).mono fun e w' h => ⟨h.1, by
      obtain ⟨_, ⟨F', lu⟩, kp⟩ := h
      exact ⟨c, q, r, cq, cr, N, F', lu, .inl rfl, .inl rfl, .inl rfl, kp⟩⟩
  · have e2 : l.erase x = l := List.erase_of_not_mem hm
    rw [e2]
    by_cases h : x < 4194304
    · rw [if_pos h, if_neg hm] at HF
      have e1 : remC l x = 9 := by unfold remC; rw [if_pos h, if_neg hm]
      rw [e1]
      clear H e1 e2 hx h hm
      go_enter Try.func33, Try.ntmps33
      go_wp2_with fail
      refine HF.out.mono ?_
      rintro e w1 ⟨rfl, b1⟩
      have B1 := Lib.hid b1
      clear b1
      go_wp2_with fail
      go_ret
      exact ⟨rfl, .same HH.out B1.out⟩
    · rw [if_neg h] at HF
      have e1 : remC l x = 2 := by unfold remC; rw [if_neg h]
      rw [e1]
      clear H e1 e2 hx h hm
      go_enter Try.func33, Try.ntmps33
      go_wp2_with fail
      refine HF.out.mono ?_
      rintro e w1 ⟨rfl, b1⟩
      have B1 := Lib.hid b1
      clear b1
      go_wp2_with fail
      go_ret
      exact ⟨rfl, .same HH.out B1.out⟩
theorem Opr.get {w' : World} {l' : List Nat} (h : Opr w w' o c q r l') : ∃ c' q' r' cq cr N F, Lu w' o c' q' r' cq cr N F l' := by
  obtain ⟨c', q', r', cq, cr, N, F, h, _⟩ := h
  exact ⟨c', q', r', cq, cr, N, F, h⟩
set_option maxRecDepth 100000 in
theorem Use_any (H : Lu w o c q r cq cr N F l) (x : Nat) (hx : x < 4294967296) :
    Calls Try.prog 32 #[.pointer (some ⟨o, 0, none⟩), .int .u32 (x : Int)] w fun e w' => e = .returned (.int .i64 (remC l x)) ∧ Opr w w' o c q r (useL l x) := by
  have HR := Lib.hid (Remove_any H x hx)
  have HH := Lib.hid H
  by_cases hm : x ∈ l
  · have hxN := (H.lo.ring.mem 0 l x rfl hm).1
    have h : x < 4194304 := by have := H.lo.n2; omega
    have e1 : remC l x = 0 := by unfold remC; rw [if_pos h, if_pos hm]
    have e2 : useL l x = l.erase x ++ [x] := if_pos hm
    rw [e1] at HR ⊢
    rw [e2]
    have hnd : x ∉ l.erase x := by
      have := (H.lo.ring.nodup 0 l rfl)
      exact fun hx' => (List.Nodup.mem_erase_iff this).1 hx' |>.1 rfl
    have HND := Lib.hid (show x ∉ l.erase x ∧ x < 4194304 from ⟨hnd, h⟩)
    have HRI := Lib.hid (Remove_in H hm)
    have HXN := Lib.hid hxN
    clear H e1 e2 hx h hm hxN hnd HR
    go_enter Try.func32, Try.ntmps32
    go_wp2_with fail
    refine HRI.out.mono ?_
    rintro e w1 ⟨rfl, ⟨F', lu⟩, kp⟩
    have cc := lu.cell
    have HB := Lib.hid (back1_ok lu HXN.out HND.out.1)
    have TR := Lib.hid (fun (u : World) (l' : List Nat) (h : Opr w1 u o c q r l') => Opr.trans (.inl rfl) (.inl rfl) (.inl rfl) kp h)
    clear lu kp
    go_wp2_with fail
    refine HB.out.mono ?_
    rintro e w2 ⟨rfl, op⟩
    have OP := Lib.hid (TR.out _ _ op)
    clear op
    go_wp2_with fail
    go_ret
    exact ⟨rfl, OP.out⟩
  · have e2 : useL l x = l := if_neg hm
    have e3 : l.erase x = l := List.erase_of_not_mem hm
    rw [e2]
    rw [e3] at HR
    have hr : remC l x = 9 ∨ remC l x = 2 := by unfold remC; rw [if_neg hm]; split <;> simp
    clear H e2 e3 hx hm
    rcases hr with h | h
    all_goals (
      rw [h] at HR ⊢
      clear h
      go_enter Try.func32, Try.ntmps32
      go_wp2_with fail
      refine HR.out.mono ?_
      rintro e w1 ⟨rfl, op⟩
      have OP := Lib.hid op
      clear op
      go_wp2_with fail
      go_ret
      exact ⟨rfl, OP.out⟩)
theorem fst_head (H : Lu w o c q r cq cr N F l) : nodeR (if fst l (N + 0) < N then some (fst l (N + 0)) else none) = nodeR l.head? := by
  cases l with
  | nil => simp [fst]
  | cons x t =>
    have := (H.lo.ring.mem 0 (x :: t) x rfl (by simp)).1
    simp [fst, this]
theorem lst_last (H : Lu w o c q r cq cr N F l) : nodeR (if lst (N + 0) l < N then some (lst (N + 0) l) else none) = nodeR l.getLast? := by
  rcases List.eq_nil_or_concat l with rfl | ⟨t, x, rfl⟩
  · simp [lst]
  · rw [List.concat_eq_append] at H ⊢
    have := (H.lo.ring.mem 0 (t ++ [x]) x rfl (by simp)).1
    rw [lst_append]
    simp [lst, this]
set_option maxRecDepth 100000 in
theorem end_first (H : Lu w o c q r cq cr N F l) (v : Value) (HF : Calls Try.prog 53 #[.pointer (some ⟨c, 0, none⟩), .int .i64 0] w fun e w' => e = .returned v ∧ Below w.heap.size w w') (hv : ∃ a b, v = .tuple #[a, b]) :
    Calls Try.prog 101 #[.pointer (some ⟨o, 0, none⟩), .func (.func 53) #[] #[]] w fun e w' => e = .returned v ∧ Below w.heap.size w w' := by
  obtain ⟨va, vb, rfl⟩ := hv
  have HZ := Lib.hid (isZero_any H)
  have c0 := H.cell
  have HFF := Lib.hid HF
  clear H HF
  go_enter Try.func101, Try.ntmps101
  go_wp2_with fail
  refine HZ.out.mono ?_
  rintro e w1 ⟨rfl, rfl⟩
  go_wp2_with fail
  refine HFF.out.mono ?_
  rintro e w1 ⟨rfl, b1⟩
  have B1 := Lib.hid b1
  clear b1
  go_wp2_with fail
  go_ret2
  exact ⟨rfl, B1.out⟩
set_option maxRecDepth 100000 in
theorem end_last (H : Lu w o c q r cq cr N F l) (v : Value) (HF : Calls Try.prog 62 #[.pointer (some ⟨c, 0, none⟩), .int .i64 0] w fun e w' => e = .returned v ∧ Below w.heap.size w w') (hv : ∃ a b, v = .tuple #[a, b]) :
    Calls Try.prog 101 #[.pointer (some ⟨o, 0, none⟩), .func (.func 62) #[] #[]] w fun e w' => e = .returned v ∧ Below w.heap.size w w' := by
  obtain ⟨va, vb, rfl⟩ := hv
  have HZ := Lib.hid (isZero_any H)
  have c0 := H.cell
  have HFF := Lib.hid HF
  clear H HF
  go_enter Try.func101, Try.ntmps101
  go_wp2_with fail
  refine HZ.out.mono ?_
  rintro e w1 ⟨rfl, rfl⟩
  go_wp2_with fail
  refine HFF.out.mono ?_
  rintro e w1 ⟨rfl, b1⟩
  have B1 := Lib.hid b1
  clear b1
  go_wp2_with fail
  go_ret2
  exact ⟨rfl, B1.out⟩
theorem node_form (x : Option Nat) : ∃ a b, nodeR x = .tuple #[a, b] := by cases x <;> exact ⟨_, _, rfl⟩
set_option maxRecDepth 100000 in
theorem Oldest_any (H : Lu w o c q r cq cr N F l) :
    Calls Try.prog 46 #[.pointer (some ⟨o, 0, none⟩)] w fun e w' => e = .returned (nodeR l.head?) ∧ Below w.heap.size w w' := by
  have h1 := First_ok H.lo (k := 0) rfl
  rw [fst_head H] at h1
  have HE := Lib.hid (end_first H _ h1 (node_form _))
  obtain ⟨a, b, hab⟩ := node_form l.head?
  rw [hab] at HE ⊢
  clear H h1 hab
  go_enter Try.func46, Try.ntmps46
  go_wp2_with fail
  refine HE.out.mono ?_
  rintro e w1 ⟨rfl, b1⟩
  have B1 := Lib.hid b1
  clear b1
  go_wp2_with fail
  go_ret2
  exact ⟨rfl, B1.out⟩
set_option maxRecDepth 100000 in
theorem Newest_any (H : Lu w o c q r cq cr N F l) :
    Calls Try.prog 110 #[.pointer (some ⟨o, 0, none⟩)] w fun e w' => e = .returned (nodeR l.getLast?) ∧ Below w.heap.size w w' := by
  have h1 := Last_ok H.lo (k := 0) rfl
  rw [lst_last H] at h1
  have HE := Lib.hid (end_last H _ h1 (node_form _))
  obtain ⟨a, b, hab⟩ := node_form l.getLast?
  rw [hab] at HE ⊢
  clear H h1 hab
  go_enter Try.func110, Try.ntmps110
  go_wp2_with fail
  refine HE.out.mono ?_
  rintro e w1 ⟨rfl, b1⟩
  have B1 := Lib.hid b1
  clear b1
  go_wp2_with fail
  go_ret2
  exact ⟨rfl, B1.out⟩
end
end Go.Proofs.Ytbbcmheedhdlfaa.Lru
