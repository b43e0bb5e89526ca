/-
  Victims (layer 18): the reference: Fair.
-/
import Derived.Test.YtlokilkhlhhjgaaVicP
set_option linter.unusedVariables false
set_option linter.unusedSimpArgs false
namespace Go.Proofs.Ytlokilkhlhhjgaa.Vic
open Go Go.RowKit Kit Go.Maps
theorem bool_of (p : Prop) : ∃ b : Bool, b = true ↔ p := by
  by_cases h : p
  · exact ⟨true, by simp [h]⟩
  · exact ⟨false, by simp [h]⟩
/-- a row that was made, and is read -/
def Al (w : World) (B : Nat) (q : Option Addr) (nn : Nat) (ll : List Wg) : Prop := ll.length = nn ∧ (nn ≠ 0 → ∃ g, q = some ⟨g, 0, none⟩ ∧ B ≤ g ∧ g < w.heap.size) ∧ Rd w q ll
theorem ow_al {w : World} {B : Nat} {q : Option Addr} {n k : Nat} {l : List Wg} (h : Ow w B (.slice q n k) l) : Al w B q n l := by
  refine ⟨?_, fun hn => ow_head h hn, rd_ow h⟩
  obtain ⟨p, n', k', hv, hn, -, -⟩ := h.form
  cases hv
  exact hn.symm
theorem Al.at_ {w : World} {B : Nat} {q : Option Addr} {n : Nat} {l : List Wg} (h : Al w B q n l) {i : Nat} {p : Wg} (hp : l[i]? = some p) : ∃ g, q = some ⟨g, 0, none⟩ ∧ B ≤ g ∧ g < w.heap.size ∧ ∀ w', Below w.heap.size w w' → w'.cell? ⟨g, i * 2, none⟩ = some (.int .u32 p.1) ∧ w'.cell? ⟨g, i * 2 + 1, none⟩ = some (.int .i64 p.2) ∧ g < w'.heap.size := by
  have hi := (List.getElem?_eq_some_iff.1 hp).1
  obtain ⟨g, rfl, h1, h2⟩ := h.2.1 (by have := h.1; omega)
  refine ⟨g, rfl, h1, h2, fun w' hb => ?_⟩
  obtain ⟨y, hy, h3, h4, h5⟩ := h.2.2.below hb i p hp
  cases hy
  rw [add2] at h4 h5
  exact ⟨h4, h5, h3⟩
/-- a row appended, the slice written out -/
theorem wpList_appF {w : World} {ops : Array Oper} {rest : List Oper} {o : Oper} {a : Act} {Q : Exit → Act → World → Prop} (hgd : o.guard = none) (s x : Operand)
    (ho : o.op = .call { callee := .builtin .append, args := #[s, x], argTypes := #[22, 22] })
    (base : Nat) (v : Value) (l0 : List Wg) (hs : a.eval s = v) (hown : Ow w base v l0) (p : Option Addr) (m c : Nat) (l : List Wg) (hx : a.eval x = .slice p m c) (hl : l.length = m) (hr : Rd w p l)
    (hn : l0.length + m ≤ 100000000) (hbase : base ≤ w.heap.size)
    (h : ∀ q nn kk w', nn = l0.length + m → Ow w' base (.slice q nn kk) (l0 ++ l) → Below base w w' → w.heap.size ≤ w'.heap.size → wpList Try.prog ops Q rest (a.put o.dst (.slice q nn kk)) w') :
    wpList Try.prog ops Q (o :: rest) a w := by
  refine wpList_appW hgd s x ho base v l0 hs hown p m c l hx hl hr hn hbase fun v' w' ho' hb hsz => ?_
  obtain ⟨q, nn, kk, rfl, hnn, -, -⟩ := ho'.form
  exact h q nn kk w' (by rw [hnn, List.length_append, hl]) ho' hb hsz
theorem sfair_any (s c : Int) (w : World) : Calls Try.prog 23 #[.int .u32 s, .int .i64 c] w fun e w' => Says e (okW (s, c)) ∧ w = w' := by
  by_cases hok : okW (s, c)
  · obtain ⟨h1, h2, h3⟩ := id hok
    have OK := Lib.hid hok
    simp only at h1 h2 h3
    clear hok
    go_enter Try.func23, Try.ntmps23
    go_wp2_with fail
    go_ret
    exact ⟨Says.yes rfl OK.out, rfl⟩
  · have OK := Lib.hid hok
    have hor : ¬ s < 4194304 ∨ (s < 4194304 ∧ ¬ 0 ≤ c) ∨ (s < 4194304 ∧ 0 ≤ c ∧ ¬ c ≤ 1099511627776) := by unfold okW at hok; simp only at hok; omega
    clear hok
    rcases hor with h1 | ⟨h1, h2⟩ | ⟨h1, h2, h3⟩
    all_goals (
      go_enter Try.func23, Try.ntmps23
      go_wp2_with fail
      go_ret
      exact ⟨Says.no rfl OK.out, rfl⟩)
theorem sfair_is {p : Wg} {b : Bool} (h : b = true ↔ okW p) (w : World) : Calls Try.prog 23 #[.int .u32 p.1, .int .i64 p.2] w fun e w' => e = .returned (.bool b) ∧ Below w.heap.size w w' :=
  (sfair_any p.1 p.2 w).mono fun e w' ⟨⟨v, he, hv⟩, hw⟩ => by
    subst hw
    refine ⟨?_, Below.refl _ _⟩
    rw [he]
    have h3 : v = true ↔ b = true := hv.trans h.symm
    cases v <;> cases b <;> simp at h3 <;> rfl
set_option maxRecDepth 100000 in
set_option maxHeartbeats 1000000 in
theorem rfair_any {W : World} {m1 c1 m2 c2 : Nat} {p1 p2 : Option Addr} {l1 l2 : List Wg} (h1 : l1.length = m1) (h2 : l2.length = m2) (r1 : Rd W p1 l1) (r2 : Rd W p2 l2) (hb1 : m1 ≤ 100) (hb2 : m2 ≤ 100) :
    Calls Try.prog 10 #[.slice p1 m1 c1, .slice p2 m2 c2] W fun e w' => Says e (Fin (l1 ++ l2) (l1 ++ l2).length) ∧ Below W.heap.size W w' := by
  have hL : (l1 ++ l2).length = m1 + m2 := by rw [List.length_append, h1, h2]
  have R1 := Lib.hid (fun (v : World) (hb : Below W.heap.size W v) => r1.below hb)
  have R2 := Lib.hid (fun (v : World) (hb : Below W.heap.size W v) => r2.below hb)
  have H1 := Lib.hid h1
  have H2 := Lib.hid h2
  clear r1 r2
  go_enter Try.func10, Try.ntmps10
  clear h1 h2
  go_wp2_with (first
    | (at_builtin; refine wpList_appW rfl (.const (.slice none 0 0)) (.tmp 8) rfl W.heap.size (.slice none 0 0) [] rfl (World.ownsRow_nil _ _ _ _) p1 m1 c1 l1 rfl H1.out (R1.out _ (Below.refl _ _)) (by simp; omega) (Nat.le_refl _) ?_; intro v2 x2 o2 b2 s2; have O2 := Lib.hid o2; have B2 := Lib.hid b2; clear o2 b2)
    | (at_builtin; refine wpList_appF rfl (.tmp 9) (.tmp 10) rfl W.heap.size v2 ([] ++ l1) rfl O2.out p2 m2 c2 l2 rfl H2.out (R2.out _ B2.out) (by rw [List.nil_append, H1.out]; omega) B2.out.size ?_; intro q nn kk x3 hnn o3 b3 s3; have AL := Lib.hid (ow_al o3); have B3 := Lib.hid (B2.out.trans b3); clear o3 b3; have hnb : nn ≤ 200 := (by rw [List.nil_append, H1.out] at hnn; omega); have hnb' : ¬ (2097152 : Int) < (nn : Int) := (by omega); obtain ⟨ll, hll⟩ : ∃ x, l1 ++ l2 = x := ⟨_, rfl⟩; rw [List.nil_append, hll] at AL; have HLL := Lib.hid hll; have HL := Lib.hid AL.out.1; clear hnn hll s2 s3 hL O2 B2 R1 R2 H1 H2 hb1 hb2))
  go_loopw [6] (fun v wr => ∃ i : Nat, i ≤ nn ∧ v = .int .i64 i ∧ Fin ll i ∧ Below x3.heap.size x3 wr) (fun v _ => nn - (intOf v).toNat)
  case atStart => exact ⟨0, by omega, rfl, Fin.zero _, Below.refl _ _⟩
  case round =>
    obtain ⟨i, hi, rfl, hF, bW⟩ := hrel
    have BW := Lib.hid bW
    have HF := Lib.hid hF
    have BE := Lib.hid (fun w' (hb : Below x3.heap.size x3 w') => B3.out.trans (hb.mono B3.out.size))
    clear bW hF
    have i0 : (0 : Int) ≤ (i : Int) := by omega
    by_cases hin : i = nn
    · subst hin
      go_wp2_with fail
      go_ret
      exact ⟨Says.yes rfl (by rw [HLL.out, HL.out]; exact HF.out), BE.out _ BW.out⟩
    · have hlt : i < nn := by omega
      have hlt' : (i : Int) < (nn : Int) := by omega
      obtain ⟨p, hp⟩ : ∃ p, ll[i]? = some p := ⟨ll[i]'(by rw [HL.out]; omega), List.getElem?_eq_getElem _⟩
      obtain ⟨g, rfl, -, -, hG⟩ := AL.out.at_ hp
      have HP := Lib.hid hp
      have HS := Lib.hid (fun w' (hb : Below x3.heap.size x3 w') => (⟨(hG w' hb).1, (hG w' hb).2.1, (hG w' hb).2.2, hb⟩ : w'.cell? ⟨g, i * 2, none⟩ = some (.int .u32 p.1) ∧ w'.cell? ⟨g, i * 2 + 1, none⟩ = some (.int .i64 p.2) ∧ g < w'.heap.size ∧ Below x3.heap.size x3 w'))
      have HK := Lib.hid (fun (v w' : World) (hb : Below v.heap.size v w') (h : v.cell? ⟨g, i * 2, none⟩ = some (.int .u32 p.1) ∧ v.cell? ⟨g, i * 2 + 1, none⟩ = some (.int .i64 p.2) ∧ g < v.heap.size ∧ Below x3.heap.size x3 v) => HS.out w' (tr h.2.2.2 hb))
      clear hp hG
      obtain ⟨b, hb⟩ : ∃ b : Bool, b = true ↔ okW p := bool_of (okW p)
      have SF := Lib.hid (fun w => sfair_is hb w)
      have HB := Lib.hid hb
      clear hb
      go_wp2_with fail
      go_region_held3 (fun w' => w'.cell? ⟨g, i * 2, none⟩ = some (.int .u32 p.1) ∧ w'.cell? ⟨g, i * 2 + 1, none⟩ = some (.int .i64 p.2) ∧ g < w'.heap.size ∧ Below x3.heap.size x3 w')
        (first
          | (exact HS.out _ (Below.drew BW.out))
          | (exact HK.out _ _ o1 (by assumption))
          | assumption
          | fail)
        (first
          | (go_at_call 23; refine (SF.out _).mono ?_; rintro e w' ⟨rfl, o1⟩)
          | fail)
      have SW := Lib.hid (show w'.cell? ⟨g, i * 2, none⟩ = some (.int .u32 p.1) ∧ w'.cell? ⟨g, i * 2 + 1, none⟩ = some (.int .i64 p.2) ∧ g < w'.heap.size ∧ Below x3.heap.size x3 w' from by assumption)
      clear o1 BW
      cases b with
      | false =>
        have hno : ¬ okW p := fun h => by have := HB.out.2 h; cases this
        have HNO := Lib.hid hno
        clear hno
        go_wp2_with fail
        go_ret
        exact ⟨Says.no rfl (by rw [HLL.out]; exact Fin.not_w HP.out HNO.out), BE.out _ SW.out.2.2.2⟩
      | true =>
        have OK := Lib.hid (HB.out.1 rfl)
        go_wp2_with fail
        go_loopw [7] (fun v wr => ∃ j : Nat, j ≤ i ∧ v = .int .i64 j ∧ (∀ m q, m < j → ll[m]? = some q → q.1 ≠ p.1) ∧ Below x3.heap.size x3 wr) (fun v _ => i - (intOf v).toNat)
        case atStart => exact ⟨0, by omega, rfl, fun m q hm => by omega, SW.out.2.2.2⟩
        case round =>
          obtain ⟨j, hj, rfl, hN, bW⟩ := hrel
          have BW := Lib.hid bW
          have HN := Lib.hid hN
          clear bW hN
          have j0 : (0 : Int) ≤ (j : Int) := by omega
          by_cases hji : j = i
          · subst hji
            have HF2 := Lib.hid (HF.out.succ HP.out OK.out HN.out)
            go_wp2_with fail
            go_roundw
            case rel => exact ⟨j + 1, by omega, by go_num, HF2.out, BW.out⟩
            case measure => simp [intOf]; omega
          · have hlt2 : j < i := by omega
            have hlt2' : (j : Int) < (i : Int) := by omega
            have hlt3' : (j : Int) < (nn : Int) := by omega
            obtain ⟨q, hq⟩ : ∃ p, ll[j]? = some p := ⟨ll[j]'(by rw [HL.out]; omega), List.getElem?_eq_getElem _⟩
            obtain ⟨g', hg', -, -, hG2⟩ := AL.out.at_ hq
            cases hg'
            have HQ := Lib.hid hq
            have HS2 := Lib.hid (fun w' (hb : Below x3.heap.size x3 w') => (⟨(HS.out w' hb).1, (hG2 w' hb).1, hb⟩ : w'.cell? ⟨g, i * 2, none⟩ = some (.int .u32 p.1) ∧ w'.cell? ⟨g, j * 2, none⟩ = some (.int .u32 q.1) ∧ Below x3.heap.size x3 w'))
            clear hq hG2
            have B2 := Lib.hid (Below.drew BW.out)
            by_cases hz : q.1 = p.1
            · have HZ := Lib.hid hz
              rw [hz] at HS2
              clear hz
              go_wp2_with fail
              go_region_held3 (fun w' => w'.cell? ⟨g, i * 2, none⟩ = some (.int .u32 p.1) ∧ w'.cell? ⟨g, j * 2, none⟩ = some (.int .u32 p.1) ∧ Below x3.heap.size x3 w')
                (first
                  | (exact HS2.out _ (Below.drew BW.out))
                  | assumption
                  | fail)
                (first | fail)
              go_wp2_with fail
              go_ret
              exact ⟨Says.no rfl (by rw [HLL.out]; exact Fin.not_d HP.out hlt2 HQ.out HZ.out), BE.out _ B2.out⟩
            · have hb1 : (q.1 == p.1) = false := by rw [beq_eq_false_iff_ne]; exact hz
              have hb2 : (q.1 != p.1) = true := by rw [bne_iff_ne]; exact hz
              have HZ := Lib.hid hz
              clear hz
              go_wp2_with fail
              go_region_held3 (fun w' => w'.cell? ⟨g, i * 2, none⟩ = some (.int .u32 p.1) ∧ w'.cell? ⟨g, j * 2, none⟩ = some (.int .u32 q.1) ∧ Below x3.heap.size x3 w')
                (first
                  | (exact HS2.out _ (Below.drew BW.out))
                  | assumption
                  | fail)
                (first | fail)
              go_wp2_with fail
              go_roundw
              case rel =>
                refine ⟨j + 1, by omega, by go_num, fun m q' hm hq' => ?_, B2.out⟩
                rcases Nat.lt_or_ge m j with h | h
                · exact HN.out m q' h hq'
                · obtain rfl : m = j := by omega
                  rw [HQ.out] at hq'
                  cases hq'
                  exact HZ.out
              case measure => simp [intOf]; omega
end Go.Proofs.Ytlokilkhlhhjgaa.Vic
