/-
  Victims (layer 18): the law's within.
-/
import Derived.Test.YtlokilkhlhhjgaaVicAb
set_option linter.unusedVariables false
set_option linter.unusedSimpArgs false
namespace Go.Proofs.Ytlokilkhlhhjgaa.Vic
open Go Go.RowKit Kit Go.Maps
/-- what stays without some slots -/
def left (gone : List Int) (l : List Wg) : List Wg := l.filter fun x => !gone.contains x.1
theorem left_succ {gone : List Int} {l : List Wg} {j : Nat} {p : Wg} (hp : l[j]? = some p) : left gone (l.take (j + 1)) = left gone (l.take j) ++ (if p.1 ∈ gone then [] else [p]) := by
  unfold left
  rw [List.take_add_one, hp, List.filter_append]
  by_cases h : p.1 ∈ gone
  · simp [h]
  · simp [h]
theorem left_len (gone : List Int) (l : List Wg) : (left gone l).length ≤ l.length := List.length_filter_le _ _
theorem Costs.left {l : List Wg} (h : Costs l) (gone : List Int) : Costs (left gone l) := fun p hp => h p (by unfold Vic.left at hp; exact (List.mem_filter.1 hp).1)
/-- a row appended to an owned one, at a step of a region that draws -/
theorem step_appO {w : World} {ops : Array Oper} {o : Oper} {a : Act} {K : Act → World → Prop} {Q : Exit → Act → World → Prop} {E : Prop} (hgd : o.guard = none) (s x : Operand)
    (ho : o.op = .call { callee := .builtin .append, args := #[s, x], argTypes := #[22, 22] })
    (base : Nat) (q0 : Option Addr) (n0 k0 : Nat) (l0 : List Wg) (hs : a.eval s = .slice q0 n0 k0) (hown : Ow w base (.slice q0 n0 k0) l0) (p : Option Addr) (m c : Nat) (l : List Wg) (hx : a.eval x = .slice p m c) (hl : l.length = m) (hr : Rd w p l) (hn : n0 + m ≤ 1000000) (hbase : base ≤ w.heap.size)
    (h : ∀ q kk w', Ow w' base (.slice q (n0 + m) kk) (l0 ++ l) → Below base w w' → K (a.put o.dst (.slice q (n0 + m) kk)) w') :
    if Region.wanted o (yielded ops a.tmps) = true then Oper.wp Try.prog o a w K Q else E := by
  have hw : Region.wanted o (yielded ops a.tmps) = true := by simp [Region.wanted, hgd]
  rw [if_pos hw]
  obtain ⟨i0, hi0, hz0, hz1, hz2⟩ := w_parts
  have hu : Try.prog.underlying 22 = some (.slice 34) := by kernel_rfl
  have hl0 : l0.length = n0 := by
    obtain ⟨q', n', k', hv, hn', -, -⟩ := hown.form
    cases hv
    exact hn'.symm
  rcases Nat.eq_zero_or_pos m with rfl | hpos
  · obtain rfl : l = [] := List.length_eq_zero_iff.1 hl
    obtain ⟨q', n', k', hv, -, h1, h2⟩ := hown.form
    cases hv
    unfold Oper.wp execOp
    simp only [ho, resolve, invoke, builtin, Sem.run_bind, Sem.run_pure, Result.andThen_ok, List.map_toArray, List.map_cons, List.map_nil, hs, hx, run_append_zero' w _ o.type _ i0 hu hi0 q0 n0 k0 h1 h2 p c]
    exact h q0 k0 w (by rw [List.append_nil]; exact hown) (Below.refl _ _)
  · obtain ⟨y, rfl⟩ : ∃ y, p = some y := by
      obtain ⟨y, hy, -⟩ := hr 0 (l[0]'(by omega)) (List.getElem?_eq_getElem (by omega))
      exact ⟨y, hy⟩
    have hown' : w.ownsRow base 34 2 (.slice q0 n0 k0) n0 (cellsW l0) := by
      have := hown
      unfold Ow at this
      rwa [hl0] at this
    obtain ⟨v', w', hr2, h2, h3, _, h5⟩ := run_append_own_at (P := Try.prog) w base 22 o.type _ i0 _ 2 16 hu hi0 hz0 hz1 hz2 rfl (by decide) (.slice q0 n0 k0) n0 (cellsW l0) hown' y m c (cellsW l) (by rw [cellsW_len, hl]) (fun j u hj => hr.news j u hj) (cellsW_one l) (by unfold maxLen; omega) (by omega) hbase
    have h2' : Ow w' base v' (l0 ++ l) := by
      unfold Ow
      rw [List.length_append, hl, hl0, cellsW_append]
      exact h2
    obtain ⟨q, nn, kk, rfl, hnn, -, -⟩ := h2'.form
    rw [List.length_append, hl, hl0] at hnn
    subst hnn
    unfold Oper.wp execOp
    simp only [ho, resolve, invoke, builtin, Sem.run_bind, Sem.run_pure, Result.andThen_ok, List.map_toArray, List.map_cons, List.map_nil, hs, hx, hr2]
    exact h q kk w' h2' ((Below.refl base w).grown h3 hbase fun k hk => (hown'.lt k hk).1)
theorem Lt.sz {W v : World} {p1 p2 : Option Addr} {m1 c1 m2 c2 : Nat} (h : v.cell? ⟨W.heap.size, 0, none⟩ = some (.slice p1 m1 c1) ∧ v.cell? ⟨W.heap.size, 1, none⟩ = some (.slice p2 m2 c2) ∧ Lt W v p1 m1 c1 p2 m2 c2) : W.heap.size + 1 ≤ v.heap.size := (Array.getElem?_eq_some_iff.1 h.2.2.1).1
theorem Lt.keepA {W v w' : World} {p1 p2 : Option Addr} {m1 c1 m2 c2 : Nat} (hb : Below (W.heap.size + 1) v w') (h : v.cell? ⟨W.heap.size, 0, none⟩ = some (.slice p1 m1 c1) ∧ v.cell? ⟨W.heap.size, 1, none⟩ = some (.slice p2 m2 c2) ∧ Lt W v p1 m1 c1 p2 m2 c2) : w'.cell? ⟨W.heap.size, 0, none⟩ = some (.slice p1 m1 c1) ∧ w'.cell? ⟨W.heap.size, 1, none⟩ = some (.slice p2 m2 c2) ∧ Lt W w' p1 m1 c1 p2 m2 c2 := by
  have hl : Lt W w' p1 m1 c1 p2 m2 c2 := ⟨(hb.block _ (Nat.lt_succ_self _)).trans h.2.2.1, h.2.2.2.trans (hb.mono (Nat.le_succ _))⟩
  exact Lt.conj hl
def WiR (e : Ending) (n b : Int) (gone : List Int) (l : List Wg) : Prop := Says e (((left gone l).length : Int) ≤ n ∧ tot (left gone l) ≤ b)
set_option maxRecDepth 100000 in
set_option maxHeartbeats 1000000 in
theorem within_any {W : World} {m1 c1 m2 c2 m3 c3 : Nat} {p1 p2 p3 : Option Addr} {l1 l2 : List Wg} {gone : List Int} {n b : Int} (h1 : l1.length = m1) (h2 : l2.length = m2) (r1 : Rd W p1 l1) (r2 : Rd W p2 l2) (hb1 : m1 ≤ 100) (hb2 : m2 ≤ 100) (hc : Costs (l1 ++ l2)) (h3 : gone.length = m3) (r3 : Ru W p3 gone) (hb3 : m3 ≤ 1000) :
    Calls Try.prog 21 #[ents p1 m1 c1 p2 m2 c2, .slice p3 m3 c3, .int .i64 n, .int .i64 b] W fun e w' => WiR e n b gone (l1 ++ l2) ∧ Below W.heap.size W w' := by
  have hL : (l1 ++ l2).length = m1 + m2 := by rw [List.length_append, h1, h2]
  have HCA := Lib.hid hc
  have R3 := Lib.hid (fun (v : World) (hb : Below W.heap.size W v) => r3.below hb)
  have R1 := Lib.hid (fun (v : World) (hb : Below W.heap.size W v) => r1.below hb)
  have R2 := Lib.hid (fun (v : World) (hb : Below W.heap.size W v) => r2.below hb)
  have H1 := Lib.hid h1
  have H2 := Lib.hid h2
  have H3 := Lib.hid h3
  clear r1 r2 r3 hc h3
  go_enter Try.func21, Try.ntmps21
  clear h1 h2
  go_wp2_with fail
  have L0 := Lib.hid (Lt.new W p1 m1 c1 p2 m2 c2)
  generalize W.alloc (.cells #[.slice p1 m1 c1, .slice p2 m2 c2] 24) = V at *
  have hb12 : m1 + m2 ≤ 200 := by omega
  go_region_held3 (fun w' => w'.cell? ⟨W.heap.size, 0, none⟩ = some (.slice p1 m1 c1) ∧ w'.cell? ⟨W.heap.size, 1, none⟩ = some (.slice p2 m2 c2) ∧ Lt W w' p1 m1 c1 p2 m2 c2)
    (first
      | (exact Lt.conj (L0.out.below (Below.drew (Below.refl _ _))))
      | (exact Lt.keep bN (by assumption))
      | (exact Lt.keepA bM (by assumption))
      | assumption
      | fail)
    (first
      | (refine step_appN (by rfl) (.const (.slice none 0 0)) (.tmp 14) (by rfl) (W.heap.size + 1) (by rfl) p1 m1 c1 l1 (by rfl) H1.out (R1.out _ (Lt.b (by assumption))) (by omega) (Lt.sz (by assumption)) ?_; intro qA kA xA oA bN)
      | (refine step_appO (by rfl) (.tmp 15) (.tmp 17) (by rfl) (W.heap.size + 1) qA m1 kA l1 (by rfl) oA p2 m2 c2 l2 (by rfl) H2.out (R2.out _ (Lt.b (by assumption))) (by omega) (Lt.sz (by assumption)) ?_; intro qB kB xB oB bM)
      | fail)
  have B3 := Lib.hid (Lt.b (v := xB) (by assumption))
  have AL := Lib.hid (ow_al oB)
  clear oA oB bN bM hL R1 R2 H1 H2 L0
  obtain ⟨nn, hnn⟩ : ∃ x, m1 + m2 = x := ⟨_, rfl⟩
  obtain ⟨ll, hll⟩ : ∃ x, l1 ++ l2 = x := ⟨_, rfl⟩
  rw [hnn] at hb12 AL ⊢
  rw [hll] at AL HCA
  have HLL := Lib.hid hll
  have HL := Lib.hid AL.out.1
  have htt := HCA.out.tot
  rw [HL.out] at htt
  clear hnn hll hb1 hb2
  go_wp2_with fail
  clear htt
  go_loopw [9, 10, 12] (fun v9 v10 v wr => ∃ i : Nat, i ≤ nn ∧ v = .int .i64 i ∧ v9 = .int .i64 ((left gone (ll.take i)).length : Int) ∧ v10 = .int .i64 (tot (left gone (ll.take i))) ∧ Below xB.heap.size xB wr) (fun _ _ v _ => nn - (intOf v).toNat)
  case atStart => exact ⟨0, by omega, rfl, rfl, rfl, Below.refl _ _⟩
  case round =>
    obtain ⟨i, hi, rfl, rfl, rfl, bW⟩ := hrel
    have BW := Lib.hid bW
    have BE := Lib.hid (fun w' (hb : Below xB.heap.size xB w') => B3.out.trans (hb.mono B3.out.size))
    clear bW
    have i0 : (0 : Int) ≤ (i : Int) := by omega
    by_cases hin : i = nn
    · have HTK := Lib.hid (List.take_of_length_le (Nat.le_of_eq (HL.out.trans hin.symm)))
      subst hin
      have END := Lib.hid (show ∀ v : Bool, (v = true ↔ ((left gone ll).length : Int) ≤ n ∧ tot (left gone ll) ≤ b) → WiR (.returned (.bool v)) n b gone (l1 ++ l2) from fun v hv => by
        unfold WiR
        rw [HLL.out]
        exact ⟨v, rfl, hv⟩)
      rw [HTK.out]
      generalize (left gone ll).length = c at *
      generalize tot (left gone ll) = S at *
      by_cases k1 : (c : Int) ≤ n
      · by_cases k2 : S ≤ b
        · go_wp2_with fail
          go_ret
          exact ⟨END.out _ (by simp [k1, k2]), BE.out _ BW.out⟩
        · have K2 := Lib.hid k2
          go_wp2_with fail
          go_ret
          exact ⟨END.out _ (by have := K2.out; simp; omega), BE.out _ BW.out⟩
      · have K1 := Lib.hid k1
        go_wp2_with fail
        go_ret
        exact ⟨END.out _ (by have := K1.out; simp; omega), BE.out _ BW.out⟩
    · have hlt : i < nn := by omega
      have hlt' : (i : Int) < (nn : Int) := by omega
      obtain ⟨p, hp⟩ : ∃ p, ll[i]? = some p := ⟨ll[i]'(by rw [HL.out]; omega), List.getElem?_eq_getElem _⟩
      obtain ⟨g, rfl, -, -, hG⟩ := AL.out.at_ hp
      have HG := Lib.hid hG
      obtain ⟨e0, e1, hg⟩ := hG _ BW.out
      have hls := left_succ (gone := gone) hp
      have HFD := Lib.hid (fun (v : World) (hb : Below W.heap.size W v) => find_any (w := v) (c := c3) p.1 H3.out (R3.out v hb) (by omega))
      have HLS := Lib.hid hls
      have hbl := left_len gone (ll.take i)
      rw [List.length_take] at hbl
      have hbt := ((HCA.out.take i).left gone).tot
      have hbt2 := ((HCA.out.take (i + 1)).left gone).tot
      have hbl2 := left_len gone (ll.take (i + 1))
      rw [List.length_take] at hbl2
      rw [hls] at hbt2 hbl2
      clear hp hG hls
      obtain ⟨cc, hcc⟩ : ∃ x, (left gone (ll.take i)).length = x := ⟨_, rfl⟩
      obtain ⟨S, hS⟩ : ∃ x, tot (left gone (ll.take i)) = x := ⟨_, rfl⟩
      by_cases hmem : p.1 ∈ gone
      · rw [if_pos hmem, List.append_nil] at HLS
        have HM := Lib.hid hmem
        have HCC := Lib.hid hcc
        have HS := Lib.hid hS
        rw [hcc, hS]
        clear hbt hbl hbt2 hbl2 hcc hS hmem
        go_wp2_with fail
        refine (HFD.out _ (BE.out _ BW.out)).mono ?_
        rintro e w3 ⟨⟨r, rfl, hr⟩, b3⟩
        have hr0 : ¬ r < 0 := fun h => hr.1 h HM.out
        have B5 := Lib.hid (BW.out.trans (b3.mono BW.out.size))
        clear b3 hr
        go_wp2_with fail
        go_roundw
        case rel => exact ⟨i + 1, by omega, by go_num, by rw [HLS.out, HCC.out], by rw [HLS.out, HS.out], B5.out⟩
        case measure => simp [intOf]; omega
      · rw [if_neg hmem] at HLS hbt2 hbl2
        rw [tot_append, List.length_append] at hbt2
        have hp1 : tot [p] = p.2 := by simp [tot]
        rw [hp1, hS] at hbt2
        rw [hS] at hbt
        rw [hcc] at hbl
        simp only [List.length_cons, List.length_nil] at hbt2
        rw [hcc] at hbt2
        have wc := IntWalk.i64_in ((cc : Int) + 1) (by omega)
        have wS := IntWalk.i64_in (S + p.2) (by omega)
        have HM := Lib.hid hmem
        have HCC := Lib.hid hcc
        have HS := Lib.hid hS
        rw [hcc, hS]
        clear hbt hbl hbt2 hbl2 hcc hS hmem
        go_wp2_with fail
        refine (HFD.out _ (BE.out _ BW.out)).mono ?_
        rintro e w3 ⟨⟨r, rfl, hr⟩, b3⟩
        have hr0 : r < 0 := hr.2 HM.out
        have B5 := Lib.hid (BW.out.trans (b3.mono BW.out.size))
        clear b3 hr e0 e1 hg
        obtain ⟨e0, e1, hg⟩ := HG.out _ B5.out
        have HSS := Lib.hid (fun w' (hb : Below xB.heap.size xB w') => (⟨(HG.out w' hb).2.1, hb⟩ : w'.cell? ⟨g, i * 2 + 1, none⟩ = some (.int .i64 p.2) ∧ Below xB.heap.size xB w'))
        go_wp2_with fail
        go_region_held3 (fun w' => w'.cell? ⟨g, i * 2 + 1, none⟩ = some (.int .i64 p.2) ∧ Below xB.heap.size xB w')
          (first
            | (exact HSS.out _ (Below.drew B5.out))
            | assumption
            | fail)
          (first | fail)
        have B6 := Lib.hid (Below.drew B5.out)
        go_wp2_with fail
        go_roundw
        case rel => exact ⟨i + 1, by omega, by go_num, by rw [HLS.out, List.length_append, HCC.out]; rfl, by rw [HLS.out, tot_append, HS.out]; simp [tot], B6.out⟩
        case measure => simp [intOf]; omega
end Go.Proofs.Ytlokilkhlhhjgaa.Vic
