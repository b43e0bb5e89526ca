/-
  Ghost lists (layer 28): grow.
-/
import Derived.Test.YtggimkfepcgaoaaGhoC
import Derived.Lib.AppendZeros
set_option linter.unusedVariables false
set_option linter.unusedSimpArgs false
namespace Go.Proofs.Ytggimkfepcgaoaa.Gho
open Go Go.RowKit Kit Go.Maps Lnk
theorem rnL_ok {N : Nat} {t : Nat → Nat} {h : Nat} (D : List (List Nat)) (R : List (List Nat)) (hD : D.length = h) : ∀ (l m : List Nat), (∀ x ∈ l, t x < N) → ((D ++ m :: R).flatten ++ l.map t).Nodup → rnL N t h l (D ++ m :: R) = some (D ++ (m ++ l.map t) :: R)
  | [], m, _, _ => by simp [rnL]
  | n :: l, m, h1, h2 => by
    have hfree : ∀ k ∈ D ++ m :: R, t n ∉ k := by
      intro k hk hx
      have : t n ∈ (D ++ m :: R).flatten := List.mem_flatten.2 ⟨k, hk, hx⟩
      rw [List.nodup_append] at h2
      exact h2.2.2 _ this (t n) (by simp) rfl
    have hat : (D ++ m :: R)[h]? = some m := by rw [← hD]; simp
    have hs : (D ++ m :: R).set h (m ++ [t n]) = D ++ (m ++ [t n]) :: R := by rw [← hD]; simp
    have ha : addB N (D ++ m :: R) h (t n) = some (D ++ (m ++ [t n]) :: R) := by
      unfold addB
      rw [if_pos ⟨h1 n (by simp), hfree⟩, hat, Option.getD_some, hs]
    rw [rnL, ha]
    show rnL N t h l (D ++ (m ++ [t n]) :: R) = _
    rw [rnL_ok D R hD l (m ++ [t n]) (fun x hx => h1 x (by simp [hx])) ?_]
    · simp
    · refine (List.Perm.nodup_iff ?_).1 h2
      simp only [List.flatten_append, List.flatten_cons, List.map_cons, List.append_assoc]
      refine List.Perm.append_left _ (List.Perm.append_left _ ?_)
      show List.Perm (R.flatten ++ ([t n] ++ l.map t)) ([t n] ++ (R.flatten ++ l.map t))
      rw [← List.append_assoc, ← List.append_assoc]
      exact List.Perm.append_right _ List.perm_append_comm
theorem rnA_ok {N : Nat} {t : Nat → Nat} : ∀ (Ls D : List (List Nat)) (h : Nat), D.length = h → (∀ l ∈ Ls, ∀ x ∈ l, t x < N) → (D.flatten ++ Ls.flatten.map t).Nodup → rnA N t h Ls (D ++ List.replicate Ls.length []) = some (D ++ Ls.map (List.map t))
  | [], D, h, _, _, _ => by simp [rnA]
  | l :: Ls, D, h, hD, h1, h2 => by
    simp only [List.flatten_cons, List.map_append] at h2
    have e : rnL N t h l (D ++ [] :: List.replicate Ls.length []) = some (D ++ ([] ++ l.map t) :: List.replicate Ls.length []) := by
      refine rnL_ok D _ hD l [] (h1 l (by simp)) ?_
      rw [← List.append_assoc] at h2
      have := (List.nodup_append.1 h2).1
      simpa using this
    rw [rnA, List.length_cons, List.replicate_succ, e]
    show rnA N t (h + 1) Ls _ = _
    have := rnA_ok Ls (D ++ [l.map t]) (h + 1) (by simp [hD]) (fun k hk => h1 k (by simp [hk])) (by simpa using h2)
    simpa using this
theorem kp_trans2' {b1 b2 : Nat → Prop} {x y z : World} (h : Kp b1 x y) (k : Kp b2 y z) (hb : ∀ n, n < x.heap.size → b2 n → b1 n) : Kp b1 x z :=
  ⟨k.os.trans h.os, k.tape.trans h.tape, k.output.trans h.output, Nat.le_trans h.size k.size, fun n hn hne => (k.block n (Nat.lt_of_lt_of_le hn h.size) fun h2 => hne (hb n hn h2)).trans (h.block n hn hne)⟩
/-- what grow leaves: a free node, and the keys as they are -/
def GrQ (w w' : World) (b c q r g m nm B : Nat) (D : DataW Unit) (most : Int) (L keys : List Nat) : Prop := ∃ q' r' cq' cr' N' F' g' kc' x fr' KL', Gh w' b c q' r' cq' cr' N' F' g' kc' m nm D most L (x :: fr') KL' ∧ kys KL' L = keys ∧ (q' = q ∨ w.heap.size ≤ q') ∧ (r' = r ∨ w.heap.size ≤ r') ∧ (g' = g ∨ w.heap.size ≤ g') ∧ N' ≤ B ∧ Kp (Obg b c q r g m) w w'
/-- as many places as numbers -/
theorem all_len : ∀ (N : Nat) (l : List Nat), (∀ n, n < N → n ∈ l) → N ≤ l.length
  | 0, _, _ => Nat.zero_le _
  | N + 1, l, h => by
    have h1 := all_len N (l.erase N) fun n hn => (List.mem_erase_of_ne (by omega)).2 (h n (by omega))
    have h2 := List.length_erase_of_mem (h N (by omega))
    have h3 := List.length_pos_of_mem (h N (by omega))
    omega
theorem ky_app {KL M : List Nat} {n : Nat} (hn : n < KL.length) : ky (KL ++ M) n = ky KL n := by unfold ky; rw [List.getElem?_append_left hn]
theorem kys_app {KL M L : List Nat} (h : ∀ n ∈ L, n < KL.length) : kys (KL ++ M) L = kys KL L := List.map_congr_left fun n hn => ky_app (h n hn)
theorem ent_app {KL M L : List Nat} (h : ∀ n ∈ L, n < KL.length) : ent (KL ++ M) L = ent KL L := List.map_congr_left fun n hn => by rw [ky_app (h n hn)]
theorem same_map2 {N M : Nat} (hNM : N ≤ M) {l : List Nat} (hn : l.Nodup) (hl : ∀ x ∈ l, x < N) : rnA M (fun n => (List.range N)[n]?.getD 0) 0 [l, []] (List.replicate [l, ([] : List Nat)].length []) = some [l, []] := by
  have hm : l.map (fun n => (List.range N)[n]?.getD 0) = l := by
    conv => rhs; rw [← List.map_id l]
    exact List.map_congr_left fun x hx => by simp [hl x hx]
  have := rnA_ok (N := M) (t := fun n => (List.range N)[n]?.getD 0) [l, []] [] 0 rfl (fun l' hl' x hx => by
    simp at hl'
    rcases hl' with rfl | rfl
    · have := hl x hx
      simp [this]; omega
    · cases hx) (by simpa [hm] using hn)
  simpa [hm] using this
set_option maxRecDepth 100000 in
set_option maxHeartbeats 4000000 in
theorem ggrow_new {w : World} {b c q r cq cr N : Nat} {F : Lnk.Fd} {g kc m nm : Nat} {D : DataW Unit} {most : Int} {L KL : List Nat} (H : Gh w b c q r cq cr N F g kc m nm D most L [] KL) (hN : N ≤ 1000000) {B : Nat} (hB : 2 * L.length ≤ B) :
    Calls Try.prog 146 #[.pointer (some ⟨b, 0, none⟩)] w fun e w' => e = .returned (.int .i64 0) ∧ GrQ w w' b c q r g m nm B D most L (kys KL L) := by
  have hNB := Lib.hid (show N + N ≤ B by
    have := all_len N L fun n hn => by
      rcases H.pt n hn with h | h
      · exact h
      · cases h
    omega)
  clear hB
  have HLN := Lib.hid (Len_ok H.lo (k := 1) rfl)
  have HNO := Lib.hid (Nodes_any H.lo)
  have HH := Lib.hid H
  obtain ⟨c0, c1, c2, c3, cf⟩ := H.cells
  have n1 := H.lo.n1
  have hmk := fun v => App.mk_row (t := 39) (e := 38) (z := .int .u32 0) (bytes := 4) (by kernel_rfl) (by kernel_rfl) rfl (by omega) N (by omega) v
  clear H
  go_enter Try.func146, Try.ntmps146
  go_wp2_with fail
  refine HLN.out.mono ?_
  rintro e w1 ⟨rfl, rfl⟩
  go_wp2_with fail
  refine HNO.out.mono ?_
  rintro e w1 ⟨rfl, rfl⟩
  go_wp2_with fail
  clear hmk c0 c1 c2 c3 cf
  have R0 := Lib.hid (Row.made w (.int .u32 0) rfl N 38)
  have B0 := Lib.hid (box_below w (madeCells #[.int .u32 0] N) 38)
  go_loopw [24] (fun iv wr => ∃ j : Nat, j ≤ N ∧ iv = .int .i64 (j : Int) ∧ Row wr w.heap.size N 38 (fun k => if k < j then .int .u32 (k : Int) else .int .u32 0) ∧ Below w.heap.size w wr) (fun iv _ => N - (intOf iv).toNat)
  case atStart => exact ⟨0, by omega, rfl, by simpa [Value.cells] using R0.out, B0.out⟩
  case round =>
    obtain ⟨j, hj, rfl, rw0, b0⟩ := hrel
    have RW := Lib.hid rw0
    have BW := Lib.hid b0
    by_cases hjN : j = N
    · subst hjN
      have H1 := Lib.hid (HH.out.below b0)
      obtain ⟨c0, c1, c2, c3, cf⟩ := H1.out.cells
      obtain ⟨a2, ha2⟩ : ∃ a2 : Nat, j + j = a2 := ⟨_, rfl⟩
      have HA2 := Lib.hid ha2
      have w1 : IntKind.i64.wrap (2 * (j : Int)) = (a2 : Int) := by rw [IntWalk.i64_in _ (by omega)]; omega
      have hru : Lnk.Ru wr (some ⟨w.heap.size, 0, none⟩) (ints (List.range j)) := fun i z hz => by
        unfold ints at hz
        rw [List.getElem?_map] at hz
        by_cases hi : i < j
        · rw [List.getElem?_range hi] at hz
          cases hz
          refine ⟨_, rfl, rw0.lt, ?_⟩
          rw [Lnk.add2, rw0.cell i hi]
          simp [hi]
        · rw [List.getElem?_eq_none (by simpa using hi)] at hz
          cases hz
      have h0 := Renumber_by (ct := j) (M := a2) H1.out.lo (List.length_range ..) hru (fun z hz => by have := List.mem_range.1 hz; omega) (by omega) (by omega)
      have hsm : rnA a2 (fun n => (List.range j)[n]?.getD 0) 0 [L, []] (List.replicate [L, ([] : List Nat)].length []) = some [L, []] := same_map2 (by omega) (H1.out.lo.ring.nodup 0 L rfl) (fun z hz => (H1.out.lo.ring.mem 0 L z rfl hz).1)
      rw [hsm] at h0
      unfold RnR at h0
      have HRN := Lib.hid h0
      clear h0 hsm hru rw0 b0 hj R0 B0 ha2
      go_wp2_with fail
      refine HRN.out.mono ?_
      rintro e v1 ⟨rfl, ⟨q', r', cq', cr', F', lo', hq', hr'⟩, kp⟩
      have h1 := H1.out
      have hl1 := h1.lt
      have ob1 := (kp.block b hl1.1 h1.db.1).trans h1.ob
      have own1 := own_of h1.ks (kp.block g hl1.2.2.2.2.1 h1.dg.1)
      obtain ⟨i0, hi0, hz0, hz1, hz2⟩ := u_parts
      obtain ⟨g', k2, v2, hap, own2, hg2, kp2⟩ := run_append_zeros2 v1 39 3 39 38 i0 (.int .u32 0) Try.underlying39 Try.underlying3 hi0 hz0 hz1 rfl rfl (by omega) 0 (Nat.zero_le _) j _ own1 j (by omega) (by omega)
      rw [HA2.out] at hap own2
      have hbg : b ≠ g := h1.db.2.2.2.1
      have ob2 := (kp2.block b (Nat.lt_of_lt_of_le hl1.1 kp.size) hbg).trans ob1
      have HV := Lib.hid (show Lo v1 c q' r' cq' cr' a2 F' [L, []] ∧ wr.heap.size ≤ q' ∧ wr.heap.size ≤ r' ∧ v2.ownsRow 0 38 1 (.slice (some ⟨g', 0, none⟩) a2 k2) a2 ((ints KL).map (Value.int .u32) ++ List.replicate j (.int .u32 0)) ∧ (g' = g ∨ v1.heap.size ≤ g') ∧ Kp (fun k => k = g) v1 v2 ∧ Kp (fun k => k = c) wr v1 ∧ v2.heap[b]? = some (.cells #[.int .i64 most, .pointer (some ⟨c, 0, none⟩), .slice (some ⟨g, 0, none⟩) j kc, .map (some m)] 155 (0, 0)) from ⟨lo', hq', hr', own2, hg2, kp2, kp, ob2⟩)
      have d1 : v1.cell? ⟨b, 1, none⟩ = some (.pointer (some ⟨c, 0, none⟩)) := by simp [World.cell?, ob1]
      have d2 : v1.cell? ⟨b, 2, none⟩ = some (.slice (some ⟨g, 0, none⟩) j kc) := by simp [World.cell?, ob1]
      have e2 : v2.cell? ⟨b, 2, none⟩ = some (.slice (some ⟨g, 0, none⟩) j kc) := by simp [World.cell?, ob2]
      have ef : v2.frozen? ⟨b, 2, none⟩ = false := by simp [World.frozen?, ob2]
      clear lo' hq' hr' own2 hg2 kp2 kp ob2 ob1 own1 h1 hl1 hbg c0 c1 c2 c3 cf hi0 hz0 hz1 hz2
      go_wp2_with (at_builtin; refine Lib.wpList_append_run _ rfl _ _ _ _ rfl _ _ rfl rfl _ _ hap ?_)
      have hX := HV.out
      have h1 := H1.out
      have hl1 := h1.lt
      have hs1 := hX.2.2.2.2.2.2.1.size
      have hs2 := hX.2.2.2.2.2.1.size
      have hq1 := hX.1.lt
      have gne : g' ≠ b ∧ g' ≠ c ∧ g' ≠ q' ∧ g' ≠ r' ∧ g' ≠ m := by
        have := h1.db
        have := h1.dg
        rcases hX.2.2.2.2.1 with h | h
        · subst h; exact ⟨fun e => h1.db.2.2.2.1 e.symm, h1.dg.1, by omega, by omega, h1.dg.2.2.2⟩
        · exact ⟨by omega, by omega, by omega, by omega, by omega⟩
      have bq : b ≠ q' ∧ b ≠ r' ∧ m ≠ q' ∧ m ≠ r' := ⟨by omega, by omega, by omega, by omega⟩
      obtain ⟨V0, hV0⟩ : ∃ V0, v2.setCell ⟨b, 2, none⟩ (.slice (some ⟨g', 0, none⟩) a2 k2) = V0 := ⟨_, rfl⟩
      have hsz : V0.heap.size = v2.heap.size := by rw [← hV0]; simp
      have k0 : ∀ k, k ≠ b → V0.heap[k]? = v2.heap[k]? := fun k hk => by rw [← hV0]; exact Below.heap_setCell v2 ⟨b, 2, none⟩ _ k hk
      have k1 : ∀ k, k < v1.heap.size → k ≠ b → k ≠ g → V0.heap[k]? = v1.heap[k]? := fun k hk h2 h3 => (k0 k h2).trans (hX.2.2.2.2.2.1.block k hk h3)
      have LO0 : Lo V0 c q' r' cq' cr' a2 F' [L, []] := hX.1.of fun k hk => by
        rcases hk with rfl | rfl | rfl
        · exact k1 _ hq1.1 (fun e => h1.db.1 e.symm) (fun e => h1.dg.1 e.symm)
        · exact k1 _ hq1.2.1 (fun e => bq.1 e.symm) (by omega)
        · exact k1 _ hq1.2.2 (fun e => bq.2.1 e.symm) (by omega)
      have OB0 : V0.heap[b]? = some (.cells #[.int .i64 most, .pointer (some ⟨c, 0, none⟩), .slice (some ⟨g', 0, none⟩) a2 k2, .map (some m)] 155 (0, 0)) := by
        rw [← hV0]
        exact heap_set (j := 2) hX.2.2.2.2.2.2.2 (.slice (some ⟨g', 0, none⟩) a2 k2)
      have OW0 := own_of hX.2.2.2.1 (k0 g' gne.1)
      have MP0 : V0.ownsMap Try.prog 38 (plainElem Try.prog 38) m nm D := map_of h1.mp ((k1 m (by omega) (fun e => h1.db.2.2.2.2 e.symm) (fun e => h1.dg.2.2.2 e.symm)).trans (hX.2.2.2.2.2.2.1.block m hl1.2.2.2.2.2 h1.dm.1))
      have KP0 : Kp (Obg b c q r g m) w V0 := by
        have hw := BW.out.size
        refine ⟨?_, ?_, ?_, by omega, fun k hk hn => ?_⟩
        · rw [← hV0]; exact hX.2.2.2.2.2.1.os.trans (hX.2.2.2.2.2.2.1.os.trans BW.out.os)
        · rw [← hV0]; exact hX.2.2.2.2.2.1.tape.trans (hX.2.2.2.2.2.2.1.tape.trans BW.out.tape)
        · rw [← hV0]; exact hX.2.2.2.2.2.1.output.trans (hX.2.2.2.2.2.2.1.output.trans BW.out.output)
        · exact (k1 k (by omega) (fun e => hn (.inl e)) (fun e => hn (.inr (.inr (.inl e))))).trans ((hX.2.2.2.2.2.2.1.block k (by omega) (fun e => hn (.inr (.inl (.inl e))))).trans (BW.out.block k hk))
      have HE := Lib.hid (show (g' ≠ b ∧ g' ≠ c ∧ g' ≠ q' ∧ g' ≠ r' ∧ g' ≠ m) ∧ (b ≠ q' ∧ b ≠ r' ∧ m ≠ q' ∧ m ≠ r') ∧ (V0.heap[b]? = some (.cells #[.int .i64 most, .pointer (some ⟨c, 0, none⟩), .slice (some ⟨g', 0, none⟩) a2 k2, .map (some m)] 155 (0, 0))) ∧ V0.ownsRow 0 38 1 (.slice (some ⟨g', 0, none⟩) a2 k2) a2 ((ints KL).map (Value.int .u32) ++ List.replicate j (.int .u32 0)) ∧ V0.ownsMap Try.prog 38 (plainElem Try.prog 38) m nm D ∧ Kp (Obg b c q r g m) w V0 ∧ w.heap.size ≤ q' ∧ w.heap.size ≤ r' ∧ (g' = g ∨ w.heap.size ≤ g') from ⟨gne, bq, OB0, OW0, MP0, KP0, by have := BW.out.size; omega, by have := BW.out.size; omega, by
        rcases hX.2.2.2.2.1 with h | h
        · exact .inl h
        · exact .inr (by have := BW.out.size; omega)⟩)
      have HLO0 := Lib.hid LO0
      rw [hV0]
      clear hX h1 hl1 hs1 hs2 hq1 gne bq hV0 hsz k0 k1 LO0 OB0 OW0 MP0 KP0 HV d1 d2 e2 ef hap
      go_loopw [7] (fun iv x => ∃ (k i : Nat) (F2 : Lnk.Fd), k ≤ j ∧ Hid (i = j + k) ∧ iv = .int .i64 (i : Int) ∧ Hid (Lo x c q' r' cq' cr' a2 F2 [L, (List.range k).map (j + ·)]) ∧ Hid (Kp (Ob c q' r') V0 x)) (fun iv _ => a2 - (intOf iv).toNat)
      case atStart => exact ⟨0, j, F', Nat.zero_le _, Lib.hid rfl, rfl, HLO0, Lib.hid (Kp.refl _ _)⟩
      case round =>
        obtain ⟨k, i, F2, hk, HI, rfl, LO, KP⟩ := hrel
        have hi := HI.out
        clear HLO0
        have ha := HA2.out
        have hbO : ¬ Ob c q' r' b := fun h => by rcases h with h | h | h; exact H1.out.db.1 h; exact HE.out.2.1.1 h; exact HE.out.2.1.2.1 h
        have hob := (KP.out.block b (Array.getElem?_eq_some_iff.1 HE.out.2.2.1).1 hbO).trans HE.out.2.2.1
        by_cases hkj : k < j
        · have i1 : (i : Int) < (a2 : Int) := by omega
          have wu := IntWalk.u32_in (i : Int) (by omega)
          have wi := IntWalk.i64_in ((i : Int) + 1) (by omega)
          have c1 : wr.cell? ⟨b, 1, none⟩ = some (.pointer (some ⟨c, 0, none⟩)) := by simp [World.cell?, hob]
          have hfr : Free [L, (List.range k).map (j + ·)] i := fun h l hl => by
            match h, hl with
            | 0, hl => simp at hl; subst hl; exact fun hm => by have := H1.out.nodeLt hm; omega
            | 1, hl => simp at hl; subst hl; exact fun hm => by obtain ⟨y, hy, e⟩ := List.mem_map.1 hm; have := List.mem_range.1 hy; omega
            | h + 2, hl => simp at hl
          have HBK := Lib.hid (Back_ok LO.out (h := 1) (n := i) rfl (by omega) hfr)
          have hset : [L, (List.range k).map (j + ·)].set 1 ((List.range k).map (j + ·) ++ [i]) = [L, (List.range (k + 1)).map (j + ·)] := by
            rw [List.range_succ, hi]
            simp
          rw [hset] at HBK
          have i2 : i < a2 ∧ i ≤ 2000000 := ⟨by omega, by omega⟩
          clear hfr hset hob LO hi ha
          go_wp2_with fail
          refine HBK.out.mono ?_
          rintro e x1 ⟨rfl, lo1, kp1⟩
          have LO1 := Lib.hid lo1
          have KP1 := Lib.hid (KP.out.trans kp1)
          clear lo1 kp1 KP c1 HBK
          go_wp2_with fail
          go_roundw
          case rel => exact ⟨k + 1, i + 1, _, by omega, Lib.hid (by have := HI.out; omega), by go_num, LO1, KP1⟩
          case measure => simp [intOf] <;> omega
        · have i1 : ¬ (i : Int) < (a2 : Int) := by omega
          obtain rfl : k = j := by omega
          clear hi
          go_wp2_with fail
          go_ret
          refine ⟨rfl, ?_⟩
          have h1 := H1.out
          have hE := HE.out
          have hs0 := KP.out.size
          have hkl : ∀ n ∈ L, n < KL.length := fun n hn => by rw [h1.kl]; exact h1.nodeLt hn
          have hg'O : ¬ Ob c q' r' g' := fun h => by rcases h with h | h | h; exact hE.1.2.1 h; exact hE.1.2.2.1 h; exact hE.1.2.2.2.1 h
          have hmO : ¬ Ob c q' r' m := fun h => by rcases h with h | h | h; exact h1.dm.1 h; exact hE.2.1.2.2.1 h; exact hE.2.1.2.2.2 h
          have hgl := (hE.2.2.2.1.lt g' rfl).2
          have hml := World.ownsMap.lt hE.2.2.2.2.1
          obtain ⟨y, fr', hfr⟩ : ∃ y fr', (List.range k).map (k + ·) = y :: fr' := by
            cases k with
            | zero => omega
            | succ k => exact ⟨_, _, by rw [List.range_succ_eq_map]; rfl⟩
          have hlo := LO.out
          rw [hfr] at hlo
          refine ⟨q', r', cq', cr', a2, F2, g', k2, y, fr', KL ++ List.replicate k 0, ⟨hob, hlo, ?_, by rw [List.length_append, List.length_replicate, h1.kl]; exact ha, fun z hz => ?_, map_of hE.2.2.2.2.1 (KP.out.block m hml hmO), by rw [ent_app hkl]; exact h1.mf, fun n hn => ?_, ⟨h1.db.1, hE.2.1.1, hE.2.1.2.1, hE.1.1.symm, h1.db.2.2.2.2⟩, ⟨hE.1.2.1, hE.1.2.2.1, hE.1.2.2.2.1, hE.1.2.2.2.2⟩, ⟨h1.dm.1, hE.2.1.2.2.1, hE.2.1.2.2.2⟩⟩, kys_app hkl, .inr hE.2.2.2.2.2.2.1, .inr hE.2.2.2.2.2.2.2.1, hE.2.2.2.2.2.2.2.2, by have := hNB.out; omega, ?_⟩
          · have e1 : (ints (KL ++ List.replicate k 0)).map (Value.int .u32) = (ints KL).map (Value.int .u32) ++ List.replicate k (.int .u32 0) := by unfold ints; simp
            rw [e1]
            exact own_of hE.2.2.2.1 (KP.out.block g' hgl hg'O)
          · rcases List.mem_append.1 hz with hz | hz
            · exact h1.kw z hz
            · have := List.eq_of_mem_replicate hz; omega
          · rcases Nat.lt_or_ge n k with h | h
            · rcases h1.pt n h with h | h
              · exact .inl h
              · cases h
            · refine .inr ?_
              rw [← hfr]
              exact List.mem_map.2 ⟨n - k, List.mem_range.2 (by omega), by omega⟩
          · refine kp_trans2' hE.2.2.2.2.2.1 KP.out fun x hx h => ?_
            rcases h with h | h | h
            · exact .inr (.inl (.inl h))
            · omega
            · omega
    · have hjl : (j : Int) < (N : Int) := by omega
      have j0 : (0 : Int) ≤ (j : Int) := by omega
      have wu := IntWalk.u32_in (j : Int) (by omega)
      have wi := IntWalk.i64_in ((j : Int) + 1) (by omega)
      have f1 := rw0.fr j
      have k1 := rw0.cell j (by omega)
      rw [if_neg (by omega)] at k1
      have RS := Lib.hid ((rw0.set j (.int .u32 (j : Int))).congr (g := fun k => if k < j + 1 then .int .u32 (k : Int) else .int .u32 0) (fun k _ => by
        by_cases hk : k = j
        · subst hk; simp
        · by_cases hk2 : k < j
          · simp [hk, hk2, show k < j + 1 by omega]
          · simp [hk, hk2, show ¬ k < j + 1 by omega]))
      have BS := Lib.hid (BW.out.setCell (p := ⟨w.heap.size, j, none⟩) (Nat.le_refl _) (.int .u32 (j : Int)))
      clear rw0 b0
      go_wp2_with fail
      go_roundw
      case rel => exact ⟨j + 1, by omega, by go_num, RS.out, BS.out⟩
      case measure => simp [intOf]; omega
end Go.Proofs.Ytggimkfepcgaoaa.Gho
