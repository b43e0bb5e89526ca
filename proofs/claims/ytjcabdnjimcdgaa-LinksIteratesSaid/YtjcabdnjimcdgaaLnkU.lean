/-
  Links (layer 14): is.
-/
import Derived.Test.YtjcabdnjimcdgaaLnkT
import Derived.Test.YtjcabdnjimcdgaaLnkS
import Derived.Test.YtjcabdnjimcdgaaLnkN
set_option linter.unusedVariables false
set_option linter.unusedSimpArgs false
namespace Go.Proofs.Ytjcabdnjimcdgaa.Lnk
open Go Go.RowKit Kit
/-- a program's field and a reference's one -/
structure Eq2 (w : World) (c q r cq cr N : Nat) (F : Fd) (Ls : List (List Nat)) (p : Option Addr) : Prop where
  lo : Lo w c q r cq cr N F Ls
  rf : Rf w p Ls
theorem Eq2.below {w w' : World} {c q r cq cr N : Nat} {F : Fd} {Ls : List (List Nat)} {p : Option Addr} (h : Eq2 w c q r cq cr N F Ls p) (hb : Below w.heap.size w w') : Eq2 w' c q r cq cr N F Ls p := ⟨h.lo.below hb, h.rf.below hb⟩
theorem Lo.few {w : World} {c q r cq cr N : Nat} {F : Fd} {Ls : List (List Nat)} (H : Lo w c q r cq cr N F Ls) {k : Nat} {l : List Nat} (hl : Ls[k]? = some l) : l.length ≤ N := nodup_le (H.ring.nodup k l hl) fun x hx => (H.ring.mem k l x hl hx).1
theorem lst_at : ∀ (a : Nat) (l : List Nat) (i z : Nat), l.length = i + 1 → l[i]? = some z → lst a l = z
  | a, [], i, z, h, _ => by simp at h
  | a, [x], 0, z, _, hz => by simp at hz; exact hz
  | a, x :: y :: l, i + 1, z, h, hz => lst_at x (y :: l) i z (by simpa using h) (by simpa using hz)
  | a, x :: y :: l, 0, z, h, _ => by simp at h
  | a, [x], i + 1, z, h, _ => by simp at h
theorem Ring.pv_at {F : Fd} {N : Nat} {Ls : List (List Nat)} (R : Ring F N Ls) {h i x : Nat} {l : List Nat} (hl : Ls[h]? = some l) (hx : l[i]? = some x) : F.pv x = lst (N + h) (l.take i) := by
  obtain ⟨hi, he⟩ := List.getElem?_eq_some_iff.1 hx
  have hd : l = l.take i ++ x :: l.drop (i + 1) := by
    conv => lhs; rw [← List.take_append_drop i l, List.drop_eq_getElem_cons hi, he]
  rw [hd] at hl
  exact (R.parts hl).2.2.1
section
variable {w : World} {c q r cq cr N : Nat} {F : Fd} {Ls : List (List Nat)} {p : Option Addr}
theorem collect_ok (H : Lo w c q r cq cr N F Ls) (hN : N ≤ 5000) {k : Nat} {l : List Nat} (hl : Ls[k]? = some l) :
    Calls Try.prog 73 #[.pointer (some ⟨c, 0, none⟩), .int .i64 (k : Int)] w fun e w' => Kl e w' w.heap.size (ints l) ∧ Below w.heap.size w w' :=
  collect_any (by rw [ints_len]; have := H.few hl; omega) fun W hb => All_any (H.below hb) hl
theorem collect_bad (H : Lo w c q r cq cr N F Ls) {h : Int} (hh : ¬ (0 ≤ h ∧ h < (Ls.length : Int))) :
    Calls Try.prog 73 #[.pointer (some ⟨c, 0, none⟩), .int .i64 h] w fun e w' => Kl e w' w.heap.size [] ∧ Below w.heap.size w w' :=
  collect_any (by simp) fun W hb => All_bad (H.below hb) hh
set_option maxRecDepth 100000 in
set_option maxHeartbeats 4000000 in
theorem is_any {Hn cp : Nat} (H : Eq2 w c q r cq cr N F Ls p) (hN : N ≤ 5000) (hH : Ls.length = Hn) :
    Calls Try.prog 18 #[.pointer (some ⟨c, 0, none⟩), fv N p Hn cp] w fun e w' => e = .returned (.bool true) ∧ Below w.heap.size w w' := by
  obtain ⟨y, hpy⟩ : ∃ y, p = some y := by
    obtain ⟨y, h, -⟩ := H.rf 0 (Ls[0]'(by have := H.lo.h1; omega)) (List.getElem?_eq_getElem _)
    exact ⟨y, h⟩
  subst hpy
  unfold fv
  have HB := Lib.hid (box_below w #[.int .i64 (N : Int), .slice (some y) Hn cp] 24)
  have hb0 : (w.alloc (.cells #[.int .i64 (N : Int), .slice (some y) Hn cp] 24)).heap[w.heap.size]? = some (.cells #[.int .i64 (N : Int), .slice (some y) Hn cp] 24 (0, 0)) := (MapKept.heap_alloc w _).1
  have hsz : w.heap.size < (w.alloc (.cells #[.int .i64 (N : Int), .slice (some y) Hn cp] 24)).heap.size := by simp
  have E := Lib.hid (H.below HB.out)
  have n1 := H.lo.n1
  have h1 := H.lo.h1
  have h2 := H.lo.h2
  rw [hH] at h1 h2
  have HH := Lib.hid hH
  clear H hH
  go_enter Try.func18, Try.ntmps18
  go_wp2_with fail
  obtain ⟨V, hV⟩ : ∃ V, w.alloc (.cells #[.int .i64 (N : Int), .slice (some y) Hn cp] 24) = V := ⟨_, rfl⟩
  rw [hV] at E HB hb0 hsz ⊢
  have X := Lib.hid hb0
  clear hV hb0
  have SC := Lib.hid (fun (v : World) (hb : Below V.heap.size V v) => (show v.cell? ⟨w.heap.size, 0, none⟩ = some (.int .i64 (N : Int)) ∧ v.cell? ⟨w.heap.size, 1, none⟩ = some (.slice (some y) Hn cp) ∧ Below V.heap.size V v from ⟨(two_of ((hb.block _ hsz).trans X.out)).1, (two_of ((hb.block _ hsz).trans X.out)).2, hb⟩))
  have E1 := Lib.hid (fun (v : World) (hs : v.cell? ⟨w.heap.size, 0, none⟩ = some (.int .i64 (N : Int)) ∧ v.cell? ⟨w.heap.size, 1, none⟩ = some (.slice (some y) Hn cp) ∧ Below V.heap.size V v) => E.out.below hs.2.2)
  have SK := Lib.hid (fun (v v' : World) (hb : Below v.heap.size v v') (hs : v.cell? ⟨w.heap.size, 0, none⟩ = some (.int .i64 (N : Int)) ∧ v.cell? ⟨w.heap.size, 1, none⟩ = some (.slice (some y) Hn cp) ∧ Below V.heap.size V v) => SC.out v' (tr hs.2.2 hb))
  have BW := Lib.hid (fun (v : World) (hs : v.cell? ⟨w.heap.size, 0, none⟩ = some (.int .i64 (N : Int)) ∧ v.cell? ⟨w.heap.size, 1, none⟩ = some (.slice (some y) Hn cp) ∧ Below V.heap.size V v) => tr HB.out hs.2.2)
  have HND := Lib.hid (fun (v : World) (hs : v.cell? ⟨w.heap.size, 0, none⟩ = some (.int .i64 (N : Int)) ∧ v.cell? ⟨w.heap.size, 1, none⟩ = some (.slice (some y) Hn cp) ∧ Below V.heap.size V v) => Nodes_any (E1.out v hs).lo)
  have HHD := Lib.hid (fun (v : World) (hs : v.cell? ⟨w.heap.size, 0, none⟩ = some (.int .i64 (N : Int)) ∧ v.cell? ⟨w.heap.size, 1, none⟩ = some (.slice (some y) Hn cp) ∧ Below V.heap.size V v) => Heads_any (E1.out v hs).lo)
  rw [HH.out] at HHD
  obtain ⟨x0, x1, _⟩ := SC.out _ (Below.refl _ _)
  go_region_held3 (fun w' => w'.cell? ⟨w.heap.size, 0, none⟩ = some (.int .i64 (N : Int)) ∧ w'.cell? ⟨w.heap.size, 1, none⟩ = some (.slice (some y) Hn cp) ∧ Below V.heap.size V w')
    (first
      | (exact SC.out _ (Below.drew (Below.refl _ _)))
      | assumption
      | fail)
    (first
      | (go_at_call 82; refine (HND.out _ (by assumption)).mono ?_; rintro e w' ⟨rfl, rfl⟩)
      | (go_at_call 84; refine (HHD.out _ (by assumption)).mono ?_; rintro e w' ⟨rfl, rfl⟩)
      | fail)
  have S1 := Lib.hid (SC.out _ (Below.drew (Below.refl V.heap.size V)))
  obtain ⟨V1, hV1⟩ : ∃ V1, V.drew = V1 := ⟨_, rfl⟩
  rw [hV1] at S1 ⊢
  clear hV1 x0 x1
  obtain ⟨x0, x1, _⟩ := S1.out
  go_wp2_with fail
  go_loopw [5] (fun v wr => ∃ hI : Int, -1 ≤ hI ∧ hI ≤ (Hn : Int) + 1 ∧ v = .int .i64 hI ∧ wr.cell? ⟨w.heap.size, 0, none⟩ = some (.int .i64 (N : Int)) ∧ wr.cell? ⟨w.heap.size, 1, none⟩ = some (.slice (some y) Hn cp) ∧ Below V.heap.size V wr) (fun v _ => Hn + 2 - (intOf v + 1).toNat)
  case atStart => exact ⟨-1, by omega, by omega, rfl, S1.out⟩
  case round =>
    obtain ⟨hI, hi0, hi1, rfl, hs0⟩ := hrel
    have S0 := Lib.hid hs0
    clear hs0 x0 x1
    obtain ⟨x0, x1, _⟩ := S0.out
    by_cases hend : hI = (Hn : Int) + 1
    · subst hend
      go_wp2_with fail
      go_loopw [14] (fun v wr => ∃ n : Nat, n ≤ N + 1 ∧ v = .int .i64 (n : Int) ∧ wr.cell? ⟨w.heap.size, 0, none⟩ = some (.int .i64 (N : Int)) ∧ wr.cell? ⟨w.heap.size, 1, none⟩ = some (.slice (some y) Hn cp) ∧ Below V.heap.size V wr) (fun v _ => N + 1 - (intOf v).toNat)
      case atStart => exact ⟨0, by omega, rfl, S0.out⟩
      case round =>
        rename_i wrOld _
        obtain ⟨n, hn0, rfl, hs0⟩ := hrel
        have S0 := Lib.hid hs0
        clear hs0 x0 x1
        obtain ⟨x0, x1, _⟩ := S0.out
        by_cases hend : n = N + 1
        · subst hend
          go_wp2_with fail
          go_ret
          exact ⟨rfl, BW.out _ S0.out⟩
        · have hle : (n : Int) ≤ (N : Int) := by omega
          have wi := IntWalk.i64_in ((n : Int) + 1) (by omega)
          have wu := IntWalk.u32_in (n : Int) (by omega)
          have hLL := fun (h : Nat) (l : List Nat) hl => Nat.le_trans (E.out.lo.few (k := h) (l := l) hl) (show N ≤ 4194304 by omega)
          have hpl := fun (v : World) (hs : v.cell? ⟨w.heap.size, 0, none⟩ = some (.int .i64 (N : Int)) ∧ v.cell? ⟨w.heap.size, 1, none⟩ = some (.slice (some y) Hn cp) ∧ Below V.heap.size V v) => rplace_any (N := N) (cp := cp) (n := n) HH.out h2 hLL (E1.out v hs).rf
          unfold fv at hpl
          clear hLL
          by_cases hnN : n = N
          · have hfree : Free Ls n := fun h l hl hm => by have := (E.out.lo.ring.mem h l n hl hm).1; omega
            have HPL := Lib.hid (fun (v : World) (hs : v.cell? ⟨w.heap.size, 0, none⟩ = some (.int .i64 (N : Int)) ∧ v.cell? ⟨w.heap.size, 1, none⟩ = some (.slice (some y) Hn cp) ∧ Below V.heap.size V v) => (hpl v hs).mono (fun e v' h => (show e = .returned (.tuple #[.int .i64 (-1), .int .i64 (-1)]) ∧ Below v.heap.size v v' from ⟨by
              rcases h.1 with ⟨a, b, l, g1, g2, _⟩ | ⟨_, g⟩
              · exact absurd (List.mem_of_getElem? g2) (hfree a l g1)
              · exact g, h.2⟩)))
            have HOF := Lib.hid (fun (v : World) (hs : v.cell? ⟨w.heap.size, 0, none⟩ = some (.int .i64 (N : Int)) ∧ v.cell? ⟨w.heap.size, 1, none⟩ = some (.slice (some y) Hn cp) ∧ Below V.heap.size V v) => Of_bad (E1.out v hs).lo (n := (n : Int)) (by omega) (by omega))
            have HNX := Lib.hid (fun (v : World) (hs : v.cell? ⟨w.heap.size, 0, none⟩ = some (.int .i64 (N : Int)) ∧ v.cell? ⟨w.heap.size, 1, none⟩ = some (.slice (some y) Hn cp) ∧ Below V.heap.size V v) => Next_bad (E1.out v hs).lo (n := (n : Int)) (by omega) (by omega))
            have HPV := Lib.hid (fun (v : World) (hs : v.cell? ⟨w.heap.size, 0, none⟩ = some (.int .i64 (N : Int)) ∧ v.cell? ⟨w.heap.size, 1, none⟩ = some (.slice (some y) Hn cp) ∧ Below V.heap.size V v) => Prev_bad (E1.out v hs).lo (n := (n : Int)) (by omega) (by omega))
            clear hpl hfree
            subst hnN
            go_wp2_with fail
            refine (HOF.out _ S0.out).mono ?_
            rintro e va ⟨rfl, ba⟩
            have SA := Lib.hid (SK.out _ _ ba S0.out)
            clear ba
            go_wp2_with fail
            refine (HNX.out _ SA.out).mono ?_
            rintro e vb ⟨rfl, bb⟩
            have SB := Lib.hid (SK.out _ _ bb SA.out)
            clear bb
            go_wp2_with fail
            refine (HPV.out _ SB.out).mono ?_
            rintro e vc ⟨rfl, bc⟩
            have SCC := Lib.hid (SK.out _ _ bc SB.out)
            clear bc x0 x1
            obtain ⟨x0, x1, _⟩ := SCC.out
            go_wp2_with fail
            refine (HPL.out _ SCC.out).mono ?_
            rintro e vd ⟨rfl, bd⟩
            have SD := Lib.hid (SK.out _ _ bd SCC.out)
            clear bd x0 x1
            obtain ⟨x0, x1, _⟩ := SD.out
            go_wp2_with fail
            refine (gives_any _ _ _ _ _).mono ?_
            rintro e v8 ⟨rfl, rfl⟩
            go_wp2_with fail
            refine (gives_any _ _ _ _ _).mono ?_
            rintro e v8 ⟨rfl, rfl⟩
            go_wp2_with fail
            go_roundw
            case rel => exact ⟨n + 1, by omega, by go_num, SD.out⟩
            case measure => simp [intOf] <;> omega
          · have hlt : n < N := by omega
            have hneq : ((n : Int) == (N : Int)) = false := by rw [beq_eq_false_iff_ne]; omega
            by_cases hfr : F.hd n = -1
            · have hfree : Free Ls n := (E.out.lo.ring.free_iff hlt).1 hfr
              have HPL := Lib.hid (fun (v : World) (hs : v.cell? ⟨w.heap.size, 0, none⟩ = some (.int .i64 (N : Int)) ∧ v.cell? ⟨w.heap.size, 1, none⟩ = some (.slice (some y) Hn cp) ∧ Below V.heap.size V v) => (hpl v hs).mono (fun e v' h => (show e = .returned (.tuple #[.int .i64 (-1), .int .i64 (-1)]) ∧ Below v.heap.size v v' from ⟨by
                rcases h.1 with ⟨a, b, l, g1, g2, _⟩ | ⟨_, g⟩
                · exact absurd (List.mem_of_getElem? g2) (hfree a l g1)
                · exact g, h.2⟩)))
              have hof := fun (v : World) (hs : v.cell? ⟨w.heap.size, 0, none⟩ = some (.int .i64 (N : Int)) ∧ v.cell? ⟨w.heap.size, 1, none⟩ = some (.slice (some y) Hn cp) ∧ Below V.heap.size V v) => Of_in (E1.out v hs).lo hlt hfr
              have hnx := fun (v : World) (hs : v.cell? ⟨w.heap.size, 0, none⟩ = some (.int .i64 (N : Int)) ∧ v.cell? ⟨w.heap.size, 1, none⟩ = some (.slice (some y) Hn cp) ∧ Below V.heap.size V v) => Next_free (E1.out v hs).lo hlt hfr
              have hpv := fun (v : World) (hs : v.cell? ⟨w.heap.size, 0, none⟩ = some (.int .i64 (N : Int)) ∧ v.cell? ⟨w.heap.size, 1, none⟩ = some (.slice (some y) Hn cp) ∧ Below V.heap.size V v) => Prev_free (E1.out v hs).lo hlt hfr
              simp only [if_true, nodeR] at hof hnx hpv
              have HOF := Lib.hid hof
              have HNX := Lib.hid hnx
              have HPV := Lib.hid hpv
              clear hpl hfree hof hnx hpv hfr
              go_wp2_with fail
              refine (HOF.out _ S0.out).mono ?_
              rintro e va ⟨rfl, ba⟩
              have SA := Lib.hid (SK.out _ _ ba S0.out)
              clear ba
              go_wp2_with fail
              refine (HNX.out _ SA.out).mono ?_
              rintro e vb ⟨rfl, bb⟩
              have SB := Lib.hid (SK.out _ _ bb SA.out)
              clear bb
              go_wp2_with fail
              refine (HPV.out _ SB.out).mono ?_
              rintro e vc ⟨rfl, bc⟩
              have SCC := Lib.hid (SK.out _ _ bc SB.out)
              clear bc x0 x1
              obtain ⟨x0, x1, _⟩ := SCC.out
              go_wp2_with fail
              refine (HPL.out _ SCC.out).mono ?_
              rintro e vd ⟨rfl, bd⟩
              have SD := Lib.hid (SK.out _ _ bd SCC.out)
              clear bd x0 x1
              obtain ⟨x0, x1, _⟩ := SD.out
              go_wp2_with fail
              refine (gives_any _ _ _ _ _).mono ?_
              rintro e v8 ⟨rfl, rfl⟩
              go_wp2_with fail
              refine (gives_any _ _ _ _ _).mono ?_
              rintro e v8 ⟨rfl, rfl⟩
              go_wp2_with fail
              go_roundw
              case rel => exact ⟨n + 1, by omega, by go_num, SD.out⟩
              case measure => simp [intOf]; omega
            · obtain ⟨k, l, hl, hmem, hk⟩ := E.out.lo.ring.in_list hlt hfr
              obtain ⟨i, hi⟩ := List.mem_iff_getElem?.1 hmem
              have hil := (List.getElem?_eq_some_iff.1 hi).1
              have HPL := Lib.hid (fun (v : World) (hs : v.cell? ⟨w.heap.size, 0, none⟩ = some (.int .i64 (N : Int)) ∧ v.cell? ⟨w.heap.size, 1, none⟩ = some (.slice (some y) Hn cp) ∧ Below V.heap.size V v) => (hpl v hs).mono (fun e v' h => (show e = .returned (.tuple #[.int .i64 (k : Int), .int .i64 (i : Int)]) ∧ Below v.heap.size v v' from ⟨by
                rcases h.1 with ⟨a, b, l2, g1, g2, g⟩ | ⟨g, _⟩
                · obtain rfl : a = k := E.out.lo.ring.uni g1 hl (List.mem_of_getElem? g2) hmem
                  rw [hl] at g1
                  cases g1
                  obtain rfl : b = i := ((List.getElem?_inj hil (E.out.lo.ring.nodup _ _ hl)).1 (hi.trans g2.symm)).symm
                  exact g
                · exact absurd hmem (g k l hl), h.2⟩)))
              have hof := fun (v : World) (hs : v.cell? ⟨w.heap.size, 0, none⟩ = some (.int .i64 (N : Int)) ∧ v.cell? ⟨w.heap.size, 1, none⟩ = some (.slice (some y) Hn cp) ∧ Below V.heap.size V v) => Of_in (E1.out v hs).lo hlt hk
              simp only [if_neg (show ¬ (k : Int) = -1 by omega)] at hof
              have HOF := Lib.hid hof
              have hkH := (List.getElem?_eq_some_iff.1 hl).1
              rw [HH.out] at hkH
              have hnx' : F.nx n = fst (l.drop (i + 1)) (N + k) := E.out.lo.ring.at_ hl hi
              have hpv' : F.pv n = lst (N + k) (l.take i) := E.out.lo.ring.pv_at hl hi
              have hmm := fun x => E.out.lo.ring.mem k l x hl
              have hfew := E.out.lo.few hl
              obtain ⟨y', hy', hyb, ph, ch, e0, ru⟩ := E.out.rf k l hl
              cases hy'
              obtain ⟨y2, rfl, hy2b, _⟩ := ru i _ (ints_at hi)
              obtain ⟨M, hM⟩ : ∃ M, l.length = M := ⟨_, rfl⟩
              rw [hM] at e0 hil hfew
              obtain ⟨II, hII⟩ : ∃ II, II = i + 1 := ⟨_, rfl⟩
              have wI : IntKind.i64.wrap ((i : Int) + 1) = (II : Int) := by rw [IntWalk.i64_in _ (by omega)]; omega
              have k0 : (0 : Int) ≤ (k : Int) := by omega
              have k1 : (k : Int) < (Hn : Int) := by omega
              have hk3 : ¬ (k : Int) < 0 := by omega
              have i0 : (0 : Int) ≤ (i : Int) := by omega
              have I0 : (0 : Int) ≤ (II : Int) := by omega
              clear hpl hof
              have NEXT : (∃ x, l[II]? = some x ∧ x < N ∧ F.nx n = x) ∨ (¬ II < M ∧ F.nx n = N + k) := by
                rcases Nat.lt_or_ge II M with h | h
                · obtain ⟨x, hx⟩ : ∃ x, l[II]? = some x := ⟨l[II]'(by omega), List.getElem?_eq_getElem _⟩
                  refine .inl ⟨x, hx, (hmm x (List.mem_of_getElem? hx)).1, ?_⟩
                  rw [hnx', ← hII, fst_drop hx]
                · refine .inr ⟨by omega, ?_⟩
                  rw [hnx', List.drop_of_length_le (by omega)]
                  rfl
              have PREV : (∃ j x, (j : Nat) + 1 = i ∧ l[j]? = some x ∧ x < N ∧ F.pv n = x) ∨ (i = 0 ∧ F.pv n = N + k) := by
                rcases Nat.eq_zero_or_pos i with h | h
                · refine .inr ⟨h, ?_⟩
                  rw [hpv', h]
                  rfl
                · obtain ⟨j, rfl⟩ : ∃ j, i = j + 1 := ⟨i - 1, by omega⟩
                  obtain ⟨x, hx⟩ : ∃ x, l[j]? = some x := ⟨l[j]'(by omega), List.getElem?_eq_getElem _⟩
                  refine .inl ⟨j, x, rfl, hx, (hmm x (List.mem_of_getElem? hx)).1, ?_⟩
                  rw [hpv']
                  exact lst_at _ _ j x (by rw [List.length_take]; omega) (by rw [List.getElem?_take, if_pos (by omega)]; exact hx)
              have HC := Lib.hid (fun (v : World) (hs : v.cell? ⟨w.heap.size, 0, none⟩ = some (.int .i64 (N : Int)) ∧ v.cell? ⟨w.heap.size, 1, none⟩ = some (.slice (some y) Hn cp) ∧ Below V.heap.size V v) => (show v.cell? (y.add k) = some (.slice (some y2) M ch) ∧ Ru v (some y2) (ints l) from ⟨(hs.2.2.cell (by rw [add_block]; exact hyb)).trans e0, ru.below hs.2.2⟩))
              clear e0 ru hnx' hpv' hmm hl hmem
              rcases NEXT with ⟨x, hx, hxN, hnx'⟩ | ⟨hnI, hnx'⟩
              all_goals (rcases PREV with ⟨j, z, hj, hz, hzN, hpv'⟩ | ⟨hi00, hpv'⟩)
              · have hnx := fun (v : World) (hs : v.cell? ⟨w.heap.size, 0, none⟩ = some (.int .i64 (N : Int)) ∧ v.cell? ⟨w.heap.size, 1, none⟩ = some (.slice (some y) Hn cp) ∧ Below V.heap.size V v) => Next_in (E1.out v hs).lo hlt hfr hnx' (by rw [HH.out]; omega)
                have hpv := fun (v : World) (hs : v.cell? ⟨w.heap.size, 0, none⟩ = some (.int .i64 (N : Int)) ∧ v.cell? ⟨w.heap.size, 1, none⟩ = some (.slice (some y) Hn cp) ∧ Below V.heap.size V v) => Prev_in (E1.out v hs).lo hlt hfr hpv' (by rw [HH.out]; omega)
                simp only [if_pos hxN, nodeR] at hnx
                simp only [if_pos hzN, nodeR] at hpv
                have HNX := Lib.hid hnx
                have HPV := Lib.hid hpv
                have hI1 : (II : Int) < (M : Int) := by have := (List.getElem?_eq_some_iff.1 hx).1; omega
                have HXI := Lib.hid (ints_at hx)
                clear hx
                have hi9 : (0 : Int) < (i : Int) := by omega
                have wJ : IntKind.i64.wrap ((i : Int) - 1) = (j : Int) := by rw [IntWalk.i64_in _ (by omega)]; omega
                have hj1 : (j : Int) < (M : Int) := by omega
                have hj0 : (0 : Int) ≤ (j : Int) := by omega
                have HXJ := Lib.hid (ints_at hz)
                clear hz
                clear hnx hpv hnx' hpv' hi hII hj
                go_wp2_with fail
                refine (HOF.out _ S0.out).mono ?_
                rintro e va ⟨rfl, ba⟩
                have SA := Lib.hid (SK.out _ _ ba S0.out)
                clear ba
                go_wp2_with fail
                refine (HNX.out _ SA.out).mono ?_
                rintro e vb ⟨rfl, bb⟩
                have SB := Lib.hid (SK.out _ _ bb SA.out)
                clear bb
                go_wp2_with fail
                refine (HPV.out _ SB.out).mono ?_
                rintro e vc ⟨rfl, bc⟩
                have SCC := Lib.hid (SK.out _ _ bc SB.out)
                clear bc x0 x1
                obtain ⟨x0, x1, _⟩ := SCC.out
                go_wp2_with fail
                refine (HPL.out _ SCC.out).mono ?_
                rintro e vd ⟨rfl, bd⟩
                have SD := Lib.hid (SK.out _ _ bd SCC.out)
                clear bd x0 x1
                obtain ⟨x0, x1, _⟩ := SD.out
                obtain ⟨e0, ru⟩ := HC.out _ SD.out
                obtain ⟨q1, hq1, _, e1⟩ := ru II _ HXI.out
                cases hq1
                obtain ⟨q2, hq2, _, e2⟩ := ru j _ HXJ.out
                cases hq2
                clear ru
                go_wp2_with fail
                refine (gives_any _ _ _ _ _).mono ?_
                rintro e v8 ⟨rfl, rfl⟩
                go_wp2_with fail
                refine (gives_any _ _ _ _ _).mono ?_
                rintro e v8 ⟨rfl, rfl⟩
                go_wp2_with fail
                go_roundw
                case rel => exact ⟨n + 1, by omega, by go_num, SD.out⟩
                case measure => simp [intOf]; omega
              · have hnx := fun (v : World) (hs : v.cell? ⟨w.heap.size, 0, none⟩ = some (.int .i64 (N : Int)) ∧ v.cell? ⟨w.heap.size, 1, none⟩ = some (.slice (some y) Hn cp) ∧ Below V.heap.size V v) => Next_in (E1.out v hs).lo hlt hfr hnx' (by rw [HH.out]; omega)
                have hpv := fun (v : World) (hs : v.cell? ⟨w.heap.size, 0, none⟩ = some (.int .i64 (N : Int)) ∧ v.cell? ⟨w.heap.size, 1, none⟩ = some (.slice (some y) Hn cp) ∧ Below V.heap.size V v) => Prev_in (E1.out v hs).lo hlt hfr hpv' (by rw [HH.out]; omega)
                simp only [if_pos hxN, nodeR] at hnx
                simp only [if_neg (show ¬ N + k < N by omega), nodeR] at hpv
                have HNX := Lib.hid hnx
                have HPV := Lib.hid hpv
                have hI1 : (II : Int) < (M : Int) := by have := (List.getElem?_eq_some_iff.1 hx).1; omega
                have HXI := Lib.hid (ints_at hx)
                clear hx
                have hi9 : ¬ (0 : Int) < (i : Int) := by omega
                clear hnx hpv hnx' hpv' hi hII hi00
                go_wp2_with fail
                refine (HOF.out _ S0.out).mono ?_
                rintro e va ⟨rfl, ba⟩
                have SA := Lib.hid (SK.out _ _ ba S0.out)
                clear ba
                go_wp2_with fail
                refine (HNX.out _ SA.out).mono ?_
                rintro e vb ⟨rfl, bb⟩
                have SB := Lib.hid (SK.out _ _ bb SA.out)
                clear bb
                go_wp2_with fail
                refine (HPV.out _ SB.out).mono ?_
                rintro e vc ⟨rfl, bc⟩
                have SCC := Lib.hid (SK.out _ _ bc SB.out)
                clear bc x0 x1
                obtain ⟨x0, x1, _⟩ := SCC.out
                go_wp2_with fail
                refine (HPL.out _ SCC.out).mono ?_
                rintro e vd ⟨rfl, bd⟩
                have SD := Lib.hid (SK.out _ _ bd SCC.out)
                clear bd x0 x1
                obtain ⟨x0, x1, _⟩ := SD.out
                obtain ⟨e0, ru⟩ := HC.out _ SD.out
                obtain ⟨q1, hq1, _, e1⟩ := ru II _ HXI.out
                cases hq1
                clear ru
                go_wp2_with fail
                refine (gives_any _ _ _ _ _).mono ?_
                rintro e v8 ⟨rfl, rfl⟩
                go_wp2_with fail
                refine (gives_any _ _ _ _ _).mono ?_
                rintro e v8 ⟨rfl, rfl⟩
                go_wp2_with fail
                go_roundw
                case rel => exact ⟨n + 1, by omega, by go_num, SD.out⟩
                case measure => simp [intOf]; omega
              · have hnx := fun (v : World) (hs : v.cell? ⟨w.heap.size, 0, none⟩ = some (.int .i64 (N : Int)) ∧ v.cell? ⟨w.heap.size, 1, none⟩ = some (.slice (some y) Hn cp) ∧ Below V.heap.size V v) => Next_in (E1.out v hs).lo hlt hfr hnx' (by rw [HH.out]; omega)
                have hpv := fun (v : World) (hs : v.cell? ⟨w.heap.size, 0, none⟩ = some (.int .i64 (N : Int)) ∧ v.cell? ⟨w.heap.size, 1, none⟩ = some (.slice (some y) Hn cp) ∧ Below V.heap.size V v) => Prev_in (E1.out v hs).lo hlt hfr hpv' (by rw [HH.out]; omega)
                simp only [if_neg (show ¬ N + k < N by omega), nodeR] at hnx
                simp only [if_pos hzN, nodeR] at hpv
                have HNX := Lib.hid hnx
                have HPV := Lib.hid hpv
                have hI1 : ¬ (II : Int) < (M : Int) := by omega
                have hi9 : (0 : Int) < (i : Int) := by omega
                have wJ : IntKind.i64.wrap ((i : Int) - 1) = (j : Int) := by rw [IntWalk.i64_in _ (by omega)]; omega
                have hj1 : (j : Int) < (M : Int) := by omega
                have hj0 : (0 : Int) ≤ (j : Int) := by omega
                have HXJ := Lib.hid (ints_at hz)
                clear hz
                clear hnx hpv hnx' hpv' hi hII hj
                go_wp2_with fail
                refine (HOF.out _ S0.out).mono ?_
                rintro e va ⟨rfl, ba⟩
                have SA := Lib.hid (SK.out _ _ ba S0.out)
                clear ba
                go_wp2_with fail
                refine (HNX.out _ SA.out).mono ?_
                rintro e vb ⟨rfl, bb⟩
                have SB := Lib.hid (SK.out _ _ bb SA.out)
                clear bb
                go_wp2_with fail
                refine (HPV.out _ SB.out).mono ?_
                rintro e vc ⟨rfl, bc⟩
                have SCC := Lib.hid (SK.out _ _ bc SB.out)
                clear bc x0 x1
                obtain ⟨x0, x1, _⟩ := SCC.out
                go_wp2_with fail
                refine (HPL.out _ SCC.out).mono ?_
                rintro e vd ⟨rfl, bd⟩
                have SD := Lib.hid (SK.out _ _ bd SCC.out)
                clear bd x0 x1
                obtain ⟨x0, x1, _⟩ := SD.out
                obtain ⟨e0, ru⟩ := HC.out _ SD.out
                obtain ⟨q2, hq2, _, e2⟩ := ru j _ HXJ.out
                cases hq2
                clear ru
                go_wp2_with fail
                refine (gives_any _ _ _ _ _).mono ?_
                rintro e v8 ⟨rfl, rfl⟩
                go_wp2_with fail
                refine (gives_any _ _ _ _ _).mono ?_
                rintro e v8 ⟨rfl, rfl⟩
                go_wp2_with fail
                go_roundw
                case rel => exact ⟨n + 1, by omega, by go_num, SD.out⟩
                case measure => simp [intOf]; omega
              · have hnx := fun (v : World) (hs : v.cell? ⟨w.heap.size, 0, none⟩ = some (.int .i64 (N : Int)) ∧ v.cell? ⟨w.heap.size, 1, none⟩ = some (.slice (some y) Hn cp) ∧ Below V.heap.size V v) => Next_in (E1.out v hs).lo hlt hfr hnx' (by rw [HH.out]; omega)
                have hpv := fun (v : World) (hs : v.cell? ⟨w.heap.size, 0, none⟩ = some (.int .i64 (N : Int)) ∧ v.cell? ⟨w.heap.size, 1, none⟩ = some (.slice (some y) Hn cp) ∧ Below V.heap.size V v) => Prev_in (E1.out v hs).lo hlt hfr hpv' (by rw [HH.out]; omega)
                simp only [if_neg (show ¬ N + k < N by omega), nodeR] at hnx
                simp only [if_neg (show ¬ N + k < N by omega), nodeR] at hpv
                have HNX := Lib.hid hnx
                have HPV := Lib.hid hpv
                have hI1 : ¬ (II : Int) < (M : Int) := by omega
                have hi9 : ¬ (0 : Int) < (i : Int) := by omega
                clear hnx hpv hnx' hpv' hi hII hi00
                go_wp2_with fail
                refine (HOF.out _ S0.out).mono ?_
                rintro e va ⟨rfl, ba⟩
                have SA := Lib.hid (SK.out _ _ ba S0.out)
                clear ba
                go_wp2_with fail
                refine (HNX.out _ SA.out).mono ?_
                rintro e vb ⟨rfl, bb⟩
                have SB := Lib.hid (SK.out _ _ bb SA.out)
                clear bb
                go_wp2_with fail
                refine (HPV.out _ SB.out).mono ?_
                rintro e vc ⟨rfl, bc⟩
                have SCC := Lib.hid (SK.out _ _ bc SB.out)
                clear bc x0 x1
                obtain ⟨x0, x1, _⟩ := SCC.out
                go_wp2_with fail
                refine (HPL.out _ SCC.out).mono ?_
                rintro e vd ⟨rfl, bd⟩
                have SD := Lib.hid (SK.out _ _ bd SCC.out)
                clear bd x0 x1
                obtain ⟨x0, x1, _⟩ := SD.out
                obtain ⟨e0, ru⟩ := HC.out _ SD.out
                clear ru
                go_wp2_with fail
                refine (gives_any _ _ _ _ _).mono ?_
                rintro e v8 ⟨rfl, rfl⟩
                go_wp2_with fail
                refine (gives_any _ _ _ _ _).mono ?_
                rintro e v8 ⟨rfl, rfl⟩
                go_wp2_with fail
                go_roundw
                case rel => exact ⟨n + 1, by omega, by go_num, SD.out⟩
                case measure => simp [intOf]; omega
    · have hle : hI ≤ (Hn : Int) := by omega
      have wi := IntWalk.i64_in (hI + 1) (by omega)
      by_cases hin : 0 ≤ hI ∧ hI < (Hn : Int)
      · obtain ⟨k, rfl⟩ : ∃ k : Nat, hI = (k : Int) := ⟨hI.toNat, by omega⟩
        have hdec : decide (0 ≤ (k : Int) ∧ (k : Int) < (Hn : Int)) = true := by simpa using hin.2
        obtain ⟨i2, i1⟩ := hin
        obtain ⟨l, hl⟩ : ∃ l, Ls[k]? = some l := ⟨Ls[k]'(by rw [HH.out]; omega), List.getElem?_eq_getElem _⟩
        have HRH := Lib.hid (fun v => rhead_any v N (some y) Hn cp (k : Int))
        rw [hdec] at HRH
        clear hdec
        unfold fv at HRH
        go_wp2_with fail
        refine (HRH.out _).mono ?_
        rintro e vh ⟨rfl, bh⟩
        have S0 := Lib.hid (SK.out _ _ bh S0.out)
        clear bh x0 x1 HRH
        obtain ⟨y', hy', hyb, ph, ch, e0, ru⟩ := E.out.rf k l hl
        cases hy'
        have HE0 := Lib.hid (fun (v : World) (hs : v.cell? ⟨w.heap.size, 0, none⟩ = some (.int .i64 (N : Int)) ∧ v.cell? ⟨w.heap.size, 1, none⟩ = some (.slice (some y) Hn cp) ∧ Below V.heap.size V v) => (show v.cell? (y.add k) = some (.slice ph l.length ch) from (hs.2.2.cell (by rw [add_block]; exact hyb)).trans e0))
        have e0 := HE0.out _ S0.out
        obtain ⟨x0, x1, _⟩ := S0.out
        have HRU := Lib.hid (fun (v : World) (hs : v.cell? ⟨w.heap.size, 0, none⟩ = some (.int .i64 (N : Int)) ∧ v.cell? ⟨w.heap.size, 1, none⟩ = some (.slice (some y) Hn cp) ∧ Below V.heap.size V v) => (show Ru v ph (ints l) from ru.below hs.2.2))
        have HLE := Lib.hid (fun (v : World) (hs : v.cell? ⟨w.heap.size, 0, none⟩ = some (.int .i64 (N : Int)) ∧ v.cell? ⟨w.heap.size, 1, none⟩ = some (.slice (some y) Hn cp) ∧ Below V.heap.size V v) => Len_ok (E1.out v hs).lo hl)
        have HCO := Lib.hid (fun (v : World) (hs : v.cell? ⟨w.heap.size, 0, none⟩ = some (.int .i64 (N : Int)) ∧ v.cell? ⟨w.heap.size, 1, none⟩ = some (.slice (some y) Hn cp) ∧ Below V.heap.size V v) => collect_ok (E1.out v hs).lo hN hl)
        have hfi := fun (v : World) (hs : v.cell? ⟨w.heap.size, 0, none⟩ = some (.int .i64 (N : Int)) ∧ v.cell? ⟨w.heap.size, 1, none⟩ = some (.slice (some y) Hn cp) ∧ Below V.heap.size V v) => First_ok (E1.out v hs).lo hl
        have hla := fun (v : World) (hs : v.cell? ⟨w.heap.size, 0, none⟩ = some (.int .i64 (N : Int)) ∧ v.cell? ⟨w.heap.size, 1, none⟩ = some (.slice (some y) Hn cp) ∧ Below V.heap.size V v) => Last_ok (E1.out v hs).lo hl
        have hfew := (E1.out _ S0.out).lo.few hl
        have hmem := fun x => E.out.lo.ring.mem k l x hl
        cases hl0 : l with
        | nil =>
          subst hl0
          simp only [show fst ([] : List Nat) (N + k) = N + k from rfl, show lst (N + k) ([] : List Nat) = N + k from rfl, if_neg (show ¬ N + k < N by omega), nodeR] at hfi hla
          have HFI := Lib.hid hfi
          have HLA := Lib.hid hla
          have HXL := Lib.hid (show (ints []).length = 0 from rfl)
          clear hfi hla ru hmem hfew hl
          simp only [List.length_nil] at e0 HLE
          go_wp2_with fail
          refine (HFI.out _ S0.out).mono ?_
          rintro e va ⟨rfl, ba⟩
          have SA := Lib.hid (SK.out _ _ ba S0.out)
          clear ba
          go_wp2_with fail
          refine (HLA.out _ SA.out).mono ?_
          rintro e vb ⟨rfl, bb⟩
          have SB := Lib.hid (SK.out _ _ bb SA.out)
          clear bb
          go_wp2_with fail
          refine (gives_any _ _ _ _ _).mono ?_
          rintro e v8 ⟨rfl, rfl⟩
          go_wp2_with fail
          refine (gives_any _ _ _ _ _).mono ?_
          rintro e v8 ⟨rfl, rfl⟩
          go_wp2_with fail
          refine (HLE.out _ SB.out).mono ?_
          rintro e v8 ⟨rfl, rfl⟩
          go_wp2_with fail
          refine (HCO.out _ SB.out).mono ?_
          rintro e vc ⟨⟨kv, rfl, ks⟩, bc⟩
          obtain ⟨pk, ck, rfl, ruk⟩ := ks_ru ks
          have SD := Lib.hid (SK.out _ _ bc SB.out)
          have RUK := Lib.hid ruk
          clear bc ks ruk
          rw [HXL.out]
          go_wp2_with fail
          refine (fsame_any HXL.out HXL.out RUK.out (HRU.out _ SD.out) (by omega) (by omega)).mono ?_
          rintro e vd ⟨⟨bo, rfl, hbo⟩, bd⟩
          obtain rfl : bo = true := hbo.2 rfl
          have SE := Lib.hid (SK.out _ _ bd SD.out)
          clear bd hbo
          go_wp2_with fail
          go_roundw
          case rel => exact ⟨(k : Int) + 1, by omega, by omega, by go_num, SE.out⟩
          case measure => simp [intOf]; omega
        | cons x l' =>
          subst hl0
          obtain ⟨M, hM⟩ : ∃ M, (x :: l').length = M := ⟨_, rfl⟩
          obtain ⟨mm, hmm⟩ : ∃ mm, M = mm + 1 := ⟨l'.length, by rw [← hM]; rfl⟩
          obtain ⟨z, hz⟩ : ∃ z, (x :: l')[mm]? = some z := ⟨(x :: l')[mm]'(by omega), List.getElem?_eq_getElem _⟩
          have hlz : lst (N + k) (x :: l') = z := lst_at _ _ _ _ (by omega) hz
          have hxN := (hmem x (by simp)).1
          have hzN := (hmem z (List.mem_of_getElem? hz)).1
          simp only [show fst (x :: l') (N + k) = x from rfl, hlz, if_pos hxN, if_pos hzN, nodeR] at hfi hla
          have HFI := Lib.hid hfi
          have HLA := Lib.hid hla
          have HXL := Lib.hid (show (ints (x :: l')).length = M from by rw [ints_len, hM])
          obtain ⟨y2, rfl, hy2b, _⟩ := ru 0 _ (ints_at (l := x :: l') (x := x) rfl)
          have HZ := Lib.hid (ints_at hz)
          have HC2 := Lib.hid (fun (v : World) (hs : v.cell? ⟨w.heap.size, 0, none⟩ = some (.int .i64 (N : Int)) ∧ v.cell? ⟨w.heap.size, 1, none⟩ = some (.slice (some y) Hn cp) ∧ Below V.heap.size V v) => (show v.cell? y2 = some (.int .u32 (x : Int)) ∧ v.cell? (y2.add mm) = some (.int .u32 (z : Int)) ∧ v.cell? ⟨w.heap.size, 0, none⟩ = some (.int .i64 (N : Int)) ∧ v.cell? ⟨w.heap.size, 1, none⟩ = some (.slice (some y) Hn cp) ∧ Below V.heap.size V v from by
            obtain ⟨a1, b1, _, c1⟩ := HRU.out v hs 0 _ (ints_at (l := x :: l') (x := x) rfl)
            obtain ⟨a2, b2, _, c2⟩ := HRU.out v hs mm _ HZ.out
            cases b1; cases b2
            exact ⟨by rwa [Addr.add_zero'] at c1, c2, hs⟩))
          rw [hM] at e0 HLE
          have wm : IntKind.i64.wrap ((M : Int) - 1) = (mm : Int) := by rw [IntWalk.i64_in _ (by omega)]; omega
          have j1 : (mm : Int) < (M : Int) := by omega
          have j0 : (0 : Int) ≤ (mm : Int) := by omega
          have j2 : (0 : Int) < (M : Int) := by omega
          have j3 : M ≤ 5000 := by omega
          clear hfi hla ru hmem hfew hl hlz hz hmm hM
          go_wp2_with fail
          go_region_held3 (fun w' => w'.cell? y2 = some (.int .u32 (x : Int)) ∧ w'.cell? (y2.add mm) = some (.int .u32 (z : Int)) ∧ w'.cell? ⟨w.heap.size, 0, none⟩ = some (.int .i64 (N : Int)) ∧ w'.cell? ⟨w.heap.size, 1, none⟩ = some (.slice (some y) Hn cp) ∧ Below V.heap.size V w')
            (first
              | (exact HC2.out _ (SK.out _ _ (Below.drew (Below.refl _ _)) S0.out))
              | assumption
              | fail)
            (first | fail)
          have S0' := Lib.hid (SK.out _ _ (Below.drew (Below.refl _ _)) S0.out)
          obtain ⟨VD, hVD⟩ : ∃ VD, vh.drew = VD := ⟨_, rfl⟩
          rw [hVD] at S0' ⊢
          clear hVD x0 x1 e0
          have S0 := S0'
          obtain ⟨x0, x1, _⟩ := S0.out
          go_wp2_with fail
          refine (HFI.out _ S0.out).mono ?_
          rintro e va ⟨rfl, ba⟩
          have SA := Lib.hid (SK.out _ _ ba S0.out)
          clear ba
          go_wp2_with fail
          refine (HLA.out _ SA.out).mono ?_
          rintro e vb ⟨rfl, bb⟩
          have SB := Lib.hid (SK.out _ _ bb SA.out)
          clear bb
          go_wp2_with fail
          refine (gives_any _ _ _ _ _).mono ?_
          rintro e v8 ⟨rfl, rfl⟩
          go_wp2_with fail
          refine (gives_any _ _ _ _ _).mono ?_
          rintro e v8 ⟨rfl, rfl⟩
          go_wp2_with fail
          refine (HLE.out _ SB.out).mono ?_
          rintro e v8 ⟨rfl, rfl⟩
          go_wp2_with fail
          refine (HCO.out _ SB.out).mono ?_
          rintro e vc ⟨⟨kv, rfl, ks⟩, bc⟩
          obtain ⟨pk, ck, rfl, ruk⟩ := ks_ru ks
          have SD := Lib.hid (SK.out _ _ bc SB.out)
          have RUK := Lib.hid ruk
          clear bc ks ruk
          rw [HXL.out]
          go_wp2_with fail
          refine (fsame_any HXL.out HXL.out RUK.out (HRU.out _ SD.out) (by omega) (by omega)).mono ?_
          rintro e vd ⟨⟨bo, rfl, hbo⟩, bd⟩
          obtain rfl : bo = true := hbo.2 rfl
          have SE := Lib.hid (SK.out _ _ bd SD.out)
          clear bd hbo
          go_wp2_with fail
          go_roundw
          case rel => exact ⟨(k : Int) + 1, by omega, by omega, by go_num, SE.out⟩
          case measure => simp [intOf]; omega
      · have hdec : decide (0 ≤ hI ∧ hI < (Hn : Int)) = false := by simpa using hin
        have HBD := Lib.hid (show ¬ (0 ≤ hI ∧ hI < (Ls.length : Int)) from by rw [HH.out]; exact hin)
        have HFI := Lib.hid (fun (v : World) (hs : v.cell? ⟨w.heap.size, 0, none⟩ = some (.int .i64 (N : Int)) ∧ v.cell? ⟨w.heap.size, 1, none⟩ = some (.slice (some y) Hn cp) ∧ Below V.heap.size V v) => First_bad (E1.out v hs).lo HBD.out)
        have HLA := Lib.hid (fun (v : World) (hs : v.cell? ⟨w.heap.size, 0, none⟩ = some (.int .i64 (N : Int)) ∧ v.cell? ⟨w.heap.size, 1, none⟩ = some (.slice (some y) Hn cp) ∧ Below V.heap.size V v) => Last_bad (E1.out v hs).lo HBD.out)
        have HLE := Lib.hid (fun (v : World) (hs : v.cell? ⟨w.heap.size, 0, none⟩ = some (.int .i64 (N : Int)) ∧ v.cell? ⟨w.heap.size, 1, none⟩ = some (.slice (some y) Hn cp) ∧ Below V.heap.size V v) => Len_bad (E1.out v hs).lo HBD.out)
        have HCO := Lib.hid (fun (v : World) (hs : v.cell? ⟨w.heap.size, 0, none⟩ = some (.int .i64 (N : Int)) ∧ v.cell? ⟨w.heap.size, 1, none⟩ = some (.slice (some y) Hn cp) ∧ Below V.heap.size V v) => collect_bad (E1.out v hs).lo HBD.out)
        have HXL := Lib.hid (show ([] : List Int).length = 0 from rfl)
        have HRU := Lib.hid (fun (v : World) (hs : v.cell? ⟨w.heap.size, 0, none⟩ = some (.int .i64 (N : Int)) ∧ v.cell? ⟨w.heap.size, 1, none⟩ = some (.slice (some y) Hn cp) ∧ Below V.heap.size V v) => (show Ru v none [] from fun i x hx => by simp at hx))
        have HRH := Lib.hid (fun v => rhead_any v N (some y) Hn cp hI)
        rw [hdec] at HRH
        clear hin hdec
        unfold fv at HRH
        go_wp2_with fail
        refine (HRH.out _).mono ?_
        rintro e vh ⟨rfl, bh⟩
        have S0 := Lib.hid (SK.out _ _ bh S0.out)
        clear bh x0 x1
        go_wp2_with fail
        refine (HFI.out _ S0.out).mono ?_
        rintro e va ⟨rfl, rfl⟩
        have SA := S0
        go_wp2_with fail
        refine (HLA.out _ SA.out).mono ?_
        rintro e vb ⟨rfl, rfl⟩
        have SB := S0
        go_wp2_with fail
        refine (gives_any _ _ _ _ _).mono ?_
        rintro e v8 ⟨rfl, rfl⟩
        go_wp2_with fail
        refine (gives_any _ _ _ _ _).mono ?_
        rintro e v8 ⟨rfl, rfl⟩
        go_wp2_with fail
        refine (HLE.out _ SB.out).mono ?_
        rintro e v8 ⟨rfl, rfl⟩
        go_wp2_with fail
        refine (HCO.out _ SB.out).mono ?_
        rintro e vc ⟨⟨kv, rfl, ks⟩, bc⟩
        obtain ⟨pk, ck, rfl, ruk⟩ := ks_ru ks
        have SD := Lib.hid (SK.out _ _ bc SB.out)
        have RUK := Lib.hid ruk
        clear bc ks ruk
        rw [HXL.out]
        go_wp2_with fail
        refine (fsame_any HXL.out HXL.out RUK.out (HRU.out _ SD.out) (by omega) (by omega)).mono ?_
        rintro e vd ⟨⟨bo, rfl, hbo⟩, bd⟩
        obtain rfl : bo = true := hbo.2 rfl
        have SE := Lib.hid (SK.out _ _ bd SD.out)
        clear bd hbo
        go_wp2_with fail
        go_roundw
        case rel => exact ⟨hI + 1, by omega, by omega, by go_num, SE.out⟩
        case measure => simp [intOf]; omega
end
end Go.Proofs.Ytjcabdnjimcdgaa.Lnk
