/-
  Adaptive replacement (layer 29), the law of what holds.
-/
import Derived.Test.YtggimkfepcgaoaaArqN
import Derived.Maps.RangeWalk
set_option linter.unusedVariables false
set_option linter.unusedSimpArgs false
namespace Go.Proofs.Ytggimkfepcgaoaa.Arc
open Go Go.RowKit Kit Go.Maps Lnk Gho
theorem plain_true : plainElem (H := Unit) Try.prog 4 (.bool true) = some (.lit (.bool true), []) := plainElem_bool und_bool true
/-- the bounds of a round, and what is there -/
structure Bd (s K N i : Nat) (t : Int) (L : Nat → List Nat) (S : List Nat) : Prop where
  ai : Ai s t L
  mem : ∀ y, y ∈ S ↔ (y ∈ L 0 ∨ y ∈ L 1)
  kK : K ≤ 2 * i
  kN : N ≤ i
theorem Bd.len {s K N i : Nat} {t : Int} {L : Nat → List Nat} {S : List Nat} (h : Bd s K N i t L S) (nd : S.Nodup) : S.length = (L 0).length + (L 1).length := by
  have hn : (L 0 ++ L 1).Nodup := List.nodup_append.2 ⟨h.ai.nd.one 0 (by omega), h.ai.nd.one 1 (by omega), fun a ha b hb e => by subst e; have := h.ai.nd.two 0 1 a (by omega) (by omega) ha hb; omega⟩
  have hp : S.Perm (L 0 ++ L 1) := (List.perm_ext_iff_of_nodup nd hn).2 fun y => by rw [h.mem y, List.mem_append]
  rw [hp.length_eq, List.length_append]
/-- what a drop makes -/
theorem drop_spec {s : Nat} {t : Int} {L : Nat → List Nat} (h : Ai s t L) (k : Nat) : Ai s t (dropA L k) ∧ ∀ y, (y ∈ dropA L k 0 ∨ y ∈ dropA L k 1) ↔ ((y ∈ L 0 ∨ y ∈ L 1) ∧ y ≠ k) := by
  obtain ⟨nd, a, b, c, t0, t1, s1, s2⟩ := h
  have e0 : dropA L k 0 = (L 0).erase k := by unfold dropA; rw [upd_other (by omega), upd_same]
  have e1 : dropA L k 1 = (L 1).erase k := by unfold dropA; rw [upd_same]
  have e2 : dropA L k 2 = L 2 := by unfold dropA; rw [upd_other (by omega), upd_other (by omega)]
  have e3 : dropA L k 3 = L 3 := by unfold dropA; rw [upd_other (by omega), upd_other (by omega)]
  have l0 := List.length_erase_le (a := k) (l := L 0)
  have l1 := List.length_erase_le (a := k) (l := L 1)
  have hsub : ∀ i y, i < 4 → y ∈ dropA L k i → y ∈ L i := fun i y hi hy => by
    match i, hi with
    | 0, _ => rw [e0] at hy; exact List.mem_of_mem_erase hy
    | 1, _ => rw [e1] at hy; exact List.mem_of_mem_erase hy
    | 2, _ => rw [e2] at hy; exact hy
    | 3, _ => rw [e3] at hy; exact hy
  refine ⟨⟨⟨fun i hi => ?_, fun i j y hi hj h1 h2 => nd.two i j y hi hj (hsub i y hi h1) (hsub j y hj h2)⟩, by rw [e0, e1]; omega, by rw [e0, e2]; omega, by rw [e0, e1, e2, e3]; omega, t0, t1, s1, s2⟩, fun y => ?_⟩
  · match i, hi with
    | 0, _ => rw [e0]; exact (nd.one 0 (by omega)).erase _
    | 1, _ => rw [e1]; exact (nd.one 1 (by omega)).erase _
    | 2, _ => rw [e2]; exact nd.one 2 (by omega)
    | 3, _ => rw [e3]; exact nd.one 3 (by omega)
  · rw [e0, e1, (nd.one 0 (by omega)).mem_erase_iff, (nd.one 1 (by omega)).mem_erase_iff]
    constructor
    · rintro (h | h)
      · exact ⟨.inl h.2, h.1⟩
      · exact ⟨.inr h.2, h.1⟩
    · rintro ⟨h | h, hne⟩
      · exact .inl ⟨hne, h⟩
      · exact .inr ⟨hne, h⟩
set_option maxRecDepth 100000 in
set_option maxHeartbeats 16000000 in
theorem aholds_any {w : World} {s : Nat} {a : Option Addr} {len cap : Nat} {f0 f1 : Nat → Int} (hacts : Ac2 w.heap.size w a len f0 f1) (s1 : 1 ≤ s) (s40 : s ≤ 40) (hlen : len ≤ 120) (HK : ∀ v, Below w.heap.size w v → Calls Try.prog 50 #[] v fun e w' => e = .returned (.bool true) ∧ Below v.heap.size v w') :
    Calls Try.prog 13 #[.int .i64 (s : Int), .slice a len cap] w fun e w' => e = .returned (.bool true) ∧ Below w.heap.size w w' := by
  have HNW := Lib.hid (new_any w s s1 (by omega))
  have HK0 := Lib.hid HK
  have HA := Lib.hid hacts
  have HI := Lib.hid (show 1 ≤ s ∧ s ≤ 40 ∧ len ≤ 120 from ⟨s1, s40, hlen⟩)
  have h1 : ¬ (s : Int) < 1 := by omega
  have h2 : ¬ 40 < (s : Int) := by omega
  have h3 : ¬ 120 < (len : Int) := by omega
  have hmm := fun w => run_makeMap (P := Try.prog) 106 w
  have hmm2 := fun w => run_makeMap (P := Try.prog) 74 w
  clear s1 s40 hlen HK hacts
  go_enter Try.func13, Try.ntmps13
  go_wp2_with fail
  refine HNW.out.mono ?_
  rintro e w1 ⟨o, b, rfl, ax⟩
  have AX := Lib.hid ax
  clear ax HNW
  go_wp2_with fail
  go_loopw [8] (fun iv v => ∃ (i K N : Nat) (t : Int) (L : Nat → List Nat) (D : DataW Unit) (S : List Nat), i ≤ len ∧ iv = .int .i64 (i : Int) ∧ Hid (Ah w v o K s w1.heap.size N t b L D S (fun _ => False)) ∧ Hid (Bd s K N i t L S)) (fun iv _ => len - (intOf iv).toNat)
  case atStart =>
    refine ⟨0, 0, 0, 0, fun _ => [], .map [], [], Nat.zero_le _, rfl, Lib.hid ?_, Lib.hid ?_⟩
    · have hb : Below w1.heap.size w1 (w1.alloc (.map #[] 0)) := by go_grown
      exact ⟨(AX.out.below hb).only fun k hk => .inr (by rcases hk with rfl | hk; exact ⟨Nat.le_refl _, by rw [World.size_alloc]; omega⟩; exact hk.elim), World.ownsMap_made w1 Try.prog 38 (plainElem (H := Unit) Try.prog 4), Mb.nil, AX.out.bl.size, fun h => h⟩
    · have := HI.out
      exact ⟨⟨⟨fun i _ => List.nodup_nil, fun i j y _ _ hy => (by cases hy)⟩, by simp, by simp, by simp, by omega, by omega, by omega, by omega⟩, fun y => by simp, by omega, by omega⟩
  case round =>
    obtain ⟨i, K, N, t, L, D, S, hi, rfl, H, HB⟩ := hrel
    clear AX
    generalize w1.heap.size = m at *
    by_cases hlt : i < len
    · obtain ⟨x, rfl, hxb, y0, y1, k0, k1⟩ := HA.out.below H.out.ax.bl i hlt
      have hlti : (i : Int) < (len : Int) := by omega
      generalize f1 i = k at *
      generalize f0 i = what at *
      have hws := H.out.ax.bl.size
      have hxw : x.block < wr.heap.size := Nat.lt_of_lt_of_le hxb hws
      obtain ⟨kn, rfl⟩ : ∃ kn : Nat, k = kn := ⟨k.toNat, by omega⟩
      have hkn : kn < 4294967296 := by omega
      have HKN := Lib.hid (show kn < 4294967296 ∧ i < len from ⟨hkn, hlt⟩)
      go_upto_block 2 with (fail)
      go_cut [] (fun wx => ∃ (K' N' : Nat) (t' : Int) (L' : Nat → List Nat) (D' : DataW Unit) (S' : List Nat), Hid (Ah w wx o K' s m N' t' b L' D' S' (fun _ => False)) ∧ Hid (Bd s K' N' (i + 1) t' L' S'))
      case first =>
        have hb6 : Below wr.heap.size wr (wr.alloc (.cells #[.int .i64 what, .int .u32 (kn : Int)] 108)) := by go_grown
        have hx6 := (MapKept.heap_alloc wr (.cells #[.int .i64 what, .int .u32 (kn : Int)] 108)).1
        have H6 := Lib.hid (H.out.more (Y' := fun k => k = wr.heap.size) hb6 fun k hk => .inr (by subst hk; exact ⟨Nat.le_refl _, by rw [World.size_alloc]; omega⟩))
        have Kk := Maps.int_keyed (P := Try.prog) und_u32
        have HKE := Lib.hid (Maps.keyOf_int_mk (P := Try.prog) und_u32 (wf32 hkn))
        have hwl := hws
        have HWL := Lib.hid hwl
        clear y0 y1 k0 k1 hxw hws hkn hb6 H hwl
        generalize wr.alloc (.cells #[.int .i64 what, .int .u32 (kn : Int)] 108) = w6 at *
        generalize wr.heap.size = bx at *
        obtain ⟨c0, c1⟩ : w6.cell? ⟨bx, 0, none⟩ = some (.int .i64 what) ∧ w6.cell? ⟨bx, 1, none⟩ = some (.int .u32 (kn : Int)) := by constructor <;> simp [World.cell?, hx6]
        have X6 := Lib.hid hx6
        clear hx6
        by_cases a0 : what = 0
        · subst a0
          obtain ⟨U, hU⟩ : ∃ U, useA s t L kn = U := ⟨_, rfl⟩
          have hus := use_spec HB.out.ai kn
          rw [hU] at hus
          obtain ⟨t', L', hit, left, x⟩ := U
          simp only at hus
          have HUS := Lib.hid hus
          have HU := Lib.hid (use_any H6.out.ax HB.out.ai (by have := HB.out.kK; have := HKN.out; have := HI.out; omega) kn HKN.out.1 hU)
          clear hus hU
          go_wp2_with fail
          refine HU.out.mono ?_
          rintro e w7 ⟨rfl, hr⟩
          have H7 := Lib.hid (H6.out.op hr)
          have hx7 := (H6.out.aside hr rfl).trans X6.out
          have hb8 : Below w7.heap.size w7 (w7.alloc (.cells #[.bool hit, .bool left, .int .u32 (x : Int)] 110)) := by go_grown
          have hx8 := (MapKept.heap_alloc w7 (.cells #[.bool hit, .bool left, .int .u32 (x : Int)] 110)).1
          have H8 := Lib.hid (H7.out.more (Y' := fun k => k = bx ∨ k = w7.heap.size) hb8 fun k hk => hk.imp id fun e => by subst e; exact ⟨Nat.le_refl _, by rw [World.size_alloc]; omega⟩)
          have hbl7 := H7.out.ax.bl.size
          have hbxl := (Array.getElem?_eq_some_iff.1 hx7).1
          have hy8 := (hb8.block bx hbxl).trans hx7
          have HKL := Lib.hid (show ∀ j, j < 4 → ∀ y ∈ L j, y < 4294967296 from fun j hj => H6.out.ax.klt j hj)
          clear hr HU H6 X6 c0 c1 hx7 H7
          go_upto_region 14 with fail
          generalize w7.alloc (.cells #[.bool hit, .bool left, .int .u32 (x : Int)] 110) = w8 at *
          generalize w7.heap.size = tx at *
          obtain ⟨d0, d1⟩ : w8.cell? ⟨bx, 0, none⟩ = some (.int .i64 0) ∧ w8.cell? ⟨bx, 1, none⟩ = some (.int .u32 (kn : Int)) := by constructor <;> simp [World.cell?, hy8]
          obtain ⟨e0, e1, e2⟩ : w8.cell? ⟨tx, 0, none⟩ = some (.bool hit) ∧ w8.cell? ⟨tx, 1, none⟩ = some (.bool left) ∧ w8.cell? ⟨tx, 2, none⟩ = some (.int .u32 (x : Int)) := by refine ⟨?_, ?_, ?_⟩ <;> simp [World.cell?, hx8]
          have Y8 := Lib.hid (And.intro hx8 hy8)
          have lk1 := lookb H8.out.ow H8.out.mb HKN.out.1
          rw [show decide (kn ∈ S) = hit by rw [HUS.out.hit_]; exact decide_eq_decide.2 (HB.out.mem kn)] at lk1
          have hxx : (hit != hit) = false := by cases hit <;> rfl
          have HTX := Lib.hid (show w.heap.size ≤ tx ∧ w.heap.size ≤ bx from ⟨hbl7, HWL.out⟩)
          clear hx8 hy8 hb8 hbl7 hbxl
          cases left with
          | false =>
            obtain rfl : x = 0 := HUS.out.out_ rfl
            go_wp2_with (first
              | (at_mapUpdate; refine wpList_mapUpdate_own _ rfl _ _ _ 106 rfl 38 4 Kk und_mapb (plainElem Try.prog 4) m N D rfl H8.out.ow (by have := HB.out.kN; have := HI.out; have := HKN.out; unfold maxLen; omega) _ _ (.int .u32 (kn : Int)) rfl rfl HKE.out _ [] plain_true ?_; intro w9 ho9 hg9; have HT := Lib.hid (H8.out.turn (fun k hk => by rcases hk with rfl | rfl; exact HTX.out.2; exact HTX.out.1) ho9 (kp_grownM hg9) (H8.out.mb.put (H8.out.ow.tidy Kk) kn)); clear ho9 hg9)
              | fail)
            go_meet
            case rel =>
              refine ⟨_, _, _, _, _, _, Lib.hid (HT.out.only (Y' := fun _ => False) fun _ h => h.elim), Lib.hid ⟨HUS.out.ai, fun y => ?_, ?_, ?_⟩⟩
              · rw [List.mem_cons, H8.out.mb.nd.mem_erase_iff, HUS.out.mem y, HB.out.mem y]
                by_cases hy : y = kn <;> simp [hy]
              · have := HB.out.kK; omega
              · have := HB.out.kN; omega
          | true =>
            obtain ⟨hh, hxin, hfull⟩ := HUS.out.left_ rfl
            subst hh
            have hxS : x ∈ S := (HB.out.mem x).2 hxin
            have hx32 : x < 4294967296 := by
              rcases hxin with h | h
              · exact HKL.out 0 (by omega) x h
              · exact HKL.out 1 (by omega) x h
            have lk2 := lookb H8.out.ow H8.out.mb hx32
            rw [decide_eq_true hxS] at lk2
            have hlm := H8.out.ow.len und_mapb
            rw [H8.out.mb.size, HB.out.len H8.out.mb.nd] at hlm
            obtain ⟨n01, hn01⟩ : ∃ n, (L 0).length + (L 1).length = n := ⟨_, rfl⟩
            rw [hn01] at hlm hfull
            have hnl : ¬ (n01 : Int) < (s : Int) := by omega
            have HKO := Lib.hid (Maps.keyOf_int_mk (P := Try.prog) und_u32 (wf32 hx32))
            have HXS := Lib.hid hxS
            clear hxin hfull hxS hx32 hn01
            go_wp2_with (first
              | (at_delete; refine wpList_delete_own _ rfl _ _ 106 38 rfl 4 Kk und_mapb (plainElem Try.prog 4) m N D rfl H8.out.ow _ (.int .u32 (x : Int)) rfl HKO.out ?_; intro w9 ho9 ht9; have HD := Lib.hid (H8.out.turn (fun k hk => by rcases hk with rfl | rfl; exact HTX.out.2; exact HTX.out.1) ho9 (kp_grownM ht9.grown) (H8.out.mb.del (H8.out.ow.tidy Kk) x)); have f1 : w9.cell? ⟨bx, 1, none⟩ = some (.int .u32 (kn : Int)) := (by have hq := ((kp_grownM ht9.grown).block bx (Array.getElem?_eq_some_iff.1 Y8.out.2).1 (fun e => H8.out.ym (.inl e.symm))).trans Y8.out.2; simp [World.cell?, hq]); clear ho9 ht9)
              | (at_mapUpdate; refine wpList_mapUpdate_own _ rfl _ _ _ 106 rfl 38 4 Kk und_mapb (plainElem Try.prog 4) m N (D.del (.int .u32 (x : Int))) rfl HD.out.ow (by have := HB.out.kN; have := HI.out; have := HKN.out; unfold maxLen; omega) _ _ (.int .u32 (kn : Int)) rfl rfl HKE.out _ [] plain_true ?_; intro w10 ho10 hg10; have HT := Lib.hid (HD.out.turn (fun k hk => by rcases hk with rfl | rfl; exact HTX.out.2; exact HTX.out.1) ho10 (kp_grownM hg10) (HD.out.mb.put (HD.out.ow.tidy Kk) kn)); clear ho10 hg10)
              | fail)
            go_meet
            case rel =>
              refine ⟨_, _, _, _, _, _, Lib.hid (HT.out.only (Y' := fun _ => False) fun _ h => h.elim), Lib.hid ⟨HUS.out.ai, fun y => ?_, ?_, ?_⟩⟩
              · rw [List.mem_cons, HD.out.mb.nd.mem_erase_iff, H8.out.mb.nd.mem_erase_iff, HUS.out.mem y, HB.out.mem y]
                by_cases hy : y = kn
                · simp [hy]
                · by_cases hyx : y = x <;> simp [hy, hyx]
              · have := HB.out.kK; omega
              · have := HB.out.kN; omega
        by_cases a1 : what = 1
        · subst a1
          have HDp := Lib.hid (drop_any H6.out.ax HI.out.1 kn HKN.out.1)
          have HDS := Lib.hid (drop_spec HB.out.ai kn)
          obtain ⟨tt, ht⟩ : ∃ tt, decide (kn ∈ L 0 ∨ kn ∈ L 1) = tt := ⟨_, rfl⟩
          rw [ht] at HDp
          have HT0 := Lib.hid ht
          have hxx : (tt != tt) = false := by cases tt <;> rfl
          clear a0 ht
          go_wp2_with fail
          refine HDp.out.mono ?_
          rintro e w7 ⟨rfl, hr⟩
          have H7 := Lib.hid (H6.out.op hr)
          have hx7 := (H6.out.aside hr rfl).trans X6.out
          obtain ⟨d0, d1⟩ : w7.cell? ⟨bx, 0, none⟩ = some (.int .i64 1) ∧ w7.cell? ⟨bx, 1, none⟩ = some (.int .u32 (kn : Int)) := by constructor <;> simp [World.cell?, hx7]
          have lk1 := lookb H7.out.ow H7.out.mb HKN.out.1
          rw [show decide (kn ∈ S) = tt by rw [← HT0.out]; exact decide_eq_decide.2 (HB.out.mem kn)] at lk1
          clear hr HDp hx7 H6 c0 c1
          go_wp2_with (first
            | (at_delete; refine wpList_delete_own _ rfl _ _ 106 38 rfl 4 Kk und_mapb (plainElem Try.prog 4) m N D rfl H7.out.ow _ (.int .u32 (kn : Int)) rfl HKE.out ?_; intro w9 ho9 ht9; have HT := Lib.hid (H7.out.turn (fun k hk => by subst hk; exact HWL.out) ho9 (kp_grownM ht9.grown) (H7.out.mb.del (H7.out.ow.tidy Kk) kn)); clear ho9 ht9)
            | fail)
          go_meet
          case rel =>
            refine ⟨_, _, _, _, _, _, Lib.hid (HT.out.only (Y' := fun _ => False) fun _ h => h.elim), Lib.hid ⟨HDS.out.1, fun y => ?_, ?_, ?_⟩⟩
            · rw [H7.out.mb.nd.mem_erase_iff, HDS.out.2 y, HB.out.mem y]
              exact And.comm
            · have := HB.out.kK; omega
            · have := HB.out.kN; omega
        · go_wp2_with fail
          go_meet
          case rel =>
            exact ⟨K, N, t, L, D, S, Lib.hid (H6.out.only (Y' := fun _ => False) fun _ h => h.elim), Lib.hid ⟨HB.out.ai, HB.out.mem, by have := HB.out.kK; omega, by have := HB.out.kN; omega⟩⟩
      case rest =>
        obtain ⟨K2, N2, t2, L2, D2, S2, H2, B2⟩ := hcut
        obtain ⟨n0, h0⟩ : ∃ n, (L2 0).length = n := ⟨_, rfl⟩
        obtain ⟨n1, h1'⟩ : ∃ n, (L2 1).length = n := ⟨_, rfl⟩
        obtain ⟨n2, h2'⟩ : ∃ n, (L2 2).length = n := ⟨_, rfl⟩
        obtain ⟨n3, h3'⟩ : ∃ n, (L2 3).length = n := ⟨_, rfl⟩
        have hL4 : ∀ i, i < 4 → (L2 i).length ≤ 4096 := fun i hi => by have := ai_len B2.out.ai i hi; omega
        have HLs := Lib.hid (lists_any H2.out.ax HI.out.1 hL4 h0 h1' h2' h3')
        have HLn := Lib.hid (fun u (hb : Below wc.heap.size wc u) => alen_any (H2.out.ax.below' hb) HI.out.1 hL4)
        have hln := B2.out.len H2.out.mb.nd
        have ha := B2.out.ai.a
        have hb := B2.out.ai.b
        have hc := B2.out.ai.c
        have ht0 := B2.out.ai.t0
        have ht1 := B2.out.ai.t1
        rw [h0, h1'] at hln ha
        rw [h0, h2'] at hb
        rw [h0, h1', h2', h3'] at hc
        rw [h0, h1'] at HLn
        obtain ⟨n01, hn01⟩ : ∃ n, n0 + n1 = n := ⟨_, rfl⟩
        rw [hn01] at hln HLn ha
        have HN := Lib.hid (show (L2 0).length = n0 ∧ (L2 1).length = n1 ∧ (L2 2).length = n2 ∧ (L2 3).length = n3 from ⟨h0, h1', h2', h3'⟩)
        have g1 : ¬ (s : Int) < (n01 : Int) := by omega
        have g2 := IntWalk.i64_in ((n0 : Int) + (n2 : Int)) (by have := HI.out; omega)
        have g3 : ¬ (s : Int) < (n0 : Int) + (n2 : Int) := by omega
        have g4 := IntWalk.i64_in ((n0 : Int) + (n1 : Int)) (by have := HI.out; omega)
        have g5 := IntWalk.i64_in ((n0 : Int) + (n1 : Int) + (n2 : Int)) (by have := HI.out; omega)
        have g6 := IntWalk.i64_in ((n0 : Int) + (n1 : Int) + (n2 : Int) + (n3 : Int)) (by have := HI.out; omega)
        have g7 := IntWalk.i64_in (2 * (s : Int)) (by have := HI.out; omega)
        have g8 : ¬ 2 * (s : Int) < (n0 : Int) + (n1 : Int) + (n2 : Int) + (n3 : Int) := by omega
        have g9 : ¬ t2 < 0 := by omega
        have g10 : ¬ (s : Int) < t2 := by omega
        have g11 : ((n0 : Int) + (n1 : Int) != (n01 : Int)) = false := by rw [bne_eq_false_iff_eq]; omega
        have g12 : ((n01 : Int) != (n01 : Int)) = false := by rw [bne_self_eq_false]
        have gd1 : decide (s < n01) = false := decide_eq_false (by omega)
        have gd2 : decide ((s : Int) < (n0 : Int) + (n2 : Int)) = false := decide_eq_false g3
        have gd3 : decide (2 * (s : Int) < (n0 : Int) + (n1 : Int) + (n2 : Int) + (n3 : Int)) = false := decide_eq_false g8
        have gd4 : decide (t2 < 0) = false := decide_eq_false g9
        have gd5 : decide ((s : Int) < t2) = false := decide_eq_false g10
        have gd6 : decide ((s : Int) < (n01 : Int)) = false := decide_eq_false g1
        have HLE := Lib.hid hln
        clear y0 y1 k0 k1 hxw hws hkn H HB h0 h1' h2' h3' hL4 ha hb hc ht0 ht1 hn01 hln
        go_wp2_with fail
        refine HLs.out.mono ?_
        rintro e w11 ⟨p0, p1, p2, p3, q0, q1, q2, q3, rfl, rows, b11⟩
        have R11 := Lib.hid rows
        have B11 := Lib.hid b11
        clear rows b11 HLs
        go_wp2_with fail
        refine (HLn.out _ B11.out).mono ?_
        rintro e w12 ⟨rfl, b12⟩
        have H12 := Lib.hid (H2.out.below (tr B11.out b12))
        have R12 := Lib.hid (show Rows4 w12 L2 p0 p1 p2 p3 from ⟨R11.out.1.below b12, R11.out.2.1.below b12, R11.out.2.2.1.below b12, R11.out.2.2.2.below b12⟩)
        have hlm := H12.out.ow.len und_mapb
        rw [H12.out.mb.size, HLE.out] at hlm
        clear b12 HLn H2 R11 B11
        go_wp2_with fail
        have hb14 : Below w12.heap.size w12 ((w12.alloc (.map #[] 0)).alloc (.cells #[.slice p0 n0 q0, .slice p1 n1 q1, .slice p2 n2 q2, .slice p3 n3 q3] 39)) := by go_grown
        have hb15 : Below (w12.alloc (.map #[] 0)).heap.size (w12.alloc (.map #[] 0)) ((w12.alloc (.map #[] 0)).alloc (.cells #[.slice p0 n0 q0, .slice p1 n1 q1, .slice p2 n2 q2, .slice p3 n3 q3] 39)) := by go_grown
        have hs14 : ((w12.alloc (.map #[] 0)).alloc (.cells #[.slice p0 n0 q0, .slice p1 n1 q1, .slice p2 n2 q2, .slice p3 n3 q3] 39)).heap.size = w12.heap.size + 2 := by simp
        have hx14 := (MapKept.heap_alloc (w12.alloc (.map #[] 0)) (.cells #[.slice p0 n0 q0, .slice p1 n1 q1, .slice p2 n2 q2, .slice p3 n3 q3] 39)).1
        rw [World.size_alloc] at hx14
        have hm14 := (World.ownsMap_made w12 Try.prog 38 (plainElem (H := Unit) Try.prog 3)).alloc (.cells #[.slice p0 n0 q0, .slice p1 n1 q1, .slice p2 n2 q2, .slice p3 n3 q3] 39)
        obtain ⟨pp, nn, kk, hrf⟩ := rf4_of R12.out hb14 (Nat.le_refl _) HN.out hx14 (show w12.heap.size + 1 ≠ w12.heap.size by omega)
        have H14 := Lib.hid (H12.out.more (Y' := fun k => k = w12.heap.size) hb14 fun k hk => .inr ⟨by omega, by omega⟩)
        have HM2 := Lib.hid (show w.heap.size ≤ w12.heap.size from H12.out.ax.bl.size)
        have RF := Lib.hid hrf
        have T0 := Lib.hid (show Tl ((w12.alloc (.map #[] 0)).alloc (.cells #[.slice p0 n0 q0, .slice p1 n1 q1, .slice p2 n2 q2, .slice p3 n3 q3] 39)) ((w12.alloc (.map #[] 0)).alloc (.cells #[.slice p0 n0 q0, .slice p1 n1 q1, .slice p2 n2 q2, .slice p3 n3 q3] 39)) w12.heap.size 0 [] from ⟨⟨rfl, rfl, rfl, Nat.le_refl _, fun _ _ _ => rfl⟩, 0, _, Nat.le_refl _, hm14, Mi.nil⟩)
        have Kk := Maps.int_keyed (P := Try.prog) und_u32
        clear hb14 hb15 hs14 hx14 hm14 hrf H12 R12 hlm g1 g2 g3 g4 g5 g6 g7 g8 g9 g10 g11 g12 gd1 gd2 gd3 gd4 gd5 gd6 HN
        generalize (w12.alloc (.map #[] 0)).alloc (.cells #[.slice p0 n0 q0, .slice p1 n1 q1, .slice p2 n2 q2, .slice p3 n3 q3] 39) = V at *
        generalize w12.heap.size = m2 at *
        generalize m2 + 1 = g at *
        go_loopw [211] (fun jv v => ∃ (j : Nat) (Q : List Nat), j ≤ 4 ∧ jv = .int .i64 (j : Int) ∧ Hid (Tl V v m2 (5000 * j) Q) ∧ Hid (Qm L2 j 0 Q)) (fun jv _ => 4 - (intOf jv).toNat)
        case atStart => exact ⟨0, [], by omega, rfl, T0, Lib.hid Qm.zero⟩
        case round =>
          obtain ⟨j, Q, hj, rfl, TJ, QJ⟩ := hrel
          clear T0
          by_cases hj4 : j < 4
          · have j1 : (j : Int) < 4 := by omega
            have j0 : (0 : Int) ≤ (j : Int) := by omega
            have wj := IntWalk.i64_in ((j : Int) + 1) (by omega)
            have c1 := RF.out.row j hj4 _ TJ.out.kp
            have hlj := RF.out.len j hj4
            have HJ := Lib.hid (show j < 4 ∧ (L2 j).length = nn j from ⟨hj4, hlj⟩)
            have hnb := ai_len B2.out.ai j hj4
            rw [hlj] at hnb
            have HP := Lib.hid (RF.out.at_ j hj4)
            have HKL := Lib.hid (H14.out.ax.klt j hj4)
            generalize pp j = p at *
            generalize nn j = n at *
            generalize kk j = kc at *
            clear hj4 hlj
            go_wp2_with fail
            go_loopw [218] (fun zv v => ∃ (z : Nat) (Q : List Nat), z ≤ n ∧ zv = .int .i64 (z : Int) ∧ Hid (Tl V v m2 (5000 * j + z) Q) ∧ Hid (Qm L2 j z Q)) (fun zv _ => n - (intOf zv).toNat)
            case atStart => exact ⟨0, Q, Nat.zero_le _, rfl, TJ, QJ⟩
            case round =>
              obtain ⟨z, Q, hz, rfl, TZ, QZ⟩ := hrel
              clear TJ QJ c1
              by_cases hzn : z < n
              · obtain ⟨y, hy⟩ : ∃ y, (L2 j)[z]? = some y := ⟨(L2 j)[z]'(by rw [HJ.out.2]; exact hzn), List.getElem?_eq_getElem _⟩
                obtain ⟨ad, rfl, hc⟩ := HP.out z y hy
                have c1 := hc _ TZ.out.kp
                have hyL := List.mem_of_getElem? hy
                have hy32 := HKL.out y hyL
                have hnew := QZ.out.new B2.out.ai.nd HJ.out.1 hy
                have lk0 := TZ.out.zero hy32 hnew
                have z1 : (z : Int) < (n : Int) := by omega
                have z0 : (0 : Int) ≤ (z : Int) := by omega
                have wz := IntWalk.i64_in ((z : Int) + 1) (by omega)
                have w01 : IntKind.i64.wrap (0 + 1) = 1 := by decide
                have w1 : IntKind.i64.wrap 1 = 1 := by decide
                have HKY := Lib.hid (Maps.keyOf_int_mk (P := Try.prog) und_u32 (wf32 hy32))
                have hval : plainElem (H := Unit) Try.prog 3 (.int .i64 1) = some (.lit (.int .i64 1), []) := plainElem_int und_int (by decide)
                have HV := Lib.hid hval
                obtain ⟨nm, D3, hB, ho, hm⟩ := TZ.out.mo
                have HMO := Lib.hid (show nm ≤ 5000 * j + z ∧ wr.ownsMap Try.prog 38 (plainElem Try.prog 3) m2 nm D3 ∧ Mi D3 (Q.map fun k => (k, 1)) from ⟨hB, ho, hm⟩)
                have HY := Lib.hid (show y < 4294967296 ∧ y ∉ Q ∧ (L2 j)[z]? = some y ∧ y ∈ L2 j from ⟨hy32, hnew, hy, hyL⟩)
                have HNZ := Lib.hid (show n ≤ 2048 ∧ j < 4 ∧ z < n from ⟨hnb, HJ.out.1, hzn⟩)
                obtain ⟨tb, htb, htb2, htb3⟩ : ∃ tb : Bool, decide (y ∈ S2) = tb ∧ decide (y ∈ L2 0 ∨ y ∈ L2 1) = tb ∧ decide ((j : Int) < 2) = tb := by
                  refine ⟨decide ((j : Int) < 2), ?_, ?_, rfl⟩
                  · refine decide_eq_decide.2 ((B2.out.mem y).trans ⟨fun h => ?_, fun h => ?_⟩)
                    · rcases h with h | h
                      · have := B2.out.ai.nd.two j 0 y HJ.out.1 (by omega) hyL h; omega
                      · have := B2.out.ai.nd.two j 1 y HJ.out.1 (by omega) hyL h; omega
                    · have : j = 0 ∨ j = 1 := by omega
                      rcases this with rfl | rfl
                      · exact .inl hyL
                      · exact .inr hyL
                  · refine decide_eq_decide.2 ⟨fun h => ?_, fun h => ?_⟩
                    · rcases h with h | h
                      · have := B2.out.ai.nd.two j 0 y HJ.out.1 (by omega) hyL h; omega
                      · have := B2.out.ai.nd.two j 1 y HJ.out.1 (by omega) hyL h; omega
                    · have : j = 0 ∨ j = 1 := by omega
                      rcases this with rfl | rfl
                      · exact .inl hyL
                      · exact .inr hyL
                have HTB := Lib.hid (And.intro htb htb2)
                have htt : (tb != tb) = false := by cases tb <;> rfl
                clear hy hyL hc hy32 hnew hval hB ho hm htb htb2 hnb hzn
                cases tb with
                | true =>
                  have j2 : (j : Int) < 2 := of_decide_eq_true htb3
                  clear htb3
                  go_wp2_with (first
                    | (at_mapUpdate; refine wpList_mapUpdate_own _ rfl _ _ _ 74 rfl 38 3 Kk und_mapi (plainElem Try.prog 3) m2 nm D3 rfl HMO.out.2.1 (by have := HMO.out.1; have := HNZ.out; unfold maxLen; omega) _ _ (.int .u32 (y : Int)) rfl rfl HKY.out _ [] HV.out ?_; intro w9 ho9 hg9; have T9 := Lib.hid (Tl.put TZ.out.kp HMO.out.2.2 (HMO.out.2.1.tidy Kk) HY.out.2.1 (kp_grownM hg9) (show nm + 1 ≤ 5000 * j + (z + 1) by have := HMO.out.1; omega) ho9); have H9 := Lib.hid (H14.out.keep T9.out.kp rfl HM2.out); have lk1 := T9.out.one HY.out.1 (List.mem_cons_self ..); have lk2 := lookb H9.out.ow H9.out.mb HY.out.1; rw [HTB.out.1] at lk2; clear ho9 hg9)
                    | fail)
                  refine (ahas_any H9.out.ax HI.out.1 y HY.out.1).mono ?_
                  rintro e w10 ⟨rfl, rfl⟩
                  rw [HTB.out.2]
                  have Q9 := Lib.hid (QZ.out.next HY.out.2.2.1)
                  clear lk0 lk1 lk2 c1 TZ H9
                  go_wp2_with fail
                  go_roundw
                  case rel => exact ⟨z + 1, y :: Q, by have := HNZ.out; omega, by go_num, T9, Q9⟩
                  case measure => have := HNZ.out; simp [intOf] <;> omega
                | false =>
                  have j2 : ¬ (j : Int) < 2 := of_decide_eq_false htb3
                  clear htb3
                  go_wp2_with (first
                    | (at_mapUpdate; refine wpList_mapUpdate_own _ rfl _ _ _ 74 rfl 38 3 Kk und_mapi (plainElem Try.prog 3) m2 nm D3 rfl HMO.out.2.1 (by have := HMO.out.1; have := HNZ.out; unfold maxLen; omega) _ _ (.int .u32 (y : Int)) rfl rfl HKY.out _ [] HV.out ?_; intro w9 ho9 hg9; have T9 := Lib.hid (Tl.put TZ.out.kp HMO.out.2.2 (HMO.out.2.1.tidy Kk) HY.out.2.1 (kp_grownM hg9) (show nm + 1 ≤ 5000 * j + (z + 1) by have := HMO.out.1; omega) ho9); have H9 := Lib.hid (H14.out.keep T9.out.kp rfl HM2.out); have lk1 := T9.out.one HY.out.1 (List.mem_cons_self ..); have lk2 := lookb H9.out.ow H9.out.mb HY.out.1; rw [HTB.out.1] at lk2; clear ho9 hg9)
                    | fail)
                  refine (ahas_any H9.out.ax HI.out.1 y HY.out.1).mono ?_
                  rintro e w10 ⟨rfl, rfl⟩
                  rw [HTB.out.2]
                  have Q9 := Lib.hid (QZ.out.next HY.out.2.2.1)
                  clear lk0 lk1 lk2 c1 TZ H9
                  go_wp2_with fail
                  go_roundw
                  case rel => exact ⟨z + 1, y :: Q, by have := HNZ.out; omega, by go_num, T9, Q9⟩
                  case measure => have := HNZ.out; simp [intOf] <;> omega
              · obtain rfl : z = n := by omega
                have z1 : ¬ (z : Int) < (z : Int) := by omega
                have QE := Lib.hid (QZ.out.end_ HJ.out.2)
                have TE := Lib.hid (show Tl V wr m2 (5000 * (j + 1)) Q from ⟨TZ.out.kp, by obtain ⟨nm, D3, h1, h2⟩ := TZ.out.mo; exact ⟨nm, D3, by omega, h2⟩⟩)
                clear hnb
                go_wp2_with fail
                go_roundw
                case rel => exact ⟨j + 1, Q, by have := HJ.out; omega, by go_num, TE, QE⟩
                case measure => have := HJ.out; simp [intOf] <;> omega
          · obtain rfl : j = 4 := by omega
            have j1 : ¬ ((4 : Nat) : Int) < 4 := by omega
            have wi := IntWalk.i64_in ((i : Int) + 1) (by have := HI.out; have := HKN.out; omega)
            have HE := Lib.hid ((H14.out.keep TJ.out.kp rfl HM2.out).only (Y' := fun _ => False) fun _ h => h.elim)
            go_wp2_with fail
            go_roundw
            case rel => exact ⟨i + 1, K2, N2, t2, L2, D2, S2, by have := HKN.out; omega, by go_num, HE, B2⟩
            case measure => have := HKN.out; simp [intOf] <;> omega
    · obtain rfl : i = len := by omega
      have HKN := Lib.hid (HK0.out wr H.out.ax.bl)
      have HBL := Lib.hid H.out.ax.bl
      clear hi hlt
      go_wp2_with fail
      refine HKN.out.mono ?_
      rintro e u ⟨rfl, bl⟩
      go_wp2_with fail
      have hs := HBL.out.size
      refine bodyPost_ret (v := .bool true) (by simp [results, Try.results13, go_sem]) rfl ⟨rfl, ?_⟩
      exact ((Kp.of (bad := fun _ => False) HBL.out).tr bl).below (fun k hk h => h) (Nat.le_refl _)
end Go.Proofs.Ytggimkfepcgaoaa.Arc
