/-
  Links (layer 14): LinksIterates. 
-/
import Derived.Test.YtjcabdnjimcdgaaLnkZa
import Derived.Test.YtjcabdnjimcdgaaQrd
set_option linter.unusedVariables false
set_option linter.unusedSimpArgs false
namespace Go.Proofs.Ytjcabdnjimcdgaa.Lnk
open Go Go.RowKit Kit Go.Shelf
attribute [local go_sem] Oper.semAt_some
theorem keeps_drewN (W : World) (n : Nat) : KeepsOthers W (W.drewN n) := ⟨Nat.le_refl _, fun k o h _ => h⟩
set_option maxRecDepth 100000 in
set_option maxHeartbeats 4000000 in
theorem literates_in {w : World} {N m cl : Nat} {pl : Option Addr} {l : List Int} {many : Int} (n1 : 1 ≤ N) (n2 : N ≤ 60) (hm : l.length = m) (hm2 : m ≤ 60) (hl : Ru w pl l) (hw : ∀ (i : Nat) (x : Int), l[i]? = some x → 0 ≤ x ∧ x < 4294967296) (hmany : 0 ≤ many ∧ many ≤ 255) (hk : Kn w) :
    Calls Try.prog 5 #[.int .i64 (N : Int), .slice pl m cl, .int .u8 many] w fun e w' => e = .returned (.bool true) ∧ Below w.heap.size w w' := by
  have HK := Lib.hid hk
  have HM := Lib.hid hm
  have HLR := Lib.hid hl
  have HWF := Lib.hid hw
  have HNW := Lib.hid (fun v : World => New_ok N 2 v (by omega) (by omega) (by omega) (by omega))
  have HRN := Lib.hid (fun v : World => rnew2 N 2 v (by omega) (by omega) (by omega) (by omega))
  have c1 : ¬ (N : Int) < 1 := by omega
  have c2 : ¬ (60 : Int) < (N : Int) := by omega
  have c3 : ¬ (60 : Int) < (m : Int) := by omega
  clear hk hm hl hw
  refine (callsIn_wide (n := 6)).1 ?_
  refine callsIn_of_wp_marks Try.func5 rfl trivial ?_ rfl
  simp only [Try.ntmps5, List.size_toArray, List.length_cons, List.length_nil, Nat.reduceAdd, Nat.reduceSub, Array.replicate_succ, Array.replicate_zero, List.push_toArray, List.append_toArray, List.nil_append, List.cons_append]
  obtain ⟨V, hV, sV⟩ := M2.new w many
  have SV := Lib.hid sV
  clear sV
  gi_wp2
  refine ⟨trivial, ?_⟩
  gi_at_call 17
  refine (callsIn_wide.2 (HNW.out _)).mono ?_
  rintro e v1 ⟨⟨c, q, r, F, rfl, lo, cc1, cq1, cr1⟩, b1⟩
  have S1 := Lib.hid (SV.out.below b1)
  have LO := Lib.hid lo
  have hcq := Lib.hid (⟨by have := SV.out.lt; omega, by have := SV.out.lt; omega, by have := SV.out.lt; omega⟩ : w.heap.size + 2 ≤ c ∧ w.heap.size + 2 ≤ q ∧ w.heap.size + 2 ≤ r)
  clear b1 lo cc1 cq1 cr1 hV SV
  gi_wp2
  refine ⟨trivial, ?_⟩
  gi_at_call 15
  refine (callsIn_wide.2 (HRN.out _)).mono ?_
  rintro e v2 ⟨⟨p, rfl, rf, hav⟩, b2⟩
  have bx := box_below v1 #[.pointer (some ⟨c, 0, none⟩)] 28
  have b12 := tr bx b2
  have S2 := Lib.hid (S1.out.below b12)
  have LO2 := Lib.hid (LO.out.below b12)
  have XB2 := Lib.hid ((b2.block v1.heap.size (by simp)).trans (one_block v1 (.pointer (some ⟨c, 0, none⟩)) 28))
  have hlt := LO.out.lt
  have hs12 : v1.heap.size < v2.heap.size := by have := b2.size; simp at this; omega
  have RF := Lib.hid rf
  obtain ⟨V3, hV3, si⟩ := Si.start S2.out XB2.out LO2.out rf (fun b hb => hav b (by simp; rcases hb with rfl | rfl | rfl <;> omega)) hcq.out hlt hs12
  have SI := Lib.hid si
  obtain ⟨x0, x1, x2, x3, x4, x5, x6, x7⟩ := si.cells
  clear b2 rf S1 LO bx b12 hav si LO2 XB2 RF S2
  unfold fv
  gi_wp2
  refine wpIn_wide.2 ?_
  clear x0 x1 x2 x3 x4 x5 x6 x7 hV3
  go_loopw [11] (fun v wr => ∃ (j : Nat) (F : Fd) (Ls : List (List Nat)) (p : Option Addr) (cp : Nat), j ≤ m ∧ v = .int .i64 (j : Int) ∧ Si w wr many v1.heap.size v2.heap.size c q r N F Ls Ls p cp) (fun v _ => m - (intOf v).toNat)
  case atStart => exact ⟨0, F, _, p, 2, by omega, rfl, SI.out⟩
  case round =>
    obtain ⟨j, F, Ls, p, cp, hj, rfl, si⟩ := hrel
    have SI := Lib.hid si
    obtain ⟨x0, x1, x2, x3, x4, x5, x6, x7⟩ := si.cells
    clear si
    by_cases hjm : j = m
    · subst hjm
      go_wp2_with fail
      obtain ⟨l, hl0⟩ : ∃ l, Ls[0]? = some l := ⟨Ls[0]'(by have := SI.out.len; omega), List.getElem?_eq_getElem _⟩
      have HALL := Lib.hid (All_any SI.out.lo (h := 0) hl0)
      have HL0 := Lib.hid hl0
      have HLEN := Lib.hid (show (ints l).length ≤ 4194304 from by rw [ints_len]; exact SI.out.lo.len_le hl0)
      have HRNG := Lib.hid (show ∀ u ∈ l, u < 4294967296 from fun u hu => by have := (SI.out.lo.ring.mem 0 l u hl0 hu).1; omega)
      have hnil := fun (wx : World) (ts lb : Array Value) => run_eql_func_nil (P := Try.prog) wx 47 _ _ _ (.func 100) ts lb Try.underlying47
      clear hl0
      gi_wp2
      refine ⟨trivial, ?_⟩
      refine (callsIn_wide.2 HALL.out).mono ?_
      rintro e W2 ⟨⟨g, pi, ci, rfl, hg1, hg2, hcg, hru, hpf⟩, b2⟩
      have SX2 := Lib.hid (SI.out.below b2)
      have HG := Lib.hid (show wr.heap.size ≤ g ∧ g < W2.heap.size ∧ W2.cell? ⟨g, 0, none⟩ = some (.slice pi (ints l).length ci) ∧ Ru W2 pi (ints l) ∧ ∀ y, pi = some y → wr.heap.size ≤ y.block from ⟨hg1, hg2, hcg, hru, hpf⟩)
      have BK := Lib.hid (show ∀ k, Ob c q r k → k < wr.heap.size from fun k hk => by have := SI.out.lo.lt; rcases hk with rfl | rfl | rfl <;> omega)
      have W2s := Lib.hid b2.size
      have ba1 := box_below W2 #[.int .i64 0] 3
      have ba2 := box_below (W2.alloc (.cells #[.int .i64 0] 3)) #[.int .i64 0] 3
      have PP0 := Lib.hid (show P3 w W2 ((W2.alloc (.cells #[.int .i64 0] 3)).alloc (.cells #[.int .i64 0] 3)) c q r W2.heap.size (W2.heap.size + 1) 0 0 [] from
        ⟨⟨N + 2, 2, N, F, Ls, SX2.out.lo.below (tr ba1 ba2), SX2.out.len⟩, fun k hk => ⟨by have := SI.out.dc; rcases hk with rfl | rfl | rfl <;> omega, by have := BK.out k hk; have := W2s.out; omega⟩,
          fun k hk _ => (tr ba1 ba2).block k hk, (ba2.block _ (by simp)).trans (MapKept.heap_alloc W2 _).1, by simpa using (MapKept.heap_alloc (W2.alloc (.cells #[.int .i64 0] 3)) (.cells #[.int .i64 0] 3)).1, by omega, (fun D hD => by cases hD), by have := SX2.out.m2.lt; omega, (tr ba1 ba2).size, tr SX2.out.m2.2.2 (tr ba1 ba2)⟩)
      obtain ⟨nm, hnm⟩ : ∃ nm, l.length = nm := ⟨_, rfl⟩
      have HI := Lib.hid (show l.length = nm ∧ nm ≤ 4194304 from ⟨hnm, by have := HLEN.out; rw [ints_len] at this; omega⟩)
      obtain ⟨y0, hp0, hy0b, ph, ch, hc0, hru0, -, -⟩ := SX2.out.rf 0 l HL0.out
      subst hp0
      rw [hnm] at hc0
      have HROW := Lib.hid (show y0.block < W2.heap.size ∧ W2.cell? (y0.add 0) = some (.slice ph nm ch) ∧ Ru W2 ph (ints l) from ⟨hy0b, hc0, hru0⟩)
      have HAV := Lib.hid (show ∀ b, Ob c q r b → y0.block ≠ b ∧ (l ≠ [] → ∀ z, ph = some z → z.block ≠ b) from fun b hb => by
        have h := SX2.out.av b (.inr hb) 0 l HL0.out y0 rfl
        exact ⟨h.1, fun hne z hz => h.2 ph nm ch hc0 hne z hz⟩)
      clear b2 hg1 hg2 hcg hru hpf HALL ba1 ba2 hnm hy0b hc0 hru0 x0 x1 x2 x3 x4 x5 x6 x7
      gi_wp2
      refine wpIn_loop_rounds 3 ?_
      rw [roundsIn_succ]
      gi_wp2
      have HX : ∀ x : El (ints l), ∃ s : Nat, x.val = (s : Int) ∧ s ∈ l := fun x => by
        have := x.property
        unfold ints at this
        obtain ⟨s, hs, e⟩ := List.mem_map.1 this
        exact ⟨s, e.symm, hs⟩
      obtain ⟨tb, htb⟩ : ∃ tb, W2.heap.size = tb := ⟨_, rfl⟩
      obtain ⟨W3, hW3⟩ : ∃ W3, (W2.alloc (.cells #[.int .i64 0] 3)).alloc (.cells #[.int .i64 0] 3) = W3 := ⟨_, rfl⟩
      rw [hW3] at PP0 ⊢
      rw [htb] at PP0 ⊢
      have HTB := Lib.hid htb
      clear hW3 htb
      have NOB := Lib.hid (show ¬ Ob c q r w.heap.size ∧ ¬ Ob c q r (w.heap.size + 1) ∧ ¬ Ob c q r v1.heap.size ∧ ¬ Ob c q r v2.heap.size from by
        have h1 := SX2.out.dc
        have h2 := SX2.out.dx
        have h3 := SX2.out.df
        exact ⟨fun h => by rcases h with h | h | h <;> omega, fun h => by rcases h with h | h | h <;> omega, fun h => by rcases h with h | h | h <;> omega, fun h => by rcases h with h | h | h <;> omega⟩)
      have WS2 := Lib.hid (show w.heap.size < W2.heap.size ∧ w.heap.size + 1 < W2.heap.size ∧ v1.heap.size < W2.heap.size ∧ v2.heap.size < W2.heap.size from ⟨(Array.getElem?_eq_some_iff.1 SX2.out.m2.1).1, (Array.getElem?_eq_some_iff.1 SX2.out.m2.2.1).1, (Array.getElem?_eq_some_iff.1 SX2.out.xb).1, (Array.getElem?_eq_some_iff.1 SX2.out.fb).1⟩)
      have HRUK := Lib.hid (show ∀ A B, K2 W2 c q r A B → Ru A pi (ints l) → Ru B pi (ints l) from fun A B hh r i x hx => by
        obtain ⟨y, hy, hlt, hc⟩ := r i x hx
        obtain ⟨y', hy', hlt2, _⟩ := HG.out.2.2.2.1 i x hx
        rw [hy] at hy'
        cases hy'
        have hb := HG.out.2.2.2.2 y hy
        refine ⟨y, hy, Nat.lt_of_lt_of_le hlt hh.2, ?_⟩
        rw [← hc]
        unfold World.cell?
        rw [Lnk.add_block, hh.1 _ hlt2 fun hk => by have := BK.out _ hk; omega])
      have HIT := Lib.hid (show ∀ (W : World) (tb nb : Nat) (tv nv : Int) (Ds : List Nat), P3 w W2 W c q r tb nb tv nv Ds → W.cell? ⟨g, 0, none⟩ = some (.slice pi (ints l).length ci) ∧ Ru W pi (ints l) ∧ g < W.heap.size from fun W tb nb tv nv Ds pp =>
        ⟨(pp.cell (a := ⟨g, 0, none⟩) HG.out.2.1 fun hk => by have := BK.out g hk; have := HG.out.1; omega).trans HG.out.2.2.1, HRUK.out W2 W ⟨fun k h1 h2 => pp.kp k h1 h2, pp.sz⟩ HG.out.2.2.2.1, Nat.lt_of_lt_of_le HG.out.2.1 pp.sz⟩)
      refine codeIn_mid 4 (fun D W => ∃ nv, w.heap.size ≤ D ∧ Hid (P3 w W2 W c q r tb (tb + 1) 0 nv [D])) ?first (fun _ _ h => h) ?rest
      case first =>
        refine' wpIn_rangeFunc_ownF (encs := fun x : El (ints l) => #[.int .u32 x.val]) (Kp := K2 W2 c q r) (S := fun ys => vals ys = ints l) (Sp := fun pre => vals pre <+: ints l) (N := (ints l).length) rfl (by decide) (gf := 100) (lb := #[.pointer (some ⟨g, 0, none⟩)]) rfl trivial (enters_of Try.func100 (by kernel_rfl) rfl)
          (w0 := W3)
          (fun L J Jx W hW _ _ hY h0 => allsub_in (K2 W2 c q r) L g pi ci (ints l) HLEN.out J Jx HRUK.out hY W ((hW.cell (p := ⟨g, 0, none⟩) (HIT.out _ _ _ _ _ _ PP0.out).2.2).trans (HIT.out _ _ _ _ _ _ PP0.out).1) ((HIT.out _ _ _ _ _ _ PP0.out).2.1.below hW) h0)
          (fun h k => ⟨fun b h1 h2 => (k.1 b h1 h2).trans (h.1 b h1 h2), Nat.le_trans h.2 k.2⟩) (fun W l o o' h1 h2 h3 h4 => ⟨fun k hk _ => heap_putObj_ne W l o' k (by have := PP0.out.sz; omega), by simp [World.putObj]⟩) (Below.refl _ _) (fun _ => rfl)
          (fun pre W => vals pre <+: ints l ∧ P3 w W2 W c q r tb (tb + 1) 0 (pre.length : Int) [])
          (fun cd pre W => (cd = .ret ∧ ¬ vals pre <+: ints l) ∨ (cd = .exit 4 ∧ ∃ nv, P3 w W2 W c q r tb (tb + 1) 0 nv []))
          (fun pre W W' row hI hg hr => ?ownI) (fun cd pre W W' row hI hg hr => ?ownX) ⟨List.nil_prefix, PP0.out⟩
          _ ?assign ?body ?done ?stop
        case ownI => exact ⟨hI.1, hI.2.own PP0.out.sz (fun D hD => by cases hD) hg hr⟩
        case ownX =>
          rcases hI with hI | ⟨h1, nv, h2⟩
          · exact .inl hI
          · exact .inr ⟨h1, nv, h2.own PP0.out.sz (fun D hD => by cases hD) hg hr⟩
        case assign =>
          intro l x W K hK
          gi_wp2
          exact hK
        case body =>
          rintro L pre x W ⟨hpre, pp⟩ hlt
          obtain ⟨u, hu, hul⟩ := HX x
          have PPW := Lib.hid pp
          have PP := Lib.hid (pp.below (Below.drew (Below.refl W.heap.size W)))
          have hu32 : u < 4294967296 := HRNG.out u hul
          obtain ⟨k0, hk0⟩ : ∃ k0, pre.length = k0 := ⟨_, rfl⟩
          rw [hk0] at PP PPW hlt
          rw [ints_len, HI.out.1] at hlt
          obtain ⟨t, ht⟩ : ∃ t, l[k0]? = some t := ⟨l[k0]'(by rw [HI.out.1]; exact hlt), List.getElem?_eq_getElem _⟩
          have hlne : l ≠ [] := fun e => by rw [e] at ht; cases ht
          obtain ⟨ym, hym, hymb, em⟩ := HROW.out.2.2 k0 (t : Int) (Lnk.ints_at ht)
          subst hym
          have hymn : ¬ Ob c q r ym.block := fun h => (HAV.out _ h).2 hlne ym rfl rfl
          have e0 : W.cell? (ym.add k0) = some (.int .u32 (t : Int)) := (PPW.out.cell (a := ym.add k0) (by rw [add_block]; exact hymb) (by rw [add_block]; exact hymn)).trans em
          have e1 := PPW.out.cn
          have e2 : W.cell? ⟨v2.heap.size, 1, none⟩ = some (.slice (some y0) 2 cp) := (PPW.out.cell (a := ⟨v2.heap.size, 1, none⟩) WS2.out.2.2.2 NOB.out.2.2.2).trans SX2.out.cells.2.2.1
          have e2b : W.cell? (y0.add 0) = some (.slice (some ym) nm ch) := (PPW.out.cell (a := y0.add 0) (by rw [add_block]; exact HROW.out.1) (by rw [add_block]; exact fun h => (HAV.out _ h).1 rfl)).trans HROW.out.2.1
          have hmix : Try.prog.follows .mixedOrders = true := by kernel_rfl
          have e2c := e2b
          rw [show y0.add 0 = y0 from by simp [Addr.add]] at e2c
          have HC3 := Lib.hid (fun (v : World) (tb nb : Nat) (tv nv : Int) (Ds : List Nat) (pp : P3 w W2 v c q r tb nb tv nv Ds) => (show v.cell? ⟨v1.heap.size, 0, none⟩ = some (.pointer (some ⟨c, 0, none⟩)) from (pp.cell (a := ⟨v1.heap.size, 0, none⟩) WS2.out.2.2.1 NOB.out.2.2.1).trans SX2.out.cells.1))
          have e3 := HC3.out W _ _ _ _ _ PPW.out
          have d0 : (0 : Int) ≤ (k0 : Int) := by omega
          have d1 : (k0 : Int) < (nm : Int) := by omega
          have d2 : ¬ (nm : Int) ≤ (k0 : Int) := by omega
          have hnm60 : nm ≤ 4194304 := HI.out.2
          have wk := IntWalk.i64_in ((k0 : Int) + 1) (by omega)
          have wsx : IntKind.i64.wrap many = many := IntWalk.i64_in many (by omega)
          have HPRE := Lib.hid (show vals pre <+: ints l ∧ pre.length = k0 ∧ x.val = (u : Int) ∧ l[k0]? = some t from ⟨hpre, hk0, hu, ht⟩)
          have HU := Lib.hid hu32
          rw [hu]
          obtain ⟨z, hz⟩ : ∃ z : Int, (u : Int) = z := ⟨_, rfl⟩
          obtain ⟨zt, hzt⟩ : ∃ z : Int, (t : Int) = z := ⟨_, rfl⟩
          have HZ := Lib.hid hz
          have HZT := Lib.hid hzt
          rw [hz]
          rw [hzt] at e0
          have PACK := Lib.hid (And.intro HK (And.intro HI (And.intro PP (And.intro PPW (And.intro HC3 (And.intro NOB (And.intro WS2 (And.intro SX2 (And.intro HPRE (And.intro HU (And.intro HZ (And.intro HZT (And.intro wk (And.intro wsx e3))))))))))))))
          clear HLR HWF HNW HRN c1 c2 hcq hs12 hm2 HM c3 hj HL0 HLEN HRNG hnil HG BK W2s SI HX PP0 HTB HRUK HIT HROW HAV pp hlt hymb hymn hnm60 hz hzt hu32 ht hul hpre em hlne hu hk0 hmany wk wsx e3 e2b
          clear HK HI PP PPW HC3 NOB WS2 SX2 HPRE HU HZ HZT
          gi_wp2
          have d5 : ¬ nm ≤ k0 := by omega
          refine Qrd.region_quiet (by kernel_rfl) (by kernel_rfl) (by kernel_rfl) ?_
          repeat (gi_big_quiet_step (fail))
          refine wpQuietIn_nil ?_
          intro _ hw'
          obtain ⟨nq, hw''⟩ := hw'
          subst hw''
          obtain ⟨HK, HI, _, PPW, HC3, NOB, WS2, SX2, HPRE, HU, HZ, HZT, wk, wsx, e3⟩ := PACK.out
          have PP := Lib.hid (PPW.out.below (below_drewN (Below.refl W.heap.size W) nq))
          have e3 := HC3.out _ _ _ _ _ _ PP.out
          have e1 := PP.out.cn
          clear PACK e0 e2 e2c d2 d5
          by_cases hut : u = t
          · subst hut
            have HPS := Lib.hid (vals_ext HPRE.out.1 HPRE.out.2.1 HPRE.out.2.2.1 HPRE.out.2.2.2)
            have HLEN2 := Lib.hid (show ((pre ++ [x]).length : Int) = (k0 : Int) + 1 from by rw [List.length_append, HPRE.out.2.1]; simp)
            obtain rfl : z = zt := HZ.out.symm.trans HZT.out
            gi_wp2
            refine ⟨trivial, ?_⟩
            rw [← HZ.out]
            refine (CallsIn.inRound L (callsIn_wide.2 (P3.rem PP u HU.out))).mono ?_
            rw [HZ.out]
            rintro e W4 ⟨⟨zu, rfl⟩, PP4, KO4⟩
            have e4 := PP4.out.cn
            have e5 := HC3.out W4 _ _ _ _ _ PP4.out
            clear e1 e3
            gi_wp2
            refine ⟨trivial, ?_⟩
            rw [← HZ.out]
            refine (CallsIn.inRound L (callsIn_wide.2 (P3.front PP4 u HU.out))).mono ?_
            rw [HZ.out]
            rintro e W5 ⟨⟨zv, rfl⟩, PP5, KO5⟩
            have f4 := PP5.out.cn
            have f6 := PP5.out.fn
            clear e4 e5
            have e7 := (PP5.out.setn ((k0 : Int) + 1)).1.cn
            have e8 := (PP5.out.setn ((k0 : Int) + 1)).1.ct
            have e9 : (W5.setCell ⟨tb + 1, 0, none⟩ (.int .i64 ((k0 : Int) + 1))).cell? ⟨w.heap.size, 0, none⟩ = some (.int .u8 many) := ((PP5.out.setn ((k0 : Int) + 1)).1.cell (a := ⟨w.heap.size, 0, none⟩) WS2.out.1 NOB.out.1).trans SX2.out.cells.2.2.2.2.2.1
            have HF := Lib.hid (show KeepsOthers W (W5.setCell ⟨tb + 1, 0, none⟩ (.int .i64 ((k0 : Int) + 1))) ∧ P3 w W2 (W5.setCell ⟨tb + 1, 0, none⟩ (.int .i64 ((k0 : Int) + 1))) c q r tb (tb + 1) 0 ((k0 : Int) + 1) [] from ⟨((keeps_drewN W nq).trans (KO4.out.trans KO5.out)).trans (PP5.out.setn _).2, (PP5.out.setn _).1⟩)
            by_cases hsm : many < (k0 : Int) + 1
            · gi_wp2
              exact ⟨HF.out.1, .inr ⟨rfl, _, HF.out.2⟩⟩
            · gi_wp2
              exact ⟨HF.out.1, PPW.out.k2 HF.out.2 HF.out.1, HPS.out, by rw [HLEN2.out]; exact HF.out.2⟩
          · have hne : ¬ z = zt := fun h => hut (by have := HZ.out; have := HZT.out; omega)
            have hbn : (z == zt) = false := beq_eq_false_iff_ne.2 hne
            have hbn2 : (z != zt) = true := by simp [bne, hbn]
            have HNO := Lib.hid (show ¬ vals (pre ++ [x]) <+: ints l from fun h => hut (vals_next h HPRE.out.2.1 HPRE.out.2.2.1 HPRE.out.2.2.2))
            have r0 : (W.drewN nq).cell? ⟨w.heap.size + 1, 0, none⟩ = some (.bool false) := (PP.out.cell (a := ⟨w.heap.size + 1, 0, none⟩) WS2.out.2.1 NOB.out.2.1).trans (show W2.cell? ⟨w.heap.size + 1, 0, none⟩ = some (.bool false) by simp [World.cell?, SX2.out.m2.2.1])
            have hrb : (W.drewN nq).heap[w.heap.size + 1]? = some (.cells #[.bool false] 4 (0, 0)) := (PP.out.kp _ WS2.out.2.1 NOB.out.2.1).trans SX2.out.m2.2.1
            have f0 : (W.drewN nq).frozen? ⟨w.heap.size + 1, 0, none⟩ = false := (by have h := hrb; change W.heap[_]? = _ at h; simp [World.frozen?, h])
            clear hrb
            gi_wp2
            exact ⟨(keeps_drewN W nq).trans (KeepsOthers.setCell _ _ _), .inl ⟨rfl, HNO.out⟩⟩
        case done =>
          rintro D ys W hD hys ⟨_, pp⟩ hK
          exact ⟨D, rfl, _, Nat.le_trans PP0.out.bw.size hD, Lib.hid (pp.mark hK)⟩
        case stop =>
          rintro D c pre W hD hpre (⟨rfl, hno⟩ | ⟨rfl, nv, pp⟩) hK
          · exact absurd hpre hno
          · gi_wp2
            exact ⟨rfl, D, rfl, Nat.le_trans PP0.out.bw.size hD, nv, Lib.hid (pp.mark hK)⟩
      case rest =>
        rintro D W ⟨nv, hDD0, PP⟩
        have HDD := Lib.hid hDD0
        clear hDD0
        have t0 := PP.out.ct
        have t1 := PP.out.ft
        clear PP0
        gi_wp2
        gi_quiet (fail)
        have PQ := PP.out.below (below_drewN (Below.refl W.heap.size W) nq)
        obtain ⟨W, hWq⟩ : ∃ W', W.drewN nq = W' := ⟨_, rfl⟩
        rw [hWq] at PQ ⊢
        clear hWq t0 t1 PP
        have t0 := PQ.ct
        have t1 := PQ.ft
        have HDW := Lib.hid (Array.getElem?_eq_some_iff.1 (PQ.ds D (List.mem_cons_self ..))).1
        have PP6 := Lib.hid (PQ.turn 1 0)
        clear PQ
        gi_wp2
        rw [roundsIn_succ]
        gi_wp2
        obtain ⟨tb1, htb1⟩ : ∃ tb1, W.heap.size = tb1 := ⟨_, rfl⟩
        obtain ⟨W6, hW6⟩ : ∃ W6, (W.alloc (.cells #[.int .i64 1] 3)).alloc (.cells #[.int .i64 0] 3) = W6 := ⟨_, rfl⟩
        have HDL := Lib.hid (show ∀ D' ∈ [D], D' < W6.heap.size from fun D' hD' => by
          simp at hD'
          subst hD'
          rw [← hW6]
          simp
          have := HDW.out
          omega)
        rw [hW6] at PP6 ⊢
        rw [htb1] at PP6 ⊢
        clear hW6 htb1 HDW
        refine codeIn_mid 4 (fun D' W => D < D' ∧ Hid (P3 w W2 W c q r tb1 (tb1 + 1) 1 (nm : Int) [D', D])) ?first (fun _ _ h => h) ?rest
        case first =>
          refine' wpIn_rangeFunc_ownF (encs := fun x : El (ints l) => #[.int .u32 x.val]) (Kp := K2 W2 c q r) (S := fun ys => vals ys = ints l) (Sp := fun pre => vals pre <+: ints l) (N := (ints l).length) rfl (by decide) (gf := 100) (lb := #[.pointer (some ⟨g, 0, none⟩)]) rfl trivial (enters_of Try.func100 (by kernel_rfl) rfl)
            (w0 := W6)
            (fun L J Jx W hW _ _ hY h0 => allsub_in (K2 W2 c q r) L g pi ci (ints l) HLEN.out J Jx HRUK.out hY W ((hW.cell (p := ⟨g, 0, none⟩) (HIT.out _ _ _ _ _ _ PP6.out).2.2).trans (HIT.out _ _ _ _ _ _ PP6.out).1) ((HIT.out _ _ _ _ _ _ PP6.out).2.1.below hW) h0)
            (fun h k => ⟨fun b h1 h2 => (k.1 b h1 h2).trans (h.1 b h1 h2), Nat.le_trans h.2 k.2⟩) (fun W l o o' h1 h2 h3 h4 => ⟨fun k hk _ => heap_putObj_ne W l o' k (by have := PP6.out.sz; omega), by simp [World.putObj]⟩) (Below.refl _ _) (fun _ => rfl)
            (fun pre W => vals pre <+: ints l ∧ P3 w W2 W c q r tb1 (tb1 + 1) 1 (pre.length : Int) [D])
            (fun cd pre W => cd = .ret ∧ ¬ vals pre <+: ints l)
            (fun pre W W' row hI hg hr => ?ownI) (fun cd pre W W' row hI hg hr => ?ownX) ⟨List.nil_prefix, PP6.out⟩
            _ ?assign ?body ?done ?stop
          case ownI => exact ⟨hI.1, hI.2.own PP6.out.sz HDL.out hg hr⟩
          case ownX => exact hI
          case assign =>
            intro l x W K hK
            gi_wp2
            exact hK
          case body =>
            rintro L pre x W ⟨hpre, pp⟩ hlt
            obtain ⟨u, hu, hul⟩ := HX x
            have PPW := Lib.hid pp
            have PP := Lib.hid (pp.below (Below.drew (Below.refl W.heap.size W)))
            have hu32 : u < 4294967296 := HRNG.out u hul
            obtain ⟨k0, hk0⟩ : ∃ k0, pre.length = k0 := ⟨_, rfl⟩
            rw [hk0] at PP PPW hlt
            rw [ints_len, HI.out.1] at hlt
            obtain ⟨t, ht⟩ : ∃ t, l[k0]? = some t := ⟨l[k0]'(by rw [HI.out.1]; exact hlt), List.getElem?_eq_getElem _⟩
            have hlne : l ≠ [] := fun e => by rw [e] at ht; cases ht
            obtain ⟨ym, hym, hymb, em⟩ := HROW.out.2.2 k0 (t : Int) (Lnk.ints_at ht)
            subst hym
            have hymn : ¬ Ob c q r ym.block := fun h => (HAV.out _ h).2 hlne ym rfl rfl
            have e0 : W.cell? (ym.add k0) = some (.int .u32 (t : Int)) := (PPW.out.cell (a := ym.add k0) (by rw [add_block]; exact hymb) (by rw [add_block]; exact hymn)).trans em
            have e1 := PPW.out.cn
            have e2 : W.cell? ⟨v2.heap.size, 1, none⟩ = some (.slice (some y0) 2 cp) := (PPW.out.cell (a := ⟨v2.heap.size, 1, none⟩) WS2.out.2.2.2 NOB.out.2.2.2).trans SX2.out.cells.2.2.1
            have e2b : W.cell? (y0.add 0) = some (.slice (some ym) nm ch) := (PPW.out.cell (a := y0.add 0) (by rw [add_block]; exact HROW.out.1) (by rw [add_block]; exact fun h => (HAV.out _ h).1 rfl)).trans HROW.out.2.1
            have hmix : Try.prog.follows .mixedOrders = true := by kernel_rfl
            have e2c := e2b
            rw [show y0.add 0 = y0 from by simp [Addr.add]] at e2c
            have HC3 := Lib.hid (fun (v : World) (tb nb : Nat) (tv nv : Int) (Ds : List Nat) (pp : P3 w W2 v c q r tb nb tv nv Ds) => (show v.cell? ⟨v1.heap.size, 0, none⟩ = some (.pointer (some ⟨c, 0, none⟩)) from (pp.cell (a := ⟨v1.heap.size, 0, none⟩) WS2.out.2.2.1 NOB.out.2.2.1).trans SX2.out.cells.1))
            have e3 := HC3.out W _ _ _ _ _ PPW.out
            have d0 : (0 : Int) ≤ (k0 : Int) := by omega
            have d1 : (k0 : Int) < (nm : Int) := by omega
            have d2 : ¬ (nm : Int) ≤ (k0 : Int) := by omega
            have hnm60 : nm ≤ 4194304 := HI.out.2
            have wk := IntWalk.i64_in ((k0 : Int) + 1) (by omega)
            have wsx : IntKind.i64.wrap many = many := IntWalk.i64_in many (by omega)
            have HPRE := Lib.hid (show vals pre <+: ints l ∧ pre.length = k0 ∧ x.val = (u : Int) ∧ l[k0]? = some t from ⟨hpre, hk0, hu, ht⟩)
            have HU := Lib.hid hu32
            rw [hu]
            obtain ⟨z, hz⟩ : ∃ z : Int, (u : Int) = z := ⟨_, rfl⟩
            obtain ⟨zt, hzt⟩ : ∃ z : Int, (t : Int) = z := ⟨_, rfl⟩
            have HZ := Lib.hid hz
            have HZT := Lib.hid hzt
            rw [hz]
            rw [hzt] at e0
            have PACK := Lib.hid (And.intro HK (And.intro HI (And.intro PP (And.intro PPW (And.intro HC3 (And.intro NOB (And.intro WS2 (And.intro SX2 (And.intro HPRE (And.intro HU (And.intro HZ (And.intro HZT (And.intro wk (And.intro wsx e3))))))))))))))
            clear HLR HWF HNW HRN c1 c2 hcq hs12 hm2 HM c3 hj HL0 HLEN HRNG hnil HG BK W2s SI HX PP6 HTB HRUK HIT HROW HAV pp hlt hymb hymn hnm60 hz hzt hu32 ht hul hpre em hlne hu hk0 hmany wk wsx e3 e2b
            clear HK HI PP PPW HC3 NOB WS2 SX2 HPRE HU HZ HZT
            gi_wp2
            have d5 : ¬ nm ≤ k0 := by omega
            refine Qrd.region_quiet (by kernel_rfl) (by kernel_rfl) (by kernel_rfl) ?_
            repeat (gi_big_quiet_step (fail))
            refine wpQuietIn_nil ?_
            intro _ hw'
            obtain ⟨nq, hw''⟩ := hw'
            subst hw''
            obtain ⟨HK, HI, _, PPW, HC3, NOB, WS2, SX2, HPRE, HU, HZ, HZT, wk, wsx, e3⟩ := PACK.out
            have PP := Lib.hid (PPW.out.below (below_drewN (Below.refl W.heap.size W) nq))
            have e3 := HC3.out _ _ _ _ _ _ PP.out
            have e1 := PP.out.cn
            clear PACK e0 e2 e2c d2 d5
            by_cases hut : u = t
            · subst hut
              have HPS := Lib.hid (vals_ext HPRE.out.1 HPRE.out.2.1 HPRE.out.2.2.1 HPRE.out.2.2.2)
              have HLEN2 := Lib.hid (show ((pre ++ [x]).length : Int) = (k0 : Int) + 1 from by rw [List.length_append, HPRE.out.2.1]; simp)
              obtain rfl : z = zt := HZ.out.symm.trans HZT.out
              gi_wp2
              refine ⟨trivial, ?_⟩
              rw [← HZ.out]
              refine (CallsIn.inRound L (callsIn_wide.2 (P3.rem PP u HU.out))).mono ?_
              rw [HZ.out]
              rintro e W4 ⟨⟨zu, rfl⟩, PP4, KO4⟩
              have e4 := PP4.out.cn
              have e5 := HC3.out W4 _ _ _ _ _ PP4.out
              clear e1 e3
              gi_wp2
              refine ⟨trivial, ?_⟩
              rw [← HZ.out]
              refine (CallsIn.inRound L (callsIn_wide.2 (P3.front PP4 u HU.out))).mono ?_
              rw [HZ.out]
              rintro e W5 ⟨⟨zv, rfl⟩, PP5, KO5⟩
              have f4 := PP5.out.cn
              have f6 := PP5.out.fn
              clear e4 e5
              have e7 := (PP5.out.setn ((k0 : Int) + 1)).1.cn
              have e8 := (PP5.out.setn ((k0 : Int) + 1)).1.ct
              have e9 : (W5.setCell ⟨tb1 + 1, 0, none⟩ (.int .i64 ((k0 : Int) + 1))).cell? ⟨w.heap.size, 0, none⟩ = some (.int .u8 many) := ((PP5.out.setn ((k0 : Int) + 1)).1.cell (a := ⟨w.heap.size, 0, none⟩) WS2.out.1 NOB.out.1).trans SX2.out.cells.2.2.2.2.2.1
              have HF := Lib.hid (show KeepsOthers W (W5.setCell ⟨tb1 + 1, 0, none⟩ (.int .i64 ((k0 : Int) + 1))) ∧ P3 w W2 (W5.setCell ⟨tb1 + 1, 0, none⟩ (.int .i64 ((k0 : Int) + 1))) c q r tb1 (tb1 + 1) 1 ((k0 : Int) + 1) [D] from ⟨((keeps_drewN W nq).trans (KO4.out.trans KO5.out)).trans (PP5.out.setn _).2, (PP5.out.setn _).1⟩)
              gi_wp2
              exact ⟨HF.out.1, PPW.out.k2 HF.out.2 HF.out.1, HPS.out, by rw [HLEN2.out]; exact HF.out.2⟩
            · have hne : ¬ z = zt := fun h => hut (by have := HZ.out; have := HZT.out; omega)
              have hbn : (z == zt) = false := beq_eq_false_iff_ne.2 hne
              have hbn2 : (z != zt) = true := by simp [bne, hbn]
              have HNO := Lib.hid (show ¬ vals (pre ++ [x]) <+: ints l from fun h => hut (vals_next h HPRE.out.2.1 HPRE.out.2.2.1 HPRE.out.2.2.2))
              have r0 : (W.drewN nq).cell? ⟨w.heap.size + 1, 0, none⟩ = some (.bool false) := (PP.out.cell (a := ⟨w.heap.size + 1, 0, none⟩) WS2.out.2.1 NOB.out.2.1).trans (show W2.cell? ⟨w.heap.size + 1, 0, none⟩ = some (.bool false) by simp [World.cell?, SX2.out.m2.2.1])
              have hrb : (W.drewN nq).heap[w.heap.size + 1]? = some (.cells #[.bool false] 4 (0, 0)) := (PP.out.kp _ WS2.out.2.1 NOB.out.2.1).trans SX2.out.m2.2.1
              have f0 : (W.drewN nq).frozen? ⟨w.heap.size + 1, 0, none⟩ = false := (by have h := hrb; change W.heap[_]? = _ at h; simp [World.frozen?, h])
              clear hrb
              gi_wp2
              exact ⟨(keeps_drewN W nq).trans (KeepsOthers.setCell _ _ _), rfl, HNO.out⟩
          case done =>
            rintro D1 ys W hD hys ⟨_, pp⟩ hK
            have hyl : (ys.length : Int) = (nm : Int) := by
              have h := congrArg List.length hys
              rw [vals_len, ints_len, HI.out.1] at h
              omega
            rw [hyl] at pp
            exact ⟨D1, rfl, (by have := HDL.out D (List.mem_cons_self ..); omega), Lib.hid (pp.mark hK)⟩
          case stop =>
            rintro D c pre W hD hpre ⟨rfl, hno⟩ hK
            exact absurd hpre hno
        case rest =>
          rintro D1 W7 ⟨hDD, PP7⟩
          have t0 := PP7.out.ct
          have t1 := PP7.out.ft
          have t2 := PP7.out.cn
          have t3 : W7.cell? ⟨v2.heap.size, 1, none⟩ = some (.slice (some y0) 2 cp) := (PP7.out.cell (a := ⟨v2.heap.size, 1, none⟩) WS2.out.2.2.2 NOB.out.2.2.2).trans SX2.out.cells.2.2.1
          have t4 : W7.cell? (y0.add 0) = some (.slice ph nm ch) := (PP7.out.cell (a := y0.add 0) (by rw [add_block]; exact HROW.out.1) (by rw [add_block]; exact fun h => (HAV.out _ h).1 rfl)).trans HROW.out.2.1
          clear PP6 HX
          have t5 := t4
          rw [show y0.add 0 = y0 from by simp [Addr.add]] at t5
          gi_wp2
          gi_quiet (fail)
          have PQ := Lib.hid (PP7.out.below (below_drewN (Below.refl W7.heap.size W7) nq))
          obtain ⟨W7, hWq⟩ : ∃ W', W7.drewN nq = W' := ⟨_, rfl⟩
          rw [hWq] at PQ ⊢
          clear PP7 t0 t1 t2 t3 t4 t5 hWq
          have PP7 := PQ
          clear PQ
          have t0 := PP7.out.ct
          have t1 := PP7.out.ft
          have t2 := PP7.out.cn
          have t3 : True := trivial
          have t4 : True := trivial
          gi_wp2
          rw [roundsIn_succ]
          gi_wp2
          have ba := box_below W7 #[.int .i64 2] 3
          have PP8 := Lib.hid (PP7.out.below ba)
          refine ⟨trivial, ?_⟩
          refine (callsIn_wide.2 (HK.out _ PP8.out.bw)).mono ?_
          rintro e W9 ⟨rfl, b9⟩
          have PP9 := Lib.hid (PP8.out.below b9)
          have hrb : W9.heap[w.heap.size + 1]? = some (.cells #[.bool false] 4 (0, 0)) := (PP9.out.kp _ WS2.out.2.1 NOB.out.2.1).trans SX2.out.m2.2.1
          have f9 : W9.frozen? ⟨w.heap.size + 1, 0, none⟩ = false := by simp [World.frozen?, hrb]
          have r9 : W9.cell? ⟨w.heap.size + 1, 0, none⟩ = some (.bool false) := by simp [World.cell?, hrb]
          have HRB := Lib.hid hrb
          clear PP7 PP8 ba b9 t0 t1 t2 t3 t4 hrb
          gi_wp2
          have hX := heap_set (j := 0) HRB.out (.bool true)
          have hne : ∀ D', W9.heap[D']? = some (Obj.deferred (some [])) → w.heap.size + 1 ≠ D' := fun D' h e => by rw [← e, HRB.out] at h; cases h
          have hkd : ∀ D', W9.heap[D']? = some (Obj.deferred (some [])) → (W9.setCell ⟨w.heap.size + 1, 0, none⟩ (.bool true)).heap[D']? = some (Obj.deferred (some [])) := fun D' hD' => (Below.heap_setCell W9 ⟨w.heap.size + 1, 0, none⟩ _ D' (hne D' hD').symm).trans hD'
          have h1 := PP9.out.ds D1 (List.mem_cons_self ..)
          have h2 := PP9.out.ds D (List.mem_cons_of_mem _ (List.mem_cons_self ..))
          have k1 := hkd D1 h1
          have k2 : ((W9.setCell ⟨w.heap.size + 1, 0, none⟩ (.bool true)).putObj D1 (Obj.deferred none)).heap[D]? = some (Obj.deferred (some [])) := (heap_putObj_ne _ _ _ _ (by omega)).trans (hkd D h2)
          have k3 : (((W9.setCell ⟨w.heap.size + 1, 0, none⟩ (.bool true)).putObj D1 (Obj.deferred none)).putObj D (Obj.deferred none)).heap[w.heap.size + 1]? = some (.cells #[.bool true] 4 (0, 0)) := (heap_putObj_ne _ _ _ _ (hne D h2)).trans ((heap_putObj_ne _ _ _ _ (hne D1 h1)).trans hX)
          have d3 : (((W9.setCell ⟨w.heap.size + 1, 0, none⟩ (.bool true)).putObj D1 (Obj.deferred none)).putObj D (Obj.deferred none)).cell? ⟨w.heap.size + 1, 0, none⟩ = some (.bool true) := by simp [World.cell?, k3]
          have hDl : w.heap.size ≤ D ∧ w.heap.size ≤ D1 := ⟨HDD.out, by have := HDD.out; omega⟩
          have b0 := PP9.out.bw.setCell (p := ⟨w.heap.size + 1, 0, none⟩) (by show w.heap.size ≤ w.heap.size + 1; omega) (.bool true)
          have b1 := b0.trans (belowK_b (w := w) (Nat.le_refl _) _ D1 _ (Obj.deferred none) hDl.2 k1 rfl rfl)
          have b2 := b1.trans (belowK_b (w := w) (Nat.le_refl _) _ D _ (Obj.deferred none) hDl.1 k2 rfl rfl)
          refine ⟨by simp, .inl ⟨_, _, rfl, run_takeDeferred k1, ?_⟩⟩
          refine ⟨by simp, .inl ⟨_, _, rfl, run_takeDeferred k2, ?_⟩⟩
          exact ⟨.bool true, by simp [results, Try.results5, go_sem, d3], rfl, b2⟩
    · have hlt : j < m := by omega
      have i1 : (j : Int) < (m : Int) := by omega
      have i0 : (0 : Int) ≤ (j : Int) := by omega
      obtain ⟨a, ha⟩ : ∃ a, l[j]? = some a := ⟨l[j]'(by rw [HM.out]; omega), List.getElem?_eq_getElem _⟩
      obtain ⟨a0, a1⟩ := HWF.out j a ha
      obtain ⟨y, rfl, hyb, e0⟩ := (HLR.out.below SI.out.m2.2.2) j a ha
      obtain ⟨Ls', code, hn', hadd, hback⟩ := pair_any n1 n2 Ls SI.out.len SI.out.lo a0 a1
      have HADD := Lib.hid hadd
      have HBACK := Lib.hid hback
      unfold fv at HADD
      clear hadd hback ha
      have SC := Lib.hid (fun (v : World) (hb : Below wr.heap.size wr v) => (show v.cell? ⟨v2.heap.size, 0, none⟩ = some (.int .i64 (N : Int)) ∧ v.cell? ⟨v2.heap.size, 1, none⟩ = some (.slice p 2 cp) ∧ v.cell? (y.add j) = some (.int .u32 a) ∧ Below wr.heap.size wr v from ⟨(SI.out.below hb).cells.2.1, (SI.out.below hb).cells.2.2.1, (hb.cell (by rw [add_block]; have := SI.out.m2.2.2.size; omega)).trans e0, hb⟩))
      have SK := Lib.hid (fun (v v' : World) (hb : Below v.heap.size v v') (h : v.cell? ⟨v2.heap.size, 0, none⟩ = some (.int .i64 (N : Int)) ∧ v.cell? ⟨v2.heap.size, 1, none⟩ = some (.slice p 2 cp) ∧ v.cell? (y.add j) = some (.int .u32 a) ∧ Below wr.heap.size wr v) => SC.out v' (tr h.2.2.2 hb))
      have SB := Lib.hid (fun (v v' : World) (hb : Below v.heap.size v v') (h : v.cell? ⟨v2.heap.size, 0, none⟩ = some (.int .i64 (N : Int)) ∧ v.cell? ⟨v2.heap.size, 1, none⟩ = some (.slice p 2 cp) ∧ v.cell? (y.add j) = some (.int .u32 a) ∧ Below wr.heap.size wr v) => (show Below wr.heap.size wr v' from tr h.2.2.2 hb))
      have HADD2 := Lib.hid (fun (v : World) (h : v.cell? ⟨v2.heap.size, 0, none⟩ = some (.int .i64 (N : Int)) ∧ v.cell? ⟨v2.heap.size, 1, none⟩ = some (.slice p 2 cp) ∧ v.cell? (y.add j) = some (.int .u32 a) ∧ Below wr.heap.size wr v) => HADD.out v p cp (SI.out.below h.2.2.2).rf)
      go_wp2_with fail
      obtain ⟨g0, g1, g2, _⟩ := SC.out _ (Below.drew (Below.refl wr.heap.size wr))
      have BD := Lib.hid (Below.drew (Below.refl wr.heap.size wr))
      have BA := Lib.hid (Below.drew (box_below wr #[.int .i64 0, .slice none 0 0] 24))
      obtain ⟨h0, h1, h2, _⟩ := SC.out _ BA.out
      have NB := Lib.hid (show (wr.alloc (.cells #[.int .i64 0, .slice none 0 0] 24)).drew.heap[wr.heap.size]? = some (.cells #[.int .i64 0, .slice none 0 0] 24 (0, 0)) from (MapKept.heap_alloc wr _).1)
      have AV0 := Lib.hid ((SI.out.rf.av (Nat.le_refl _)).below SI.out.rf BA.out)
      have HA1 := Lib.hid (show Calls Try.prog 21 #[.agg #[.int .i64 (N : Int), .slice p 2 cp], .int .i64 0, .int .u32 a, .bool false] wr.drew fun e u => ∃ p' cp', e = .returned (.tuple #[.agg #[.int .i64 (N : Int), .slice p' 2 cp'], .int .i64 code]) ∧ Rf2 u p' Ls' ∧ Below wr.heap.size wr u ∧ (∀ x, x < wr.heap.size → Av wr p Ls x → Av u p' Ls' x) from (HADD.out _ p cp (SI.out.below BD.out).rf).mono fun e u h => by
        obtain ⟨⟨p', cp', he, rf', av'⟩, bN⟩ := h
        exact ⟨p', cp', he, rf', tr BD.out bN, fun x h1 h2 => av' x (Nat.lt_of_lt_of_le h1 BD.out.size) (h2.below SI.out.rf BD.out)⟩)
      have HA2 := Lib.hid (show Calls Try.prog 21 #[.agg #[.int .i64 (N : Int), .slice p 2 cp], .int .i64 0, .int .u32 a, .bool false] (wr.alloc (.cells #[.int .i64 0, .slice none 0 0] 24)).drew fun e u => ∃ p' cp', e = .returned (.tuple #[.agg #[.int .i64 (N : Int), .slice p' 2 cp'], .int .i64 code]) ∧ (u.cell? ⟨wr.heap.size, 0, none⟩ = some (.int .i64 0) ∧ u.cell? ⟨wr.heap.size, 1, none⟩ = some (.slice none 0 0) ∧ u.frozen? ⟨wr.heap.size, 0, none⟩ = false ∧ u.frozen? ⟨wr.heap.size, 1, none⟩ = false) ∧ (Rf2 u p' Ls' ∧ Below wr.heap.size wr u ∧ u.heap[wr.heap.size]? = some (.cells #[.int .i64 0, .slice none 0 0] 24 (0, 0)) ∧ Av u p' Ls' wr.heap.size ∧ (∀ x, x < wr.heap.size → Av wr p Ls x → Av u p' Ls' x)) from (HADD.out _ p cp (SI.out.below BA.out).rf).mono fun e u h => by
        obtain ⟨⟨p', cp', he, rf', av'⟩, bN⟩ := h
        have nbx := (bN.block wr.heap.size (Array.getElem?_eq_some_iff.1 NB.out).1).trans NB.out
        exact ⟨p', cp', he, ⟨(two_of nbx).1, (two_of nbx).2, by simp [World.frozen?, nbx], by simp [World.frozen?, nbx]⟩, rf', tr BA.out bN, nbx, av' _ (Array.getElem?_eq_some_iff.1 NB.out).1 AV0.out, fun x h1 h2 => av' x (Nat.lt_of_lt_of_le h1 BA.out.size) (h2.below SI.out.rf BA.out)⟩)
      have HYB := Lib.hid hyb
      clear SC SK SB HADD2 HADD hyb AV0 BD BA NB
      apply region_mid (R := fun b p' cp' v => Nf wr p Ls v N 2 Ls' b p' cp')
      case first =>
        go_region_with (go_at_call 21; first
          | (refine HA1.out.mono ?_; rintro e u ⟨p', cp', rfl, rf1⟩; have RF1 := Lib.hid rf1; clear rf1)
          | (refine HA2.out.mono ?_; rintro e u ⟨p', cp', rfl, ⟨nc0, nc1, nf0, nf1⟩, rf2⟩; have RF2 := Lib.hid rf2; clear rf2))
        all_goals (
          dsimp only [midQ]
          first
          | (obtain ⟨bb, hbb⟩ : ∃ bb, u.heap.size = bb := ⟨_, rfl⟩
             have hN := Nf.after (N := N) (H := 2) (cp := cp') RF1.out.2.1 RF1.out.1 RF1.out.2.2
             rw [hbb] at hN ⊢
             exact ⟨bb, p', cp', rfl, hN⟩)
          | (exact ⟨wr.heap.size, p', cp', rfl, Nf.ahead RF2.out.2.1 RF2.out.1 RF2.out.2.2.1 RF2.out.2.2.2.1 RF2.out.2.2.2.2⟩))
      case rest =>
        intro b p' cp' v nf
        have NF := Lib.hid nf
        have SI1 := Lib.hid (SI.out.below nf.bl)
        have hbv := (Array.getElem?_eq_some_iff.1 nf.bx).1
        have hbf : v2.heap.size < b := Nat.lt_of_lt_of_le (Array.getElem?_eq_some_iff.1 SI.out.fb).1 nf.le
        have hcb : c < b ∧ q < b ∧ r < b := by have := SI.out.dx; have := SI.out.df; omega
        have HBK := Lib.hid ((HBACK.out _ c q r _ _ F (SI1.out.lo.below (Below.drew (Below.refl v.heap.size v)))).mono (fun e u h => (⟨h.1, by
          obtain ⟨_, ⟨F', lo'⟩, kp⟩ := h
          have kpv : Kp (Ob c q r) v u := (Kp.of (Below.drew (Below.refl v.heap.size v))).trans kp
          have si2 := SI1.out.kp kpv lo' hn'
          have bx2 : u.heap[b]? = some (.cells #[.int .i64 (N : Int), .slice p' 2 cp'] 24 (0, 0)) := (kpv.block b hbv (by intro hb; rcases hb with rfl | rfl | rfl <;> omega)).trans NF.out.bx
          have hav : ∀ x, x = v2.heap.size ∨ Ob c q r x → Av v p' Ls' x := fun x hx => NF.out.av x (by
            have := (Array.getElem?_eq_some_iff.1 SI.out.fb).1
            have := SI.out.lo.lt
            rcases hx with rfl | rfl | rfl | rfl <;> omega) (SI.out.av x hx)
          have rf2 := NF.out.rf.kp (fun x hx => hav x (.inr hx)) kpv
          exact ⟨(two_of bx2).1, (two_of bx2).2, si2.cells.2.1, si2.cells.2.2.1, si2.cells.2.2.2.1, si2.cells.2.2.2.2.1, F', si2.store (cp' := cp') rf2 hn' fun x hx => (hav x hx).kp NF.out.rf (fun x hx => hav x (.inr hx)) kpv⟩⟩ : e = .returned (.int .i64 code) ∧ u.cell? ⟨b, 0, none⟩ = some (.int .i64 (N : Int)) ∧ u.cell? ⟨b, 1, none⟩ = some (.slice p' 2 cp') ∧ u.cell? ⟨v2.heap.size, 0, none⟩ = some (.int .i64 (N : Int)) ∧ u.cell? ⟨v2.heap.size, 1, none⟩ = some (.slice p 2 cp) ∧ u.frozen? ⟨v2.heap.size, 0, none⟩ = false ∧ u.frozen? ⟨v2.heap.size, 1, none⟩ = false ∧ ∃ F', Si w ((u.setCell ⟨v2.heap.size, 0, none⟩ (.int .i64 (N : Int))).setCell ⟨v2.heap.size, 1, none⟩ (.slice p' 2 cp')) many v1.heap.size v2.heap.size c q r N F' Ls' Ls' p' cp')))
        have y0 := (SI1.out.below (Below.drew (Below.refl v.heap.size v))).cells.1
        have y1 := ((Below.drew (Below.refl v.heap.size v)).cell (p := y.add j) (by rw [add_block]; exact Nat.lt_of_lt_of_le HYB.out NF.out.bl.size)).trans ((NF.out.bl.cell (p := y.add j) (by rw [add_block]; exact HYB.out)).trans e0)
        have wi := IntWalk.i64_in ((j : Int) + 1) (by omega)
        clear x0 x1 x2 x3 x4 x5 x6 x7 nf g0 g1 g2 h0 h1 h2 hbv hbf hcb e0
        simp only [Act.put, List.setIfInBounds_toArray, List.set_cons_zero, List.set_cons_succ, List.getElem_toArray, List.getElem_cons_succ, List.getElem_cons_zero]
        go_wp2_with fail
        apply region_one (R := fun u => u.cell? ⟨b, 0, none⟩ = some (.int .i64 (N : Int)) ∧ u.cell? ⟨b, 1, none⟩ = some (.slice p' 2 cp') ∧ u.cell? ⟨v2.heap.size, 0, none⟩ = some (.int .i64 (N : Int)) ∧ u.cell? ⟨v2.heap.size, 1, none⟩ = some (.slice p 2 cp) ∧ u.frozen? ⟨v2.heap.size, 0, none⟩ = false ∧ u.frozen? ⟨v2.heap.size, 1, none⟩ = false ∧ ∃ F', Si w ((u.setCell ⟨v2.heap.size, 0, none⟩ (.int .i64 (N : Int))).setCell ⟨v2.heap.size, 1, none⟩ (.slice p' 2 cp')) many v1.heap.size v2.heap.size c q r N F' Ls' Ls' p' cp')
        case first =>
          go_region_with (go_at_call 22; refine HBK.out.mono ?_; rintro e u ⟨rfl, hu⟩; have HU := Lib.hid hu; clear hu)
          all_goals exact ⟨rfl, HU.out⟩
        case rest =>
          rintro u ⟨z0, z1, z4, z5, z2, z3, F', si3⟩
          have SI3 := Lib.hid si3
          clear si3 y0 y1
          simp only [Act.put, List.setIfInBounds_toArray, List.set_cons_zero, List.set_cons_succ, List.getElem_toArray, List.getElem_cons_succ, List.getElem_cons_zero]
          go_wp2_with fail
          go_roundw
          case rel => exact ⟨j + 1, F', Ls', p', cp', by omega, by go_num, SI3.out⟩
          case measure => simp [intOf]; omega
end Go.Proofs.Ytjcabdnjimcdgaa.Lnk
