/-
  Maps: 'a, m[k] = x, y' with a key that is not there: the entry is made, then its value is stored.
-/
import Derived.Test.YtggimkfepcgaoaaGhoD
set_option linter.unusedVariables false
set_option linter.unusedSimpArgs false
section
namespace Go.Proofs.Ytggimkfepcgaoaa.Gho
open Go Go.RowKit Kit Go.Maps Lnk
open Go.ChangeMaps (setBlock)
theorem entry_new {H : Type} {P : Program} {k t e : TypeId} {R : Value → Option (DataW H × List MemPlace)} {w : World} {b n : Nat} {D : DataW H} (h : w.ownsMap P k R b n D) (K : Keyed P k) (ht : P.underlying t = some (.map k e)) (hn : n < maxLen) {key val z : Value} {kl : Lit} {d : DataW H} {ps : List MemPlace}
    (hz : ∀ w, (zeroValue e).run P w = .ok z w) (hkey : keyOf P k key = some kl) (hv : R val = some (d, ps)) (hno : has D kl = false) (hlk : ∃ v, (Instr.lookup t (.map (some b)) key true).run P w = .ok (.tuple #[v, .bool false]) w) :
    ∃ (clk : Nat) (ob : Obj) (w2 : World), (Instr.mapEntry t (.map (some b)) key).run P w = .ok (.tuple #[z, .int .i64 (clk : Int)]) (setBlock w b ob) ∧ (Instr.entryStore t (.map (some b)) (.int .i64 (clk : Int)) val).run P (setBlock w b ob) = .ok () w2 ∧ w2.ownsMap P k R b (n + 1) (D.put kl d) ∧ w.mapTurned w2 b := by
  obtain ⟨w', hrun, ho, hmt⟩ := h.store K ht hn hkey hv
  obtain ⟨es, clock, hb, F, hs, rfl⟩ := h
  obtain ⟨v0, hl⟩ := hlk
  rcases K.find w hkey es.toList F.keys with ⟨h1, h2⟩ | ⟨j, e0, h1, h2, h3⟩
  · refine ⟨clock, .map (es.push ⟨key, z, clock⟩) (clock + 1), w', ?_, ?_, ho, hmt⟩
    · simp [Instr.mapEntry, run_underlying ht, MapKept.run_getObj_map hb, K.check w false hkey, h1, hz, MapKept.run_setObj_map _ hb, Result.andThen, setBlock, goInt]
    · have hrun' := hrun
      simp [Instr.mapUpdate, run_underlying ht, MapKept.run_getObj_map hb, K.check w false hkey, h1, MapKept.run_setObj_map _ hb, Result.andThen] at hrun'
      have hb1 : (setBlock w b (.map (es.push ⟨key, z, clock⟩) (clock + 1))).heap[b]? = some (.map (es.push ⟨key, z, clock⟩) (clock + 1)) := by
        have hlt := (Array.getElem?_eq_some_iff.1 hb).1
        show (w.heap.setIfInBounds b _)[b]? = _
        rw [Array.getElem?_setIfInBounds_self_of_lt hlt]
      have hidx : (es.push ⟨key, z, clock⟩).findIdx? (fun e => (e.born : Int) == (clock : Int)) = some es.size := by
        rw [Array.findIdx?_push, Array.findIdx?_eq_none_iff.2 (fun x hx => by
          have := F.stamped.1 x (by simpa using hx)
          simp
          omega)]
        simp
      have hmod : (es.push ⟨key, z, clock⟩).modify es.size (fun e => { e with val := val }) = es.push ⟨key, val, clock⟩ := by
        apply Array.ext
        · simp
        · intro i h1 h2
          simp only [Array.size_modify, Array.size_push] at h1
          rw [Array.getElem_modify]
          by_cases hi : es.size = i
          · subst hi
            simp
          · rw [if_neg hi, Array.getElem_push_lt (by omega), Array.getElem_push_lt (by omega)]
      simp [Instr.entryStore, MapKept.run_getObj_map hb1, asInt, asIntOf, hidx, MapKept.run_setObj_map _ hb1, Result.andThen, hmod]
      rw [← hrun']
      simp [setBlock]
  · simp [Instr.lookup, run_underlying ht, MapKept.run_getObj_map hb, K.check w es.isEmpty hkey, h1, Result.andThen] at hl
end Go.Proofs.Ytggimkfepcgaoaa.Gho
end
section
namespace Go.Proofs.Ytggimkfepcgaoaa.Gho
open Go Go.RowKit Kit Go.Maps Lnk
/-- at the normal end only, and there R -/
def midQ (R : Act → World → Prop) : Exit → Act → World → Prop
  | .normal, a, w => R a w
  | _, _, _ => False
/-- a region whose ways all end in one act -/
theorem region_one {P : Program} {c : Code} {Q : Exit → Act → World → Prop} {a : Act} {w : World} (A : Act) (R : World → Prop)
    (first : Code.wp P c (midQ fun a w => a = A ∧ R w) a w) (rest : ∀ w, R w → Q .normal A w) : Code.wp P c Q a w :=
  Code.wp_mono (fun e a' w' h => by
    cases e
    case normal => obtain ⟨rfl, h⟩ := h; exact rest _ h
    all_goals exact h.elim) first
set_option maxRecDepth 100000 in
theorem ggrow_any {w : World} {b c q r cq cr N : Nat} {F : Lnk.Fd} {g kc m nm : Nat} {D : DataW Unit} {most : Int} {L fr KL : List Nat} (H : Gh w b c q r cq cr N F g kc m nm D most L fr KL) (hN : N ≤ 1000000) {B : Nat} (hNB : N ≤ B) (hB : 2 * L.length ≤ B) :
    Calls Try.prog 146 #[.pointer (some ⟨b, 0, none⟩)] w fun e w' => e = .returned (.int .i64 0) ∧ GrQ w w' b c q r g m nm B D most L (kys KL L) := by
  cases fr with
  | nil => exact ggrow_new H hN hB
  | cons x fr =>
    have HLN := Lib.hid (Len_ok H.lo (k := 1) rfl)
    have HH := Lib.hid H
    obtain ⟨c0, c1, c2, c3, cf⟩ := H.cells
    have hpos : (0 : Int) < (((x :: fr).length : Nat) : Int) := by simp <;> omega
    generalize (x :: fr).length = n at HLN hpos
    clear H
    go_enter Try.func146, Try.ntmps146
    go_wp2_with fail
    refine HLN.out.mono ?_
    rintro e w1 ⟨rfl, rfl⟩
    go_wp2_with fail
    go_ret
    exact ⟨rfl, q, r, cq, cr, N, F, g, kc, x, fr, KL, HH.out, rfl, .inl rfl, .inl rfl, .inl rfl, hNB, Kp.refl _ _⟩
set_option maxRecDepth 100000 in
set_option maxHeartbeats 4000000 in
theorem gput_any {w : World} {b c q r cq cr N : Nat} {F : Lnk.Fd} {g kc m nm : Nat} {D : DataW Unit} {most : Int} {L fr KL : List Nat} (H : Gh w b c q r cq cr N F g kc m nm D most L fr KL) (hN : N ≤ 1000000) {B : Nat} (hNB : N ≤ B) (hB : 2 * L.length ≤ B) (hnm : nm ≤ 1000000) (k : Nat) (hk : k < 4294967296) (hnk : k ∉ kys KL L) :
    Calls Try.prog 117 #[.pointer (some ⟨b, 0, none⟩), .int .u32 (k : Int)] w fun e w' => e = .returned (.int .i64 0) ∧ GhR w w' b c q r g m (nm + 1) B most (k :: kys KL L) := by
  have HG := Lib.hid (ggrow_any H hN hNB hB)
  have HK := Lib.hid (show k < 4294967296 ∧ k ∉ kys KL L from ⟨hk, hnk⟩)
  obtain ⟨z, hz⟩ : ∃ z : Int, (k : Int) = z := ⟨_, rfl⟩
  have HZ := Lib.hid hz
  rw [hz]
  clear H hk hnk hz
  go_enter Try.func117, Try.ntmps117
  go_wp2_with fail
  refine HG.out.mono ?_
  rintro e w1 ⟨rfl, q', r', cq', cr', N', F', g', kc', x, fr', KL', h1, hkys, hq, hr, hg, hn1, kp⟩
  have H1 := Lib.hid h1
  have HX := Lib.hid (show kys KL' L = kys KL L ∧ (q' = q ∨ w.heap.size ≤ q') ∧ (r' = r ∨ w.heap.size ≤ r') ∧ (g' = g ∨ w.heap.size ≤ g') ∧ N' ≤ B ∧ Kp (Obg b c q r g m) w w1 from ⟨hkys, hq, hr, hg, hn1, kp⟩)
  obtain ⟨c0, c1, c2, c3, cf⟩ := h1.cells
  have hxN : x < N' := (h1.lo.ring.mem 1 (x :: fr') x rfl (List.mem_cons_self ..)).1
  have hFI := First_ok h1.lo (k := 1) (l := x :: fr') rfl
  rw [show fst (x :: fr') (N' + 1) = x from rfl, if_pos hxN] at hFI
  have HFI := Lib.hid (show Calls Try.prog 66 #[.pointer (some ⟨c, 0, none⟩), .int .i64 1] w1 fun e w' => e = .returned (.tuple #[.int .u32 (x : Int), .int .i64 0]) ∧ Below w1.heap.size w1 w' from hFI)
  have HXN := Lib.hid hxN
  clear h1 hkys hq hr hg kp hFI hxN
  go_wp2_with fail
  refine HFI.out.mono ?_
  rintro e w2 ⟨rfl, b2⟩
  have H2 := Lib.hid (H1.out.below b2)
  have B2 := Lib.hid b2
  clear c0 c1 c2 c3 cf b2
  obtain ⟨c0, c1, c2, c3, cf⟩ := H2.out.cells
  have x0 : (0 : Int) ≤ (x : Int) := by omega
  have x1 : (x : Int) < (N' : Int) := by have := HXN.out; omega
  have fz := H2.out.ks.frozenAt x
  obtain ⟨w3, hw3⟩ : ∃ w3, (w2.setCell ⟨g', x, none⟩ (.int .u32 z)).drew = w3 := ⟨_, rfl⟩
  have hbl : ∀ k, k ≠ g' → w3.heap[k]? = w2.heap[k]? := fun k hk => by rw [← hw3]; exact Below.heap_setCell w2 ⟨g', x, none⟩ _ k hk
  have hmp3 := map_of H2.out.mp (hbl m H2.out.dg.2.2.2.symm)
  have K := Maps.int_keyed (P := Try.prog) und_u32
  have hkey := Maps.keyOf_int_mk (P := Try.prog) und_u32 (wf32 HK.out.1)
  have hval : plainElem (H := Unit) Try.prog 38 (.int .u32 (x : Int)) = some (.lit (.int .u32 (x : Int)), []) := plainElem_int und_u32 (wf32 (by have := HXN.out; have := H2.out.lo.n2; omega))
  have hnk : ∀ n, (k, n) ∉ ent KL' L := kys_ent (by rw [HX.out.1]; exact HK.out.2)
  obtain ⟨clk, obj, w5, hE, hS, ho, hmt⟩ := entry_new hmp3 K und_map (by unfold maxLen; omega) (z := .int .u32 0) (fun w => by kernel_rfl) hkey hval (H2.out.mf.no k hnk) (by obtain ⟨v, hv⟩ := look_no hmp3 H2.out.mf HK.out.1 hnk; exact ⟨_, hv⟩)
  rw [HZ.out] at hE
  have HW := Lib.hid (show (w2.setCell ⟨g', x, none⟩ (.int .u32 z)).drew = w3 ∧ w5.ownsMap Try.prog 38 (plainElem Try.prog 38) m (nm + 1) (D.put (.int .u32 (k : Int)) (.lit (.int .u32 (x : Int)))) ∧ w3.mapTurned w5 m ∧ Tidy D from ⟨hw3, ho, hmt, hmp3.tidy K⟩)
  rw [← hw3] at hE hS
  have fc : ∃ v, w2.cell? ⟨g', x, none⟩ = some (.int .u32 v) := by
    have h := H2.out.ks.cellAt x (by have := HXN.out; omega)
    have hl : x < KL'.length := by rw [H2.out.kl]; exact HXN.out
    refine ⟨(KL'[x] : Int), h.trans ?_⟩
    unfold ints
    simp [hl]
  obtain ⟨fv, fc⟩ := fc
  have hnb : b ≠ g' := H2.out.db.2.2.2.1
  have hc : ∀ j, (w2.setCell ⟨g', x, none⟩ (.int .u32 z)).cell? ⟨b, j, none⟩ = w2.cell? ⟨b, j, none⟩ := fun j => by unfold World.cell?; rw [Below.heap_setCell w2 ⟨g', x, none⟩ _ b hnb]
  have c2' := (hc 2).trans c2
  have c3' := (hc 3).trans c3
  clear hc
  clear hw3 hbl hmp3 K hkey hval hnk ho hmt
  go_wp2_with fail
  apply region_one (R := fun u => u = w5)
  case first =>
    go_region_with fail
    all_goals (dsimp only [midQ]; exact ⟨rfl, rfl⟩)
  case rest =>
    rintro u rfl
    have hW := HW.out
    have h2 := H2.out
    have hl2 := h2.lt
    obtain ⟨e1, e2, e3, e4, e5⟩ := hW.2.2.1.grown
    have hs3 : w3.heap.size = w2.heap.size := by rw [← hW.1]; simp
    have bl3 : ∀ k, k ≠ g' → w3.heap[k]? = w2.heap[k]? := fun k hk => by rw [← hW.1]; exact Below.heap_setCell w2 ⟨g', x, none⟩ _ k hk
    have bl5 : ∀ k, k < w2.heap.size → k ≠ g' → k ≠ m → u.heap[k]? = w2.heap[k]? := fun k hk h3 h4 => (e5 k (by omega) (by simpa using h4)).trans (bl3 k h3)
    have g5 : u.heap[g']? = (w2.setCell ⟨g', x, none⟩ (.int .u32 z)).heap[g']? := (e5 g' (by omega) (by simpa using h2.dg.2.2.2)).trans (by rw [← hW.1]; rfl)
    have kp5 : Kp (fun k => k = g' ∨ k = m) w2 u := ⟨by rw [← hW.1] at e1; first | exact e1 | exact e1.symm, by rw [← hW.1] at e2; first | exact e2 | exact e2.symm, by rw [← hW.1] at e3; first | exact e3 | exact e3.symm, by omega, fun k hk hn => bl5 k hk (fun e => hn (.inl e)) (fun e => hn (.inr e))⟩
    have LO5 : Lo u c q' r' cq' cr' N' F' [L, x :: fr'] := h2.lo.of fun k hk => by
      rcases hk with rfl | rfl | rfl
      · exact bl5 _ hl2.2.1 (fun e => h2.dg.1 e.symm) (fun e => h2.dm.1 e.symm)
      · exact bl5 _ hl2.2.2.1 (fun e => h2.dg.2.1 e.symm) (fun e => h2.dm.2.1 e.symm)
      · exact bl5 _ hl2.2.2.2.1 (fun e => h2.dg.2.2.1 e.symm) (fun e => h2.dm.2.2 e.symm)
    have OB5 := (bl5 b hl2.1 h2.db.2.2.2.1 h2.db.2.2.2.2).trans h2.ob
    have OW5 := own_of (h2.ks.stored x (.int .u32 z)).1 g5
    have hxL : x ∉ L := fun hm => by have := h2.lo.ring.uni (h := 0) (k := 1) rfl rfl hm (List.mem_cons_self ..); cases this
    have HMV := Lib.hid (gmove_raw LO5 OB5 ⟨h2.db.1, h2.db.2.1, h2.db.2.2.1⟩ (h := 1) (j := 0) (x := x) (l1 := []) (l2 := fr') (l := L) rfl rfl)
    have HD := Lib.hid (show u.heap[b]? = some (.cells #[.int .i64 most, .pointer (some ⟨c, 0, none⟩), .slice (some ⟨g', 0, none⟩) N' kc', .map (some m)] 155 (0, 0)) ∧ u.ownsRow 0 38 1 (.slice (some ⟨g', 0, none⟩) N' kc') N' (((ints KL').map (Value.int .u32)).set x (.int .u32 z)) ∧ x ∉ L ∧ Kp (fun k => k = g' ∨ k = m) w2 u from ⟨OB5, OW5, hxL, kp5⟩)
    have HT := Lib.hid (show Mf (D.put (.int .u32 (k : Int)) (.lit (.int .u32 (x : Int)))) ((k, x) :: ent KL' L) from h2.mf.put hW.2.2.2 (kys_ent (by rw [HX.out.1]; exact HK.out.2)))
    have HO := Lib.hid hW.2.1
    clear hW h2 hl2 e1 e2 e3 e4 e5 hs3 bl3 bl5 g5 kp5 LO5 OB5 OW5 hxL c0 c1 c2 c3 c2' c3' cf fz fc hE hS hnb HW
    go_wp2_with fail
    refine HMV.out.mono ?_
    rintro e w6 ⟨rfl, ⟨F6, lo6⟩, kp6⟩
    have LO6 := Lib.hid lo6
    have KP6 := Lib.hid kp6
    clear lo6 kp6
    go_wp2_with fail
    go_ret
    refine ⟨rfl, ?_⟩
    have h2 := H2.out
    have hl2 := h2.lt
    have hD := HD.out
    have hx := HX.out
    have hxN := HXN.out
    have hbO : ¬ Ob c q' r' b := fun h => by rcases h with h | h | h; exact h2.db.1 h; exact h2.db.2.1 h; exact h2.db.2.2.1 h
    have hgO : ¬ Ob c q' r' g' := fun h => by rcases h with h | h | h; exact h2.dg.1 h; exact h2.dg.2.1 h; exact h2.dg.2.2.1 h
    have hmO : ¬ Ob c q' r' m := fun h => by rcases h with h | h | h; exact h2.dm.1 h; exact h2.dm.2.1 h; exact h2.dm.2.2 h
    have hus := hD.2.2.2.size
    have hkx : ∀ n ∈ L, ky (KL'.set x k) n = ky KL' n := fun n hn => by
      have hne : x ≠ n := fun e => hD.2.2.1 (e ▸ hn)
      unfold ky
      rw [List.getElem?_set_ne hne]
    have hkk : ky (KL'.set x k) x = k := by
      unfold ky
      rw [List.getElem?_set_self (by rw [h2.kl]; exact hxN)]
      rfl
    have hkys : kys (KL'.set x k) (x :: L) = k :: kys KL L := by
      rw [← hx.1]
      unfold kys
      rw [List.map_cons, hkk, List.map_congr_left hkx]
    have hent : ent (KL'.set x k) (x :: L) = (k, x) :: ent KL' L := by
      unfold ent
      rw [List.map_cons, hkk, List.map_congr_left (g := fun n => (ky KL' n, n)) fun n hn => by rw [hkx n hn]]
    refine ⟨q', r', cq', cr', N', F6, g', kc', D.put (.int .u32 (k : Int)) (.lit (.int .u32 (x : Int))), x :: L, fr', KL'.set x k,
      ⟨(KP6.out.block b (by omega) hbO).trans hD.1, LO6.out, ?_, by rw [List.length_set]; exact h2.kl, fun y hy => ?_, map_of HO.out (KP6.out.block m (by omega) hmO), by rw [hent]; exact HT.out, fun n hn => ?_, h2.db, h2.dg, h2.dm⟩, hkys, hx.2.1, hx.2.2.1, hx.2.2.2.1, hx.2.2.2.2.1, ?_⟩
    · have e1 : (ints (KL'.set x k)).map (Value.int .u32) = ((ints KL').map (Value.int .u32)).set x (.int .u32 z) := by
        rw [← HZ.out]
        unfold ints
        simp [List.map_set]
      rw [e1]
      exact own_of hD.2.1 (KP6.out.block g' (by omega) hgO)
    · rcases List.mem_or_eq_of_mem_set hy with h | rfl
      · exact h2.kw y h
      · exact HK.out.1
    · rcases h2.pt n hn with h | h
      · exact .inl (List.mem_cons_of_mem _ h)
      · rcases List.mem_cons.1 h with rfl | h
        · exact .inl (List.mem_cons_self ..)
        · exact .inr h
    · have k1 := hx.2.2.2.2.2.tr B2.out
      have hs := k1.size
      refine kp_trans2' (kp_trans2' k1 hD.2.2.2 fun y hy h => ?_) KP6.out fun y hy h => ?_
      · rcases h with rfl | rfl
        · rcases hx.2.2.2.1 with h | h
          · subst h; exact .inr (.inr (.inl rfl))
          · omega
        · exact .inr (.inr (.inr rfl))
      · rcases h with rfl | rfl | rfl
        · exact .inr (.inl (.inl rfl))
        · rcases hx.2.1 with h | h
          · subst h; exact .inr (.inl (.inr (.inl rfl)))
          · omega
        · rcases hx.2.2.1 with h | h
          · subst h; exact .inr (.inl (.inr (.inr rfl)))
          · omega
end Go.Proofs.Ytggimkfepcgaoaa.Gho
end
section
namespace Go.Proofs.Ytggimkfepcgaoaa.Gho
open Go Go.RowKit Kit Go.Maps Lnk
theorem GhR.trans {w v u : World} {b c q r g m q' r' g' nm B : Nat} {most : Int} {keys : List Nat} (hq : q' = q ∨ w.heap.size ≤ q') (hr : r' = r ∨ w.heap.size ≤ r') (hg : g' = g ∨ w.heap.size ≤ g') (hk : Kp (Obg b c q r g m) w v) (h : GhR v u b c q' r' g' m nm B most keys) : GhR w u b c q r g m nm B most keys := by
  obtain ⟨q2, r2, cq, cr, N, F, g2, kc, D, L, fr, KL, h1, h2, h3, h4, h5, h7, h6⟩ := h
  have hs := hk.size
  refine ⟨q2, r2, cq, cr, N, F, g2, kc, D, L, fr, KL, h1, h2, by omega, by omega, by omega, h7, kp_trans2' hk h6 fun y hy h => ?_⟩
  rcases h with rfl | (rfl | rfl | rfl) | rfl | rfl
  · exact .inl rfl
  · exact .inr (.inl (.inl rfl))
  · rcases hq with h | h
    · subst h; exact .inr (.inl (.inr (.inl rfl)))
    · omega
  · rcases hr with h | h
    · subst h; exact .inr (.inl (.inr (.inr rfl)))
    · omega
  · rcases hg with h | h
    · subst h; exact .inr (.inr (.inl rfl))
    · omega
  · exact .inr (.inr (.inr rfl))
set_option maxRecDepth 100000 in
set_option maxHeartbeats 4000000 in
theorem gremove_in {w : World} {b c q r cq cr N : Nat} {F : Lnk.Fd} {g kc m nm : Nat} {D : DataW Unit} {most : Int} {L1 L2 fr KL : List Nat} {n : Nat} (H : Gh w b c q r cq cr N F g kc m nm D most (L1 ++ n :: L2) fr KL) (k : Nat) (hk : k < 4294967296) (hn : ky KL n = k) {B : Nat} (hB : N ≤ B) :
    Calls Try.prog 44 #[.pointer (some ⟨b, 0, none⟩), .int .u32 (k : Int)] w fun e w' => e = .returned (.tuple #[.bool true, .int .i64 0]) ∧ GhR w w' b c q r g m nm B most (kys KL (L1 ++ L2)) := by
  have HZ0 := Lib.hid (gzero_any H)
  have hnN : n < N := H.nodeLt (by simp)
  have hlk := look_in H.mp H.mf hk (ent_mem.2 ⟨by simp, hn⟩)
  obtain ⟨c0, c1, c2, c3, cf⟩ := H.cells
  have K := Maps.int_keyed (P := Try.prog) und_u32
  have hkey := Maps.keyOf_int_mk (P := Try.prog) und_u32 (wf32 hk)
  have HH := Lib.hid H
  have HK := Lib.hid (show k < 4294967296 ∧ ky KL n = k from ⟨hk, hn⟩)
  obtain ⟨z, hz⟩ : ∃ z : Int, (k : Int) = z := ⟨_, rfl⟩
  have HZ := Lib.hid hz
  rw [hz] at hlk hkey ⊢
  have HKE := Lib.hid hkey
  clear H hk hn hz hnN hkey
  go_enter Try.func44, Try.ntmps44
  go_wp2_with fail
  refine HZ0.out.mono ?_
  rintro e w1 ⟨rfl, rfl⟩
  go_wp2_with (at_delete; refine wpList_delete_own _ rfl _ _ 153 38 rfl 38 K und_map (plainElem Try.prog 38) m nm D rfl HH.out.mp _ (.int .u32 z) rfl HKE.out ?_; intro w5 ho5 ht5; have HO5 := Lib.hid ho5; have HT5 := Lib.hid ht5; clear ho5 ht5)
  have hc := HO5.out
  have hH := HH.out
  have hl := hH.lt
  obtain ⟨e1, e2, e3, e4, e5⟩ := HT5.out.grown
  have bl5 : ∀ k, k < w.heap.size → k ≠ m → w5.heap[k]? = w.heap[k]? := fun k hk h4 => e5 k hk (by simpa using h4)
  have kp5 : Kp (fun k => k = m) w w5 := ⟨by first | exact e1 | exact e1.symm, by first | exact e2 | exact e2.symm, by first | exact e3 | exact e3.symm, by omega, fun k hk hn => bl5 k hk hn⟩
  have LO5 : Lo w5 c q r cq cr N F [L1 ++ n :: L2, fr] := hH.lo.of fun k hk => by
    rcases hk with rfl | rfl | rfl
    · exact bl5 _ hl.2.1 (fun e => hH.dm.1 e.symm)
    · exact bl5 _ hl.2.2.1 (fun e => hH.dm.2.1 e.symm)
    · exact bl5 _ hl.2.2.2.1 (fun e => hH.dm.2.2 e.symm)
  have OB5 := (bl5 b hl.1 hH.db.2.2.2.2).trans hH.ob
  have OW5 := own_of hH.ks (bl5 g hl.2.2.2.2.1 hH.dg.2.2.2)
  have HMV := Lib.hid (gmove_raw LO5 OB5 ⟨hH.db.1, hH.db.2.1, hH.db.2.2.1⟩ (h := 0) (j := 1) (x := n) (l1 := L1) (l2 := L2) (l := fr) rfl rfl)
  have HD := Lib.hid (show w5.heap[b]? = some (.cells #[.int .i64 most, .pointer (some ⟨c, 0, none⟩), .slice (some ⟨g, 0, none⟩) N kc, .map (some m)] 155 (0, 0)) ∧ w5.ownsRow 0 38 1 (.slice (some ⟨g, 0, none⟩) N kc) N ((ints KL).map (Value.int .u32)) ∧ Kp (fun k => k = m) w w5 from ⟨OB5, OW5, kp5⟩)
  clear hc hH hl e1 e2 e3 e4 e5 bl5 kp5 LO5 OB5 OW5 c0 c1 c2 c3 cf K
  refine HMV.out.mono ?_
  rintro e w6 ⟨rfl, ⟨F6, lo6⟩, kp6⟩
  have LO6 := Lib.hid lo6
  have KP6 := Lib.hid kp6
  clear lo6 kp6
  go_wp2_with fail
  go_ret2
  refine ⟨rfl, ?_⟩
  have h2 := HH.out
  have hD := HD.out
  have hbO : ¬ Ob c q r b := fun h => by rcases h with h | h | h; exact h2.db.1 h; exact h2.db.2.1 h; exact h2.db.2.2.1 h
  have hgO : ¬ Ob c q r g := fun h => by rcases h with h | h | h; exact h2.dg.1 h; exact h2.dg.2.1 h; exact h2.dg.2.2.1 h
  have hmO : ¬ Ob c q r m := fun h => by rcases h with h | h | h; exact h2.dm.1 h; exact h2.dm.2.1 h; exact h2.dm.2.2 h
  have hl := h2.lt
  have hus := hD.2.2.size
  have hper : (ent KL (L1 ++ n :: L2)).Perm ((k, n) :: ent KL (L1 ++ L2)) := by
    have e1 : ent KL (L1 ++ n :: L2) = ent KL L1 ++ (k, n) :: ent KL L2 := by
      unfold ent
      rw [List.map_append, List.map_cons, HK.out.2]
    have e2 : ent KL (L1 ++ L2) = ent KL L1 ++ ent KL L2 := by unfold ent; rw [List.map_append]
    rw [e1, e2]
    exact List.perm_middle
  have hmf := h2.mf.del (h2.mp.tidy (Maps.int_keyed (P := Try.prog) und_u32)) hper
  have hmp := HO5.out
  rw [← HZ.out] at hmp
  refine ⟨q, r, cq, cr, N, F6, g, kc, D.del (.int .u32 (k : Int)), L1 ++ L2, n :: fr, KL, ⟨(KP6.out.block b (by omega) hbO).trans hD.1, LO6.out, own_of hD.2.1 (KP6.out.block g (by omega) hgO), h2.kl, h2.kw, map_of hmp (KP6.out.block m (by omega) hmO), hmf, fun y hy => ?_, h2.db, h2.dg, h2.dm⟩, rfl, .inl rfl, .inl rfl, .inl rfl, hB, ?_⟩
  · rcases h2.pt y hy with h | h
    · rcases List.mem_append.1 h with h | h
      · exact .inl (List.mem_append_left _ h)
      · rcases List.mem_cons.1 h with rfl | h
        · exact .inr (List.mem_cons_self ..)
        · exact .inl (List.mem_append_right _ h)
    · exact .inr (List.mem_cons_of_mem _ h)
  · refine kp_trans2' (kp_trans2' (Kp.refl _ w) hD.2.2 fun y hy h => ?_) KP6.out fun y hy h => .inr (.inl h)
    exact .inr (.inr (.inr h))
end Go.Proofs.Ytggimkfepcgaoaa.Gho
end
