/-
  Texts in one: ReuR, ReuH.
-/
import Derived.Test.YtbbcmheedhdlfaaRea
import Derived.Test.YtbbcmheedhdlfaaReb
import Derived.Test.YtbbcmheedhdlfaaLnkDb
set_option linter.unusedVariables false
set_option linter.unusedSimpArgs false
namespace Go.Proofs.Ytbbcmheedhdlfaa.Reu
open Go Go.RowKit Kit Lnk
/-- the row, its first i and last i places exchanged -/
def rv (n : Nat) (a : Nat → Value) (i : Nat) : List Value := (List.range n).map fun k => if k < i ∨ n - k ≤ i then a (n - 1 - k) else a k
theorem rv_zero (n : Nat) (a : Nat → Value) : rv n a 0 = (List.range n).map a := by
  unfold rv
  refine List.map_congr_left fun k hk => ?_
  have := List.mem_range.1 hk
  rw [if_neg (by omega)]
theorem rv_end {n i : Nat} (a : Nat → Value) (h : n ≤ 2 * i + 1) : rv n a i = (List.range n).map fun k => a (n - 1 - k) := by
  unfold rv
  refine List.map_congr_left fun k hk => ?_
  have := List.mem_range.1 hk
  by_cases h : k < i ∨ n - k ≤ i
  · rw [if_pos h]
  · rw [if_neg h, show n - 1 - k = k by omega]
theorem rv_next {n i : Nat} (a : Nat → Value) (h : 2 * i + 1 < n) : ((rv n a i).set i (a (n - 1 - i))).set (n - 1 - i) (a i) = rv n a (i + 1) := by
  unfold rv
  apply List.ext_getElem
  · simp
  · intro k h1 h2
    have hk : k < n := by simpa using h2
    simp only [List.getElem_set, List.getElem_map, List.getElem_range]
    by_cases e1 : n - 1 - i = k
    · rw [if_pos e1, if_pos (by omega)]
      congr 1
      omega
    · rw [if_neg e1]
      by_cases e2 : i = k
      · rw [if_pos e2, if_pos (by omega)]
        congr 1
        omega
      · rw [if_neg e2]
        by_cases e3 : k < i ∨ n - k ≤ i
        · rw [if_pos e3, if_pos (by omega)]
        · rw [if_neg e3, if_neg (by omega)]
theorem rv_at {n i k : Nat} (a : Nat → Value) (hk : k < n) (h : ¬ (k < i ∨ n - k ≤ i)) : (rv n a i)[k]? = some (a k) := by
  unfold rv
  rw [List.getElem?_map, List.getElem?_range hk, Option.map_some, if_neg h]
set_option maxRecDepth 100000 in
set_option maxHeartbeats 4000000 in
theorem Reverse_any {w : World} {B g n cap : Nat} (z : Nat → Int) (hn : n ≤ 1000000) (h : w.ownsRow B 38 1 (.slice (some ⟨g, 0, none⟩) n cap) n ((List.range n).map fun k => .int .u32 (z k))) :
    Calls Try.prog 95 #[.slice (some ⟨g, 0, none⟩) n cap] w fun e w' => e = .returned (.tuple #[]) ∧ w'.ownsRow B 38 1 (.slice (some ⟨g, 0, none⟩) n cap) n ((List.range n).map fun k => .int .u32 (z (n - 1 - k))) ∧ Kp (fun k => k = g) w w' := by
  have HH := Lib.hid h
  clear h
  have wl := IntWalk.i64_in ((n : Int) - 1) (by omega)
  go_enter Try.func95, Try.ntmps95
  go_wp2_with fail
  go_loopw [2, 3] (fun iv jv wr => ∃ (i : Nat) (jz : Int), Hid (i ≤ n ∧ jz = (n : Int) - 1 - (i : Int)) ∧ iv = .int .i64 (i : Int) ∧ jv = .int .i64 jz ∧ Hid (wr.ownsRow B 38 1 (.slice (some ⟨g, 0, none⟩) n cap) n (rv n (fun k => .int .u32 (z k)) i)) ∧ Hid (Kp (fun k => k = g) w wr)) (fun iv _ _ => n - (intOf iv).toNat)
  case atStart => exact ⟨0, _, Lib.hid ⟨Nat.zero_le _, by omega⟩, rfl, rfl, Lib.hid (by rw [rv_zero]; exact HH.out), Lib.hid (Kp.refl _ _)⟩
  case round =>
    obtain ⟨i, jz, HJ, rfl, rfl, HR, HK⟩ := hrel
    by_cases hlt : (i : Int) < jz
    · obtain ⟨j, rfl⟩ := Int.eq_ofNat_of_zero_le (show 0 ≤ jz by omega)
      have hj := HJ.out
      have hjn : j < n := by omega
      have hin : i < n := by omega
      have hin2 : 2 * i + 1 < n := by omega
      have hji : n - 1 - i = j := by omega
      have hij : i ≠ j := by omega
      have ci := HR.out.cellAt i (by omega)
      have cj := HR.out.cellAt j (by omega)
      have i0 : (0 : Int) ≤ (i : Int) := by omega
      have i1 : (i : Int) < (n : Int) := by omega
      have j0 : (0 : Int) ≤ (j : Int) := by omega
      have j1 : (j : Int) < (n : Int) := by omega
      have wi := IntWalk.i64_in ((i : Int) + 1) (by omega)
      have wj := IntWalk.i64_in ((j : Int) - 1) (by omega)
      rw [rv_at _ hin (by omega)] at ci
      rw [rv_at _ hjn (by omega)] at cj
      have fi : ∀ k, wr.frozen? ⟨g, k, none⟩ = false := fun k => HR.out.frozenAt k
      have HD := Lib.hid (show wr.drew.ownsRow B 38 1 (.slice (some ⟨g, 0, none⟩) n cap) n (rv n (fun k => .int .u32 (z k)) i) from row_of HR.out fun _ _ => rfl)
      have HA1 := Lib.hid (HD.out.stored i (.int .u32 (z j))).1
      have HB1 := Lib.hid (HD.out.stored j (.int .u32 (z i))).1
      have ln : (rv n (fun k => Value.int .u32 (z k)) i).length = n := by unfold rv; simp
      have a1 : (wr.drew.setCell ⟨g, i, none⟩ (.int .u32 (z j))).cell? ⟨g, j, none⟩ = some (.int .u32 (z j)) := (HA1.out.cellAt j (by omega)).trans (by rw [List.getElem?_set_ne hij]; exact rv_at _ hjn (by omega))
      have a2 : (wr.drew.setCell ⟨g, i, none⟩ (.int .u32 (z j))).frozen? ⟨g, j, none⟩ = false := HA1.out.frozenAt j
      have b1 : (wr.drew.setCell ⟨g, j, none⟩ (.int .u32 (z i))).cell? ⟨g, i, none⟩ = some (.int .u32 (z i)) := (HB1.out.cellAt i (by omega)).trans (by rw [List.getElem?_set_ne hij.symm]; exact rv_at _ hin (by omega))
      have b2 : (wr.drew.setCell ⟨g, j, none⟩ (.int .u32 (z i))).frozen? ⟨g, i, none⟩ = false := HB1.out.frozenAt i
      have hnx := rv_next (fun k => Value.int .u32 (z k)) hin2
      rw [hji] at hnx
      have kpd : Kp (fun k => k = g) w wr.drew := HK.out.tr (Below.drew (Below.refl _ _))
      have kset : ∀ (V : World) (k : Nat) (v : Value), Kp (fun k => k = g) w V → Kp (fun k => k = g) w (V.setCell ⟨g, k, none⟩ v) := fun V k v h => ⟨h.os, h.tape, h.output, by simpa using h.size, fun b hb hn => (Below.heap_setCell V ⟨g, k, none⟩ v b hn).trans (h.block b hb hn)⟩
      have HA := Lib.hid (show ((wr.drew.setCell ⟨g, i, none⟩ (.int .u32 (z j))).setCell ⟨g, j, none⟩ (.int .u32 (z i))).ownsRow B 38 1 (.slice (some ⟨g, 0, none⟩) n cap) n (rv n (fun k => .int .u32 (z k)) (i + 1)) ∧ Kp (fun k => k = g) w ((wr.drew.setCell ⟨g, i, none⟩ (.int .u32 (z j))).setCell ⟨g, j, none⟩ (.int .u32 (z i))) from ⟨by rw [← hnx]; exact (HA1.out.stored j (.int .u32 (z i))).1, kset _ _ _ (kset _ _ _ kpd)⟩)
      have HB := Lib.hid (show ((wr.drew.setCell ⟨g, j, none⟩ (.int .u32 (z i))).setCell ⟨g, i, none⟩ (.int .u32 (z j))).ownsRow B 38 1 (.slice (some ⟨g, 0, none⟩) n cap) n (rv n (fun k => .int .u32 (z k)) (i + 1)) ∧ Kp (fun k => k = g) w ((wr.drew.setCell ⟨g, j, none⟩ (.int .u32 (z i))).setCell ⟨g, i, none⟩ (.int .u32 (z j))) from ⟨by rw [← hnx, List.set_comm _ _ hij]; exact (HB1.out.stored i (.int .u32 (z j))).1, kset _ _ _ (kset _ _ _ kpd)⟩)
      have HN := Lib.hid (show i + 1 ≤ n ∧ (j : Int) - 1 = (n : Int) - 1 - ((i + 1 : Nat) : Int) by omega)
      clear hj hjn hin hin2 hji hij hnx kpd kset ln HD HA1 HB1 HR HK HH hn
      go_wp2_with fail
      apply region_one (R := fun u => u.ownsRow B 38 1 (.slice (some ⟨g, 0, none⟩) n cap) n (rv n (fun k => .int .u32 (z k)) (i + 1)) ∧ Kp (fun k => k = g) w u)
      case first =>
        go_region_with fail
        all_goals (dsimp only [midQ]; first | exact ⟨rfl, HA.out⟩ | exact ⟨rfl, HB.out⟩)
      case rest =>
        rintro u ⟨h1, h2⟩
        have HU := Lib.hid (show _ ∧ _ from ⟨h1, h2⟩)
        clear h1 h2
        go_wp2_with fail
        go_roundw
        case rel => exact ⟨i + 1, _, HN, by go_num, rfl, Lib.hid HU.out.1, Lib.hid HU.out.2⟩
        case measure => have := HN.out; simp [intOf]; omega
    · have hj := HJ.out
      have hnj : n ≤ 2 * i + 1 := by omega
      go_wp2_with fail
      first | go_returns | go_end0
      have h := HR.out
      rw [rv_end _ hnj] at h
      exact ⟨rfl, h, HK.out⟩
set_option maxRecDepth 100000 in
theorem Reverse_nil {w : World} {p : Option Addr} {cap : Nat} :
    Calls Try.prog 95 #[.slice p 0 cap] w fun e w' => e = .returned (.tuple #[]) ∧ w = w' := by
  have wl : IntKind.i64.wrap ((0 : Int) - 1) = -1 := by decide
  go_enter Try.func95, Try.ntmps95
  go_wp2_with fail
  go_loopw [2, 3] (fun iv jv wr => iv = .int .i64 0 ∧ jv = .int .i64 (-1) ∧ w = wr) (fun _ _ _ => 0)
  case atStart => exact ⟨rfl, rfl, rfl⟩
  case round =>
    obtain ⟨rfl, rfl, rfl⟩ := hrel
    go_wp2_with fail
    first | go_returns | go_end0
    exact ⟨rfl, rfl⟩
/-- a row of numbers turned round -/
theorem Reverse_row {w : World} {B : Nat} {v : Value} (D : List Nat) (hn : D.length ≤ 1000000) (h : w.ownsRow B 38 1 v D.length ((ints D).map (Value.int .u32))) :
    Calls Try.prog 95 #[v] w fun e w' => e = .returned (.tuple #[]) ∧ w'.ownsRow B 38 1 v D.length ((ints D.reverse).map (Value.int .u32)) ∧ Kp (fun k => v.ownBlock = some k) w w' := by
  have er : ∀ L : List Nat, (ints L).map (Value.int .u32) = (List.range L.length).map fun k => .int .u32 ((L[k]?.getD 0 : Nat) : Int) := fun L => by
    unfold ints
    rw [List.map_map]
    refine List.ext_getElem (by simp) fun k h1 h2 => ?_
    have hk : k < L.length := by simpa using h2
    simp [hk]
  rcases own_cases (l := ints D) (f := Value.int .u32) (by rwa [show (ints D).length = D.length by unfold ints; simp]) with ⟨rfl, hd⟩ | ⟨g, cap, rfl, -⟩
  · have hd0 : D = [] := by unfold ints at hd; simpa using hd
    subst hd0
    exact Reverse_nil.mono fun e w' h2 => ⟨h2.1, h2.2 ▸ h, h2.2 ▸ Kp.refl _ _⟩
  · rw [show (ints D).length = D.length by unfold ints; simp] at h ⊢
    rw [er D] at h
    refine (Reverse_any (fun k => ((D[k]?.getD 0 : Nat) : Int)) hn h).mono fun e w' h2 => ⟨h2.1, ?_, h2.2.2.mono fun k _ hk => by subst hk; rfl⟩
    have e2 : (List.range D.length).map (fun k => Value.int .u32 ((D[D.length - 1 - k]?.getD 0 : Nat) : Int)) = (ints D.reverse).map (Value.int .u32) := by
      rw [er D.reverse, List.length_reverse]
      refine List.map_congr_left fun k hk => ?_
      rw [List.getElem?_reverse (List.mem_range.1 hk)]
    rw [← e2]
    exact h2.2.1
end Go.Proofs.Ytbbcmheedhdlfaa.Reu
namespace Go.Proofs.Ytbbcmheedhdlfaa.Reu
open Go Go.RowKit Kit Go.Maps Lnk Lru Go.Shelf
attribute [local go_sem] Oper.semAt_some
attribute [-go_sem] Builtin.append_
theorem regionIn_one {F : Fence} {n : Nat} {P : Program} {c : Code} {Q : Exit → Act → World → Prop} {a : Act} {w : World} (A : Act) (R : World → Prop)
    (first : Code.wpIn F n P c (midQ fun a w => a = A ∧ R w) a w) (rest : ∀ w, R w → Q .normal A w) : Code.wpIn F n P c Q a w :=
  Code.wpIn_mono (fun e a' w' h => by
    cases e
    case normal => obtain ⟨rfl, h⟩ := h; exact rest _ h
    all_goals exact h.elim) first
theorem app_in {L n : Nat} {w w4 : World} {ops : Array Oper} {o : Oper} {a : Act} {K : Act → World → Prop} {Q : Exit → Act → World → Prop} {E : Prop} (hgd : o.guard = none) (s x : Operand) (t : TypeId) (ho : o.op = .call { callee := .builtin .append, args := #[s, x], argTypes := #[t, t] }) (sv xv v' : Value) (hs : a.eval s = sv) (hx : a.eval x = xv) (hap : (Builtin.append_ #[t, t] o.type #[sv, xv]).run Try.prog w = .ok v' w4) (h : K (a.put o.dst v') w4) :
    if Region.wanted o (yielded ops a.tmps) = true then Oper.wpIn (Fence.wide.inRound L) n Try.prog o a w K Q else E := by
  have hw : Region.wanted o (yielded ops a.tmps) = true := by simp [Region.wanted, hgd]
  rw [if_pos hw]
  unfold Oper.wpIn
  refine ⟨?_, ?_⟩
  · intro f hf
    simp [Oper.about, ho, resolve, Target.leads, Sem.run_pure] at hf
  · rw [show (Fence.wide.inRound L).round = some L from rfl, Oper.semAt_some L _ o (by rw [ho]; intro c hc; cases hc)]
    unfold execOp
    simp only [ho, resolve, invoke, builtin, Sem.run_bind, Sem.run_pure, Result.andThen_ok, List.map_toArray, List.map_cons, List.map_nil, hs, hx, hap]
    exact h
theorem mk_cap32 {n : Nat} (hn : n ≤ 1000000) (v : World) : (Instr.makeSlice 39 (.int .i64 0) (.int .i64 (n : Int))).run Try.prog v = .ok (.slice (some ⟨v.heap.size, 0, none⟩) 0 n) (v.alloc (.cells (madeCells #[.int .u32 0] n) 38)) := by
  obtain ⟨i0, hi0, hz0, hz1, hz2⟩ := u_parts
  have hr := run_make (P := Try.prog) v 39 38 i0 (.int .u32 0) Try.underlying39 hi0 hz0 .i64 .i64 0 (n : Int) (Int.le_refl _) (by omega) (by rw [hz2]; omega) (by omega)
  rw [hz1] at hr
  simp only [Int.toNat_zero, Int.toNat_natCast] at hr
  simpa [Value.cells] using hr
theorem row_kind {w : World} {B n : Nat} {e : TypeId} {v : Value} {xs : List Value} (h : w.ownsRow B e 1 v n xs) : ∀ g, v.ownBlock = some g → ∃ c fz, w.heap[g]? = some (.cells c e fz) := fun g hg => by
  obtain ⟨h0, hv | ⟨g', cap, cur, hv, hb, hgg, hr⟩⟩ := h
  · rw [hv.1] at hg; cases hg
  · rw [hv] at hg; cases hg; exact ⟨_, _, hgg⟩
/-- the end of a round: one key more -/
theorem stack_round {w1 V V1 W Wd w4 : World} {va : Option Addr} {vc g4 cap4 key n : Nat} {vals0 : List Value} (h1 : w1.heap.size + 3 = V.heap.size) (h2 : V.heap.size ≤ V1.heap.size) (h3 : V1.heap.size ≤ W.heap.size) (hd : Wd.heap.size = W.heap.size + 1) (bd : Below W.heap.size W Wd)
    (hvb : ∀ g, (Value.slice va n vc).ownBlock = some g → g = w1.heap.size + 1 ∨ V1.heap.size ≤ g) (hkind : ∀ g, (Value.slice va n vc).ownBlock = some g → ∃ c fz, W.heap[g]? = some (.cells c 38 fz))
    (hown : w4.ownsRow (w1.heap.size + 1) 38 1 (.slice (some ⟨g4, 0, none⟩) (n + 1) cap4) (n + 1) (vals0 ++ [.int .u32 (key : Int)])) (hgr : Wd.grownBy w4 (Value.slice va n vc).ownBlock) (hvb' : (Value.slice (some ⟨g4, 0, none⟩) (n + 1) cap4).ownBlock = (Value.slice va n vc).ownBlock ∨ (Value.slice (some ⟨g4, 0, none⟩) (n + 1) cap4).ownBlock = some Wd.heap.size)
    (hbx : w4.heap[w1.heap.size + 1 + 1]? = some (.cells #[.slice va n vc] 39 (0, 0))) (kp : Kp (fun k => k = w1.heap.size + 1 ∨ k = w1.heap.size + 1 + 1) V1 W) :
    KeepsOthers W (w4.setCell ⟨w1.heap.size + 1 + 1, 0, none⟩ (.slice (some ⟨g4, 0, none⟩) (n + 1) cap4)) ∧ (Mid V.heap.size V1.heap.size W (w4.setCell ⟨w1.heap.size + 1 + 1, 0, none⟩ (.slice (some ⟨g4, 0, none⟩) (n + 1) cap4)) ∧ W.heap.size ≤ (w4.setCell ⟨w1.heap.size + 1 + 1, 0, none⟩ (.slice (some ⟨g4, 0, none⟩) (n + 1) cap4)).heap.size) ∧
    (∃ v, Boxed (w4.setCell ⟨w1.heap.size + 1 + 1, 0, none⟩ (.slice (some ⟨g4, 0, none⟩) (n + 1) cap4)) (w1.heap.size + 1 + 1) 39 v ∧ (w4.setCell ⟨w1.heap.size + 1 + 1, 0, none⟩ (.slice (some ⟨g4, 0, none⟩) (n + 1) cap4)).ownsRow (w1.heap.size + 1) 38 1 v (n + 1) (vals0 ++ [.int .u32 (key : Int)]) ∧ ∀ g, v.ownBlock = some g → g = w1.heap.size + 1 ∨ V1.heap.size ≤ g) ∧ Kp (fun k => k = w1.heap.size + 1 ∨ k = w1.heap.size + 1 + 1) V1 (w4.setCell ⟨w1.heap.size + 1 + 1, 0, none⟩ (.slice (some ⟨g4, 0, none⟩) (n + 1) cap4)) := by
  have hs4 := hgr.size
  have b2 : ∀ k, k ≠ w1.heap.size + 1 + 1 → (w4.setCell ⟨w1.heap.size + 1 + 1, 0, none⟩ (.slice (some ⟨g4, 0, none⟩) (n + 1) cap4)).heap[k]? = w4.heap[k]? := fun k hk => Below.heap_setCell w4 ⟨w1.heap.size + 1 + 1, 0, none⟩ _ k hk
  have b4 : ∀ k, k < W.heap.size → (Value.slice va n vc).ownBlock ≠ some k → w4.heap[k]? = W.heap[k]? := fun k hk hn => (hgr.block k (by omega) fun e => hn e.symm).trans (bd.block k hk)
  have hbW : W.heap[w1.heap.size + 1 + 1]? = some (.cells #[.slice va n vc] 39 (0, 0)) := (b4 _ (by omega) fun e => by rcases hvb _ e with h | h <;> omega).symm.trans hbx
  have hg4 : g4 = w1.heap.size + 1 ∨ V1.heap.size ≤ g4 := by
    rcases hvb' with h | h
    · exact hvb g4 (h ▸ rfl)
    · have : g4 = Wd.heap.size := by simpa [Value.ownBlock] using h
      exact .inr (by omega)
  refine ⟨⟨by simp; omega, fun k o hk ho => ?_⟩, ⟨fun k hk1 hk2 => ?_, by simp; omega⟩, ⟨_, heap_set (j := 0) hbx _, row_of hown fun g hg => b2 g ?_, fun g hg => ?_⟩, ⟨hgr.os.trans (bd.os.trans kp.os), hgr.tape.trans (bd.tape.trans kp.tape), hgr.output.trans (bd.output.trans kp.output), by simp; omega, fun k hk hn => ?_⟩⟩
  · have h1 : k ≠ w1.heap.size + 1 + 1 := fun e => by rw [e, hbW] at hk; cases hk; cases ho
    have h2 : (Value.slice va n vc).ownBlock ≠ some k := fun e => by obtain ⟨c, fz, h⟩ := hkind k e; rw [h] at hk; cases hk; cases ho
    exact (b2 k h1).trans ((b4 k (Array.getElem?_eq_some_iff.1 hk).1 h2).trans hk)
  · exact (b2 k (by omega)).trans (b4 k (by omega) fun e => by rcases hvb _ e with h | h <;> omega)
  · have : g4 = g := by simpa [Value.ownBlock] using hg
    omega
  · have : g4 = g := by simpa [Value.ownBlock] using hg
    omega
  · exact (b2 k fun e => hn (.inr e)).trans ((b4 k (by omega) fun e => by rcases hvb _ e with h | h; exact hn (.inl h); omega).trans (kp.block k hk hn))
/-- behind the call of Reverse -/
theorem stack_done {w w1 V V1 W : World} {v : Value} {Ks : List Nat} {D : Nat} (hb : Below w.heap.size w w1) (bv : Below w1.heap.size w1 V1) (h1 : w1.heap.size + 3 = V.heap.size) (h2 : V.heap.size ≤ V1.heap.size) (hD : V1.heap.size ≤ D) (kp : Kp (fun k => k = w1.heap.size + 1 ∨ k = w1.heap.size + 1 + 1) V1 W) (hvb : ∀ g, v.ownBlock = some g → g = w1.heap.size + 1 ∨ V1.heap.size ≤ g) (hv : Boxed W (w1.heap.size + 1 + 1) 39 v)
    (hrow : W.ownsRow (w1.heap.size + 1) 38 1 v Ks.length ((ints Ks).map (Value.int .u32))) (hK : W.heap[D]? = some (Obj.deferred (some []))) : ∀ W5 : World, W5.ownsRow (w1.heap.size + 1) 38 1 v Ks.length ((ints Ks.reverse).map (Value.int .u32)) → Kp (fun k => v.ownBlock = some k) W W5 →
    W5.cell? ⟨w1.heap.size + 1 + 1, 0, none⟩ = some v ∧ W5.heap[D]? = some (Obj.deferred (some [])) ∧ ∀ ob : Obj, (W5.putObj D ob).ownsRow w.heap.size 38 1 v Ks.length ((ints Ks.reverse).map (Value.int .u32)) ∧ Below w.heap.size w (W5.putObj D ob) := by
  intro W5 hr5 kp5
  have hDW := (Array.getElem?_eq_some_iff.1 hK).1
  have hvl := hv.lt
  have hwb := hb.size
  have hsW := kp.size
  have hs5 := kp5.size
  have hbx := (kp5.block _ hvl fun e => by rcases hvb _ e with h | h <;> omega).trans hv
  have hnD : v.ownBlock ≠ some D := fun e => by obtain ⟨c, fz, h⟩ := row_kind hrow D e; rw [h] at hK; cases hK
  refine ⟨by simp [World.cell?, hbx], (kp5.block D hDW hnD).trans hK, fun ob => ⟨row_of (App.own_lift hr5 (by omega)) fun g hg => heap_putObj_ne W5 D ob g fun e => hnD (e ▸ hg), tr hb ⟨kp5.os.trans (kp.os.trans bv.os), kp5.tape.trans (kp.tape.trans bv.tape), kp5.output.trans (kp.output.trans bv.output), by simp [World.putObj]; omega, fun k hk => ?_⟩⟩⟩
  exact (heap_putObj_ne W5 D ob k (by omega)).trans ((kp5.block k (by omega) fun e => by rcases hvb _ e with h | h <;> omega).trans ((kp.block k (by omega) fun h => by omega).trans (bv.block k hk)))
set_option maxRecDepth 100000 in
set_option maxHeartbeats 4000000 in
theorem Stack_any {w : World} {p : Option Addr} {n c : Nat} {T : List Nat} (hT : T.length = n) (hn : n ≤ 4096) (hr : Ru w p (ints T)) (hw : ∀ x ∈ T, x < 4294967296) :
    Calls Try.prog 36 #[.slice p n c] w fun e w' => ∃ lv, e = .returned (.tuple #[lv, .int .i64 0]) ∧ w'.ownsRow w.heap.size 38 1 lv (stk [] T).length ((ints (stk [] T).reverse).map (Value.int .u32)) ∧ Below w.heap.size w w' := by
  have HF := Lib.hid (follow_any (c := c) hT hn hr hw)
  have HL := Lib.hid (show (stk [] T).length ≤ 4096 by have := stk_len T []; simp at this; omega)
  obtain ⟨D, hD⟩ : ∃ D, stk [] T = D := ⟨_, rfl⟩
  rw [hD] at HF HL ⊢
  clear hT hn hr hw hD
  refine (callsIn_wide (n := 6)).1 ?_
  refine callsIn_of_wp_marks Try.func36 rfl trivial ?_ rfl
  simp only [Try.ntmps36, List.size_toArray, List.length_cons, List.length_nil, Nat.reduceAdd, Nat.reduceSub, Array.replicate_succ, Array.replicate_zero, List.push_toArray, List.append_toArray, List.nil_append, List.cons_append]
  gi_wp2
  refine ⟨trivial, ?_⟩
  refine (callsIn_wide.2 HF.out).mono ?_
  rintro e w1 ⟨o, lv, rfl, u, cc, q, r, cq, cr, N, F, m, M, kv, KL, l, H, rfl, hge, hkv, hbl, hrow, hsep⟩
  have HS := Lib.hid H
  have HX := Lib.hid (show (w.heap.size ≤ o ∧ w.heap.size ≤ u ∧ w.heap.size ≤ cc ∧ w.heap.size ≤ q ∧ w.heap.size ≤ r ∧ w.heap.size ≤ m) ∧ (∀ g, kv.ownBlock = some g → w.heap.size ≤ g) ∧ Below w.heap.size w w1 from ⟨hge, hkv, hbl⟩)
  clear H hge hkv hbl hrow hsep HF
  have hKL : (kys KL l).length = KL.length := by rw [← HS.out.len]; unfold kys; simp
  rw [hKL] at HL
  obtain ⟨K, hK⟩ : ∃ K, KL.length = K := ⟨_, rfl⟩
  rw [hK] at HL
  have HK := Lib.hid (show KL.length = K ∧ (kys KL l).length = K from ⟨hK, hKL.trans hK⟩)
  obtain ⟨ka, kc, hkv', -, -⟩ := own_form HS.out.ks
  rw [hK] at hkv'
  have HKV := Lib.hid hkv'
  obtain ⟨d0, d1, d2, df⟩ := (HS.out.below (box_below w1 #[.pointer (some ⟨o, 0, none⟩)] 120)).cells
  rw [hkv'] at d1
  have hmk := mk_cap32 (n := K) (by have := HL.out; omega)
  clear hKL hK hkv'
  have B1 := Lib.hid (show Below w1.heap.size w1 (((w1.alloc (.cells #[.pointer (some ⟨o, 0, none⟩)] 120)).alloc (.cells (madeCells #[.int .u32 0] K) 38)).alloc (.cells #[.slice (some ⟨w1.heap.size + 1, 0, none⟩) 0 K] 39)) from by go_grown)
  have hs3 := Lib.hid (show (((w1.alloc (.cells #[.pointer (some ⟨o, 0, none⟩)] 120)).alloc (.cells (madeCells #[.int .u32 0] K) 38)).alloc (.cells #[.slice (some ⟨w1.heap.size + 1, 0, none⟩) 0 K] 39)).heap.size = w1.heap.size + 3 from by simp)
  have X0 := Lib.hid (show (((w1.alloc (.cells #[.pointer (some ⟨o, 0, none⟩)] 120)).alloc (.cells (madeCells #[.int .u32 0] K) 38)).alloc (.cells #[.slice (some ⟨w1.heap.size + 1, 0, none⟩) 0 K] 39)).heap[w1.heap.size]? = some (.cells #[.pointer (some ⟨o, 0, none⟩)] 120 (0, 0)) from (Below.heap_alloc _ _ w1.heap.size (by simp only [World.size_alloc]; omega)).trans ((Below.heap_alloc _ _ w1.heap.size (by simp)).trans (MapKept.heap_alloc w1 _).1))
  have X2 := Lib.hid (show (((w1.alloc (.cells #[.pointer (some ⟨o, 0, none⟩)] 120)).alloc (.cells (madeCells #[.int .u32 0] K) 38)).alloc (.cells #[.slice (some ⟨w1.heap.size + 1, 0, none⟩) 0 K] 39)).heap[w1.heap.size + 1 + 1]? = some (.cells #[.slice (some ⟨w1.heap.size + 1, 0, none⟩) 0 K] 39 (0, 0)) from by simpa only [World.size_alloc] using (MapKept.heap_alloc ((w1.alloc (.cells #[.pointer (some ⟨o, 0, none⟩)] 120)).alloc (.cells (madeCells #[.int .u32 0] K) 38)) (.cells #[.slice (some ⟨w1.heap.size + 1, 0, none⟩) 0 K] 39)).1)
  have X1 := Lib.hid (show (((w1.alloc (.cells #[.pointer (some ⟨o, 0, none⟩)] 120)).alloc (.cells (madeCells #[.int .u32 0] K) 38)).alloc (.cells #[.slice (some ⟨w1.heap.size + 1, 0, none⟩) 0 K] 39)).ownsRow (w1.heap.size + 1) 38 1 (.slice (some ⟨w1.heap.size + 1, 0, none⟩) 0 K) 0 [] from by
    have h := (World.ownsRow_made (base := w1.heap.size + 1) (e := 38) (size := 1) (w1.alloc (.cells #[.pointer (some ⟨o, 0, none⟩)] 120)) (madeCells #[.int .u32 0] K) K (by simp) (by have := HL.out; unfold maxLen; omega) (by rw [Nat.mul_one]; exact size_madeCells _ _)).alloc (.cells #[.slice (some ⟨w1.heap.size + 1, 0, none⟩) 0 K] 39)
    simpa only [World.size_alloc] using h)
  have HV0 := Lib.hid (HS.out.below B1.out)
  obtain ⟨c0, c1, c2, cf⟩ := HV0.out.cells
  gi_wp2
  obtain ⟨V, hV⟩ : ∃ V, (((w1.alloc (.cells #[.pointer (some ⟨o, 0, none⟩)] 120)).alloc (.cells (madeCells #[.int .u32 0] K) 38)).alloc (.cells #[.slice (some ⟨w1.heap.size + 1, 0, none⟩) 0 K] 39)) = V := ⟨_, rfl⟩
  rw [hV] at B1 X0 X1 X2 hs3 HV0 c0 c1 c2
  simp only [hV] at cf ⊢
  clear hV d0 d1 d2 df hmk
  have HA := Lib.hid (All15_any HV0.out.lu)
  refine ⟨trivial, ?_⟩
  refine (callsIn_wide.2 HA.out).mono ?_
  rintro e V1 ⟨⟨g, pl, cp, rfl, hg1, hg2, hcg, hru, hpf⟩, b1⟩
  gi_wp2
  have hVs := hs3.out
  have hV1s := b1.size
  have Y0 := Lib.hid (show V1.heap[w1.heap.size]? = some (.cells #[.pointer (some ⟨o, 0, none⟩)] 120 (0, 0)) from (b1.block _ (by omega)).trans X0.out)
  have H1 := Lib.hid (HV0.out.below b1)
  have BV := Lib.hid (tr B1.out b1)
  have Z0 : (∃ v, Boxed V1 (w1.heap.size + 1 + 1) 39 v ∧ V1.ownsRow (w1.heap.size + 1) 38 1 v ([] : List (El (ints l))).length ((vals ([] : List (El (ints l)))).map fun x => Value.int .u32 (ky KL x.toNat : Int)) ∧ ∀ g, v.ownBlock = some g → g = w1.heap.size + 1 ∨ V1.heap.size ≤ g) ∧ Kp (fun k => k = w1.heap.size + 1 ∨ k = w1.heap.size + 1 + 1) V1 V1 :=
    ⟨⟨_, (b1.block _ (by omega)).trans X2.out, row_of X1.out (fun g hg => b1.block g (X1.out.lt g hg).2), fun g hg => by cases hg; exact .inl rfl⟩, Kp.refl _ _⟩
  have HZ0 := Lib.hid Z0
  clear Z0 c0 c1 c2 cf HA X0 X1 X2 b1
  have hmix : Try.prog.follows .mixedOrders = true := by kernel_rfl
  refine' wpIn_rangeFunc_ownF (encs := fun x : El (ints l) => #[.int .u32 x.val]) (Kp := fun A B => Mid V.heap.size V1.heap.size A B ∧ A.heap.size ≤ B.heap.size) (S := fun ys => vals ys = ints l) (Sp := fun pre => vals pre <+: ints l) (N := (ints l).length) rfl (by decide) (gf := 76) (lb := #[.pointer (some ⟨g, 0, none⟩)]) rfl trivial (enters_of Try.func76 (by kernel_rfl) rfl)
    (w0 := V1)
    (fun L J Jx W hW _ _ hY h0 => allsub_in (fun A B => Mid V.heap.size V1.heap.size A B ∧ A.heap.size ≤ B.heap.size) L g pl cp (ints l) (by rw [ints_len]; exact HV0.out.lu.lo.len_le (k := 0) rfl) J Jx
      (fun W1 W2 hh r => hh.1.ru (fun y hy => by have := hpf y hy; omega) (fun i x hx y hy => by obtain ⟨y', hy', h1, -⟩ := hru i x hx; rw [hy] at hy'; cases hy'; exact h1) (.inl hh.2) r)
      hY W ((hW.cell (p := ⟨g, 0, none⟩) hg2).trans hcg) (hru.below hW) h0)
    (fun h k => ⟨h.1.trans k.1, Nat.le_trans h.2 k.2⟩) (fun W l o o' h1 h2 h3 h4 => ⟨Mid.putObj (Nat.le_refl _) W l o o' h1 h2 h3 h4, by simp [World.putObj]⟩) (Below.refl _ _) (fun _ => rfl)
    (fun pre W => (∃ v, Boxed W (w1.heap.size + 1 + 1) 39 v ∧ W.ownsRow (w1.heap.size + 1) 38 1 v pre.length ((vals pre).map fun x => Value.int .u32 (ky KL x.toNat : Int)) ∧ ∀ g, v.ownBlock = some g → g = w1.heap.size + 1 ∨ V1.heap.size ≤ g) ∧ Kp (fun k => k = w1.heap.size + 1 ∨ k = w1.heap.size + 1 + 1) V1 W)
    (fun _ _ _ => False)
    (OwnFrom.and (Own.from (holdsRow_own (w1.heap.size + 1) (w1.heap.size + 1 + 1) 39 38 1 (fun pre : List (El (ints l)) => pre.length) (fun pre : List (El (ints l)) => (vals pre).map fun x => Value.int .u32 (ky KL x.toNat : Int)) (fun _ v => ∀ g, v.ownBlock = some g → g = w1.heap.size + 1 ∨ V1.heap.size ≤ g)) _) (fun pre W W' row h hg hr => ⟨hg.os.trans h.os, hg.tape.trans h.tape, hg.output.trans h.output, Nat.le_trans h.size hg.size, fun k hk hn => (hg.block k (Nat.lt_of_lt_of_le hk h.size) fun e => by have := (hr k e.symm).1; omega).trans (h.block k hk hn)⟩))
    (fun _ _ _ _ _ hs _ _ => hs)
    HZ0.out
    _ ?assign ?body ?done ?stop
  case assign =>
    intro L x W K hK
    gi_wp2
    exact hK
  case body =>
    rintro L pre x W ⟨⟨v, hv, hrow, hvb⟩, kp⟩ hlt
    obtain ⟨s, hs, hsl⟩ : ∃ s : Nat, x.val = (s : Int) ∧ s ∈ l := by
      have := x.property
      unfold ints at this
      obtain ⟨s, hs, e⟩ := List.mem_map.1 this
      exact ⟨s, e.symm, hs⟩
    have hpK : pre.length < K := by have : pre.length < (ints l).length := hlt; rw [ints_len, HS.out.len, HK.out.1] at this; exact this
    have hK4 := HL.out
    obtain ⟨i0, hi, hz0, hz1, hz2⟩ := u_parts
    have hl := HS.out.lt
    have hb1 := B1.out.size
    have hks := HS.out.ks
    rw [HK.out.1, HKV.out] at hks
    obtain ⟨ka', kc', e1, hrg, -⟩ := own_rg hks
    cases e1
    have hsK : s < K := by rw [← HK.out.1]; exact HS.out.mem_lt hsl
    obtain ⟨key, hkey⟩ : ∃ key : Nat, ky KL s = key := ⟨_, rfl⟩
    obtain ⟨y, rfl, hyb, hyc⟩ := hrg s (.int .u32 (key : Int)) (by
      unfold ints
      rw [List.map_map, List.getElem?_map, List.getElem?_eq_getElem (by rw [HK.out.1]; exact hsK)]
      rw [← hkey]
      unfold ky
      rw [List.getElem?_eq_getElem (by rw [HK.out.1]; exact hsK)]
      rfl)
    have hbk : ∀ k, k < V1.heap.size → k ≠ w1.heap.size + 1 → k ≠ w1.heap.size + 1 + 1 → W.heap[k]? = V1.heap[k]? := fun k h1 h2 h3 => kp.block k h1 fun h => by rcases h with h | h; exact h2 h; exact h3 h
    have hbw : ∀ k, k < w1.heap.size → W.heap[k]? = w1.heap[k]? := fun k h => (hbk k (by omega) (by omega) (by omega)).trans (BV.out.block k h)
    obtain ⟨va, vc, rfl, -, -⟩ := own_form hrow
    obtain ⟨Wd, hWd⟩ : ∃ Wd, (W.alloc (.cells #[.int .u32 (key : Int)] 38)).drew = Wd := ⟨_, rfl⟩
    have bd : Below W.heap.size W Wd := by rw [← hWd]; exact tr (box_below W _ _) (Below.drew (Below.refl _ _))
    have hds : Wd.heap.size = W.heap.size + 1 := by rw [← hWd]; simp
    have hWV := kp.size
    have t7 : W.drew.cell? ⟨w1.heap.size + 1 + 1, 0, none⟩ = some (.slice va pre.length vc) := hv.cell
    have t8 : Wd.cell? ⟨w1.heap.size + 1 + 1, 0, none⟩ = some (.slice va pre.length vc) := (bd.cell (p := ⟨w1.heap.size + 1 + 1, 0, none⟩) (by show w1.heap.size + 1 + 1 < W.heap.size; omega)).trans hv.cell
    have t4 : W.drew.cell? ⟨w1.heap.size, 0, none⟩ = some (.pointer (some ⟨o, 0, none⟩)) := by
      show W.cell? _ = _
      simp [World.cell?, (hbk w1.heap.size (by omega) (by omega) (by omega)).trans Y0.out]
    have t1 : W.drew.cell? ⟨o, 1, none⟩ = some (.slice (some y) K kc) := by
      show W.cell? _ = _
      have h := (hbw o hl.1).trans HS.out.ob
      rw [HKV.out] at h
      simp [World.cell?, h]
    have tk : W.drew.cell? (y.add s) = some (.int .u32 (key : Int)) := by
      show W.cell? _ = _
      refine Eq.trans ?_ hyc
      unfold World.cell?
      rw [hbw _ (by rw [Lnk.add_block]; exact hyb)]
    have hrowd : Wd.ownsRow (w1.heap.size + 1) 38 1 (.slice va pre.length vc) pre.length ((vals pre).map fun x => Value.int .u32 (ky KL x.toNat : Int)) := row_of hrow fun g hg => bd.block g (hrow.lt g hg).2
    obtain ⟨v', w4, hap, hown, hgr, -, hvb'⟩ := run_append_own_at (P := Try.prog) (w := Wd) (w1.heap.size + 1) 39 39 38 i0 (.int .u32 0) 1 4 Try.underlying39 hi hz0 hz1 hz2 rfl (by decide) (.slice va pre.length vc) pre.length _ hrowd ⟨W.heap.size, 0, none⟩ 1 1 [.int .u32 (key : Int)] rfl (by rw [← hWd]; exact cell_one_new W (.int .u32 (key : Int)) 38) (by simp [Value.oneCell']) (by unfold maxLen; omega) (by omega) (by omega)
    obtain ⟨g4, cap4, rfl⟩ := ownsRow_succ hown
    have hb4 : ∀ k, k < W.heap.size → (∀ g, (Value.slice va pre.length vc).ownBlock = some g → k ≠ g) → w4.heap[k]? = W.heap[k]? := fun k hk hn => (hgr.block k (by omega) fun e => hn k e.symm rfl).trans (bd.block k hk)
    have hbx4 : w4.heap[w1.heap.size + 1 + 1]? = some (.cells #[.slice va pre.length vc] 39 (0, 0)) := (hb4 _ (by omega) fun g hg => by rcases hvb g hg with h | h <;> omega).trans hv
    have s1 : w4.cell? ⟨w1.heap.size + 1 + 1, 0, none⟩ = some (.slice va pre.length vc) := by simp [World.cell?, hbx4]
    have s2 : w4.frozen? ⟨w1.heap.size + 1 + 1, 0, none⟩ = false := by simp [World.frozen?, hbx4]
    have i1 : (s : Int) < (K : Int) := by omega
    have i2 : (0 : Int) ≤ (s : Int) := by omega
    have HE := Lib.hid (show w4.ownsRow (w1.heap.size + 1) 38 1 (.slice (some ⟨g4, 0, none⟩) (pre.length + 1) cap4) (pre.length + 1) (((vals pre).map fun x => Value.int .u32 (ky KL x.toNat : Int)) ++ [.int .u32 (key : Int)]) ∧ Wd.grownBy w4 (Value.slice va pre.length vc).ownBlock ∧ ((Value.slice (some ⟨g4, 0, none⟩) (pre.length + 1) cap4).ownBlock = (Value.slice va pre.length vc).ownBlock ∨ (Value.slice (some ⟨g4, 0, none⟩) (pre.length + 1) cap4).ownBlock = some Wd.heap.size) ∧ w4.heap[w1.heap.size + 1 + 1]? = some (.cells #[.slice va pre.length vc] 39 (0, 0)) ∧ Below W.heap.size W Wd ∧ ky KL s = key ∧ (∀ k, k < W.heap.size → (∀ g, (Value.slice va pre.length vc).ownBlock = some g → k ≠ g) → w4.heap[k]? = W.heap[k]?) from ⟨hown, hgr, hvb', hbx4, bd, hkey, hb4⟩)
    rw [hs]
    have HKP := Lib.hid kp
    have HSS := Lib.hid hs
    have HKD := Lib.hid (row_kind hrow)
    clear hown hgr hvb' hbx4 bd hkey hb4 hrowd hrow hv kp hbk hbw hrg hks hyc hs hsl hi hz0 hz1 hz2
    rw [← hWd] at hap t8
    have HWd := Lib.hid hWd
    have HF := Lib.hid (show (o < w1.heap.size ∧ u < w1.heap.size ∧ cc < w1.heap.size ∧ q < w1.heap.size ∧ r < w1.heap.size ∧ m < w1.heap.size) ∧ w1.heap.size ≤ V.heap.size ∧ Wd.heap.size = W.heap.size + 1 ∧ V1.heap.size ≤ W.heap.size ∧ V.heap.size = w1.heap.size + 3 ∧ V.heap.size ≤ V1.heap.size ∧ (∀ g, (Value.slice va pre.length vc).ownBlock = some g → g = w1.heap.size + 1 ∨ V1.heap.size ≤ g) from ⟨hl, hb1, hds, hWV, hVs, hV1s, hvb⟩)
    clear hWd hl hb1 hds hWV hVs hV1s hvb hpf hru hcg hg1 hg2 hlt hpK hK4 hyb hsK
    gi_wp2
    apply regionIn_one (R := fun u => u = w4.setCell ⟨w1.heap.size + 1 + 1, 0, none⟩ (.slice (some ⟨g4, 0, none⟩) (pre.length + 1) cap4))
    case first =>
      gi_region_with_o (refine ⟨trivial, ?_⟩)
      all_goals (dsimp only [midQ]; exact ⟨rfl, rfl⟩)
    case rest =>
      rintro u rfl
      gi_wp2
      obtain ⟨hl, hb1, hds, hWV, hVs, hV1s, hvb⟩ := HF.out
      obtain ⟨hown, hgr, hvb', hbx4, bd, hkey, -⟩ := HE.out
      have hR := stack_round (n := pre.length) hVs.symm hV1s hWV hds bd hvb HKD.out hown hgr hvb' hbx4 HKP.out
      have e1 : (vals (pre ++ [x])).map (fun x => Value.int .u32 (ky KL x.toNat : Int)) = (vals pre).map (fun x => Value.int .u32 (ky KL x.toNat : Int)) ++ [.int .u32 (key : Int)] := by
        rw [vals_snoc, List.map_append, HSS.out, ← hkey]
        simp
      refine ⟨hR.1, hR.2.1, ?_, hR.2.2.2⟩
      rw [List.length_append, e1]
      exact hR.2.2.1
  case done =>
    rintro D ys W hD hys ⟨⟨v, hv, hrow, hvb⟩, kp⟩ hK
    have hcc := hv.cell
    have hyl : ys.length = K := by
      have h := congrArg List.length hys
      rw [vals_len, ints_len, HS.out.len, HK.out.1] at h
      exact h
    have hrow2 : W.ownsRow (w1.heap.size + 1) 38 1 v (kys KL l).length ((ints (kys KL l)).map (Value.int .u32)) := by
      rw [HK.out.2]
      rw [hyl, hys] at hrow
      have e : (ints l).map (fun x => Value.int .u32 (ky KL x.toNat : Int)) = (ints (kys KL l)).map (Value.int .u32) := by unfold ints kys; simp [List.map_map, Function.comp_def]
      rwa [e] at hrow
    have HRV := Lib.hid (Reverse_row (kys KL l) (by rw [HK.out.2]; have := HL.out; omega) hrow2)
    have HD := Lib.hid (stack_done HX.out.2.2 BV.out hVs.symm hV1s hD kp hvb hv hrow2 hK)
    clear hyl hrow2 hrow hv hvb kp
    gi_wp2
    refine ⟨trivial, ?_⟩
    refine (callsIn_wide.2 HRV.out).mono ?_
    rintro e W5 ⟨rfl, hr5, kp5⟩
    obtain ⟨hcc5, hK5, hfin⟩ := HD.out W5 hr5 kp5
    gi_wp2
    refine ⟨by simp, .inl ⟨_, _, rfl, run_takeDeferred hK5, ?_⟩⟩
    exact ⟨.tuple #[v, .int .i64 0], by simp [results, Try.results36, go_sem], v, rfl, hfin _⟩
  case stop =>
    rintro D c pre W _ _ h _
    exact h.elim
end Go.Proofs.Ytbbcmheedhdlfaa.Reu
