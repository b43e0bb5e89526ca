/-
  Links (layer 14): LinksHolds.
-/
import Derived.Test.YtajkcockeccdoaaLnkCb
import Derived.Test.YtajkcockeccdoaaLnkV
import Derived.Test.YtajkcockeccdoaaLnkBb
import Derived.Test.YtajkcockeccdoaaEvX
import Derived.Deep.RegionLaw
set_option linter.unusedVariables false
set_option linter.unusedSimpArgs false
namespace Go.Proofs.Ytajkcockeccdoaa.Lnk
open Go Go.RowKit Kit
/-- the calls of the law, each with six cells -/
def Actl (w : World) (a : Option Addr) (m : Nat) : Prop := ∀ i, i < m → ∃ (x : Addr) (z0 z1 z2 z3 z4 : Int) (p5 : Option Addr) (m5 k5 : Nat), a = some x ∧ x.block < w.heap.size ∧ w.cell? (x.add (i * 6)) = some (.int .i64 z0) ∧ w.cell? ⟨(x.add (i * 6)).block, (x.add (i * 6)).off + 1, none⟩ = some (.int .i64 z1) ∧ w.cell? ⟨(x.add (i * 6)).block, (x.add (i * 6)).off + 2, none⟩ = some (.int .i64 z2) ∧ w.cell? ⟨(x.add (i * 6)).block, (x.add (i * 6)).off + 3, none⟩ = some (.int .u32 z3) ∧ w.cell? ⟨(x.add (i * 6)).block, (x.add (i * 6)).off + 4, none⟩ = some (.int .u32 z4) ∧ w.cell? ⟨(x.add (i * 6)).block, (x.add (i * 6)).off + 5, none⟩ = some (.slice p5 m5 k5) ∧ 0 ≤ z3 ∧ z3 < 4294967296 ∧ 0 ≤ z4 ∧ z4 < 4294967296
theorem Actl.below {w w' : World} {a : Option Addr} {m : Nat} (h : Actl w a m) (hb : Below w.heap.size w w') : Actl w' a m := fun i hi => by
  obtain ⟨x, z0, z1, z2, z3, z4, p5, m5, k5, e, hx, h0, h1, h2, h3, h4, h5, r⟩ := h i hi
  have k := fun j => hb.cell (p := ⟨(x.add (i * 6)).block, j, none⟩) (by show (x.add (i * 6)).block < _; rw [add_block]; exact hx)
  exact ⟨x, z0, z1, z2, z3, z4, p5, m5, k5, e, Nat.lt_of_lt_of_le hx hb.size, (hb.cell (p := x.add (i * 6)) (by rw [add_block]; exact hx)).trans h0, (k _).trans h1, (k _).trans h2, (k _).trans h3, (k _).trans h4, (k _).trans h5, r⟩
theorem add_pos (x : Addr) (m k : Nat) (hk : k ≠ 0) : x.add (m + k) = ⟨(x.add m).block, (x.add m).off + k, none⟩ := by
  unfold Addr.add
  by_cases h1 : m = 0
  · subst h1; simp [hk]
  · simp [h1, hk, Nat.add_assoc]
theorem cell_lt {w : World} {x : Addr} {v : Value} (h : w.cell? x = some v) : x.block < w.heap.size := by
  rcases Nat.lt_or_ge x.block w.heap.size with h' | h'
  · exact h'
  · simp [World.cell?, Array.getElem?_eq_none h'] at h
theorem actl_of {w : World} {a : Option Addr} {len cap : Nat} (h : (a = none ∧ len = 0) ∨ ∃ x, a = some x ∧ len ≤ cap ∧ cap ≤ maxLen ∧ ∀ i, i < len → ∃ (z0 : Int) (z1 : Int) (z2 : Int) (z3 : Int) (z4 : Int) (p5 : Option Addr) (m5 k5 : Nat), w.cell? (x.add (i * 6 + 0)) = some (.int .i64 z0) ∧ w.cell? (x.add (i * 6 + 1)) = some (.int .i64 z1) ∧ w.cell? (x.add (i * 6 + 2)) = some (.int .i64 z2) ∧ w.cell? (x.add (i * 6 + 3)) = some (.int .u32 z3) ∧ w.cell? (x.add (i * 6 + 4)) = some (.int .u32 z4) ∧ w.cell? (x.add (i * 6 + 5)) = some (.slice p5 m5 k5) ∧ (Lit.int .i64 z0).wf = true ∧ (Lit.int .i64 z1).wf = true ∧ (Lit.int .i64 z2).wf = true ∧ (Lit.int .u32 z3).wf = true ∧ (Lit.int .u32 z4).wf = true ∧ ((p5 = none ∧ m5 = 0) ∨ ∃ y, p5 = some y ∧ m5 ≤ k5 ∧ k5 ≤ maxLen ∧ ∀ i, i < m5 → ∃ z : Int, w.cell? (y.add i) = some (.int .u32 z) ∧ (Lit.int .u32 z).wf = true)) : Actl w a len := fun i hi => by
  rcases h with ⟨_, h⟩ | ⟨x, hx, _, _, h⟩
  · omega
  · obtain ⟨z0, z1, z2, z3, z4, p5, m5, k5, h0, h1, h2, h3, h4, h5, w0, w1, w2, w3, w4, _⟩ := h i hi
    have b3 := Ev.wf_u32 w3
    have b4 := Ev.wf_u32 w4
    have hb := cell_lt h0
    rw [add_block] at hb
    rw [add_pos _ _ _ (by decide)] at h1 h2 h3 h4 h5
    exact ⟨x, z0, z1, z2, z3, z4, p5, m5, k5, hx, hb, h0, h1, h2, h3, h4, h5, b3.1, by omega, b4.1, by omega⟩
/-- two rows of numbers that grow, apart from each other; and blocks of one number -/
structure T2 (w0 : World) (base : Nat) (w : World) (v1 v2 : Value) (l1 l2 : List Int) (src : List (Nat × Int)) : Prop where
  k1 : Ks w base v1 l1
  k2 : Ks w base v2 l2
  ne : ∀ g, v1.ownBlock = some g → v2.ownBlock ≠ some g
  hb : base ≤ w.heap.size
  bl : Below base w0 w
  src : ∀ x ∈ src, w.heap[x.1]? = some (.cells #[.int .u32 x.2] 38 (0, 0)) ∧ v1.ownBlock ≠ some x.1 ∧ v2.ownBlock ≠ some x.1
theorem T2.form1 {w0 : World} {base : Nat} {w : World} {v1 v2 : Value} {l1 l2 : List Int} {src : List (Nat × Int)} (h : T2 w0 base w v1 v2 l1 l2 src) : ∃ q k, v1 = .slice q l1.length k := by
  obtain ⟨q, k, h, _, _⟩ := own_form h.k1
  exact ⟨q, k, h⟩
theorem T2.symm {w0 : World} {base : Nat} {w : World} {v1 v2 : Value} {l1 l2 : List Int} {src : List (Nat × Int)} (h : T2 w0 base w v1 v2 l1 l2 src) : T2 w0 base w v2 v1 l2 l1 src :=
  ⟨h.k2, h.k1, fun g a b => h.ne g b a, h.hb, h.bl, fun x hx => ⟨(h.src x hx).1, (h.src x hx).2.2, (h.src x hx).2.1⟩⟩
theorem T2.form2 {w0 : World} {base : Nat} {w : World} {v1 v2 : Value} {l1 l2 : List Int} {src : List (Nat × Int)} (h : T2 w0 base w v1 v2 l1 l2 src) : ∃ q k, v2 = .slice q l2.length k := h.symm.form1
theorem T2.more {w0 : World} {base : Nat} {w : World} {v1 v2 : Value} {l1 l2 : List Int} {src : List (Nat × Int)} (h : T2 w0 base w v1 v2 l1 l2 src) (z : Int) : T2 w0 base (w.alloc (.cells #[.int .u32 z] 38)) v1 v2 l1 l2 ((w.heap.size, z) :: src) := by
  have hb := box_below w #[.int .u32 z] 38
  refine ⟨ks_below h.k1 hb, ks_below h.k2 hb, h.ne, Nat.le_trans h.hb hb.size, h.bl.alloc h.hb _, fun x hx => ?_⟩
  rcases List.mem_cons.1 hx with rfl | hx
  · refine ⟨(MapKept.heap_alloc w _).1, fun e => ?_, fun e => ?_⟩
    · have := (h.k1.lt _ e).2; omega
    · have := (h.k2.lt _ e).2; omega
  · obtain ⟨a, b, c⟩ := h.src x hx
    exact ⟨(hb.block _ (Array.getElem?_eq_some_iff.1 a).1).trans a, b, c⟩
theorem T2.drew {w0 : World} {base : Nat} {w : World} {v1 v2 : Value} {l1 l2 : List Int} {src : List (Nat × Int)} (h : T2 w0 base w v1 v2 l1 l2 src) : T2 w0 base w.drew v1 v2 l1 l2 src :=
  ⟨ks_below h.k1 (Below.drew (Below.refl _ _)), ks_below h.k2 (Below.drew (Below.refl _ _)), h.ne, h.hb, h.bl.drew, h.src⟩
theorem T2.more2 {w0 : World} {base : Nat} {w : World} {v1 v2 : Value} {l1 l2 : List Int} {src : List (Nat × Int)} (h : T2 w0 base w v1 v2 l1 l2 src) (y z : Int) : T2 w0 base ((w.alloc (.cells #[.int .u32 y] 38)).alloc (.cells #[.int .u32 z] 38)) v1 v2 l1 l2 ((w.heap.size + 1, z) :: (w.heap.size, y) :: src) := by
  have := (h.more y).more z
  rwa [show (w.alloc (.cells #[.int .u32 y] 38)).heap.size = w.heap.size + 1 by simp] at this
theorem T2.clear {w0 : World} {base : Nat} {w : World} {v1 v2 : Value} {l1 l2 : List Int} {src : List (Nat × Int)} (h : T2 w0 base w v1 v2 l1 l2 src) : T2 w0 base w v1 v2 l1 l2 [] := ⟨h.k1, h.k2, h.ne, h.hb, h.bl, fun x hx => by cases hx⟩
theorem step_two1 {w : World} {ops : Array Oper} {o : Oper} {a : Act} {K : Act → World → Prop} {Q : Exit → Act → World → Prop} {E : Prop} (hgd : o.guard = none) (s x : Operand)
    (ho : o.op = .call { callee := .builtin .append, args := #[s, x], argTypes := #[39, 39] })
    (w0 : World) (base : Nat) (v1 v2 : Value) (l1 l2 : List Int) (src : List (Nat × Int)) (g : Nat) (z : Int) (hs : a.eval s = v1) (hx : a.eval x = .slice (some ⟨g, 0, none⟩) 1 1) (hT : T2 w0 base w v1 v2 l1 l2 src) (hg : (g, z) ∈ src) (hn : l1.length ≤ 100000)
    (h : ∀ v' w', T2 w0 base w' v' v2 (l1 ++ [z]) l2 src → Below base w w' → K (a.put o.dst v') w') :
    if Region.wanted o (yielded ops a.tmps) = true then Oper.wp Try.prog o a w K Q else E := by
  have hw : Region.wanted o (yielded ops a.tmps) = true := by simp [Region.wanted, hgd]
  rw [if_pos hw]
  obtain ⟨i0, hi0, hz0, hz1, hz2⟩ := u_parts
  have hu : Try.prog.underlying 39 = some (.slice 38) := by kernel_rfl
  obtain ⟨sg, sn1, sn2⟩ := hT.src _ hg
  obtain ⟨v', w', hr2, h2, h3, _, h5⟩ := run_append_own_at (P := Try.prog) w base 39 o.type _ i0 _ 1 4 hu hi0 hz0 hz1 hz2 rfl (by decide) v1 l1.length (l1.map (Value.int .u32)) hT.k1 ⟨g, 0, none⟩ 1 1 [.int .u32 z] rfl (fun j u hj => by
    match j, hj with
    | 0, hj => simp at hj; subst hj; simp [Addr.add, World.cell?, sg]) (fun u hu => by simp at hu; subst hu; rfl) (by unfold maxLen; omega) (by omega) hT.hb
  have h2' : Ks w' base v' (l1 ++ [z]) := by
    unfold Ks
    rw [List.length_append, List.map_append]
    exact h2
  unfold Oper.wp execOp
  simp only [ho, resolve, invoke, builtin, Sem.run_bind, Sem.run_pure, Result.andThen_ok, List.map_toArray, List.map_cons, List.map_nil, hs, hx, hr2]
  have hb := (Below.refl base w).grown h3 hT.hb fun k hk => (hT.k1.lt k hk).1
  refine h v' w' ⟨h2', ?_, ?_, Nat.le_trans hT.hb hb.size, hT.bl.trans hb, ?_⟩ hb
  · obtain ⟨k0, ⟨hv, hn⟩ | ⟨g', cap, cur, hv, hb', hg', hr⟩⟩ := hT.k2
    · exact ⟨k0, .inl ⟨hv, hn⟩⟩
    · refine ⟨k0, .inr ⟨g', cap, cur, hv, hb', (h3.block g' (Array.getElem?_eq_some_iff.1 hg').1 fun e => ?_).trans hg', hr⟩⟩
      exact hT.ne g' e.symm (by rw [hv]; rfl)
  · intro k e1 e2
    rcases h5 with h5 | h5
    · exact hT.ne k (h5.symm.trans e1) e2
    · rw [h5] at e1
      cases e1
      have := (hT.k2.lt _ e2).2
      omega
  · intro y hy
    obtain ⟨s1, s2, s3⟩ := hT.src y hy
    have hlt := (Array.getElem?_eq_some_iff.1 s1).1
    refine ⟨(h3.block y.1 hlt fun e => s2 e.symm).trans s1, fun e => ?_, s3⟩
    rcases h5 with h5 | h5
    · exact s2 (h5.symm.trans e)
    · rw [h5] at e
      have := Option.some.inj e
      omega
theorem step_two2 {w : World} {ops : Array Oper} {o : Oper} {a : Act} {K : Act → World → Prop} {Q : Exit → Act → World → Prop} {E : Prop} (hgd : o.guard = none) (s x : Operand)
    (ho : o.op = .call { callee := .builtin .append, args := #[s, x], argTypes := #[39, 39] })
    (w0 : World) (base : Nat) (v1 v2 : Value) (l1 l2 : List Int) (src : List (Nat × Int)) (g : Nat) (z : Int) (hs : a.eval s = v2) (hx : a.eval x = .slice (some ⟨g, 0, none⟩) 1 1) (hT : T2 w0 base w v1 v2 l1 l2 src) (hg : (g, z) ∈ src) (hn : l2.length ≤ 100000)
    (h : ∀ v' w', T2 w0 base w' v1 v' l1 (l2 ++ [z]) src → Below base w w' → K (a.put o.dst v') w') :
    if Region.wanted o (yielded ops a.tmps) = true then Oper.wp Try.prog o a w K Q else E :=
  step_two1 hgd s x ho w0 base v2 v1 l2 l1 src g z hs hx hT.symm hg hn fun v' w' hT hb => h v' w' hT.symm hb
theorem ints_range {f : Nat → Nat} (n : Nat) : ints ((List.range (n + 1)).map f) = ints ((List.range n).map f) ++ [((f n : Nat) : Int)] := by
  unfold ints
  rw [List.range_succ]
  simp
set_option maxRecDepth 100000 in
set_option maxHeartbeats 4000000 in
theorem lholds_any {W : World} {nodes heads tn : Int} {pa : Option Addr} {m ca : Nat} (hA : Actl W pa m) (ht : 0 ≤ tn ∧ tn < 256) (hk : Kn W) :
    Calls Try.prog 7 #[.int .i64 nodes, .int .i64 heads, .slice pa m ca, .int .u8 tn] W fun e w' => e = .returned (.bool true) ∧ Below W.heap.size W w' := by
  have HK := Lib.hid hk
  have HA := Lib.hid hA
  clear hk hA
  by_cases hbad : nodes < 1 ∨ 60 < nodes ∨ heads < 1 ∨ 8 < heads ∨ 30 < (m : Int)
  · go_enter Try.func7, Try.ntmps7
    have HB := Lib.hid hbad
    clear hbad
    by_cases g1 : nodes < 1
    all_goals by_cases g2 : 60 < nodes
    all_goals by_cases g3 : heads < 1
    all_goals by_cases g4 : 8 < heads
    all_goals by_cases g5 : 30 < (m : Int)
    all_goals first
      | (exfalso; have := HB.out; omega)
      | (go_wp2_with fail
         refine (HK.out _ (Below.refl _ _)).mono ?_
         rintro e w1 ⟨rfl, b1⟩
         have B1 := Lib.hid b1
         clear b1
         go_wp2_with fail
         go_ret
         exact ⟨rfl, B1.out⟩)
  · obtain ⟨N, rfl⟩ : ∃ N : Nat, nodes = (N : Int) := ⟨nodes.toNat, by omega⟩
    obtain ⟨H, rfl⟩ : ∃ H : Nat, heads = (H : Int) := ⟨heads.toNat, by omega⟩
    have c1 : ¬ (N : Int) < 1 := by omega
    have c2 : ¬ (60 : Int) < (N : Int) := by omega
    have c3 : ¬ (H : Int) < 1 := by omega
    have c4 : ¬ (8 : Int) < (H : Int) := by omega
    have c5 : ¬ (30 : Int) < (m : Int) := by omega
    clear hbad
    have HNW := Lib.hid (fun v : World => New_ok N H v (by omega) (by omega) (by omega) (by omega))
    go_enter Try.func7, Try.ntmps7
    go_wp2_with fail
    refine (HNW.out _).mono ?_
    rintro e v1 ⟨⟨c, q, r, F, rfl, lo, cc1, cq1, cr1⟩, b1⟩
    have B1 := Lib.hid b1
    have L1 := Lib.hid (⟨F, _, lo, List.length_replicate ..⟩ : ∃ F Ls, Lo v1 c q r (N + H) H N F Ls ∧ Ls.length = H)
    have HC := Lib.hid (⟨cc1, cq1, cr1⟩ : W.heap.size ≤ c ∧ W.heap.size ≤ q ∧ W.heap.size ≤ r)
    clear lo b1 cc1 cq1 cr1
    go_wp2_with fail
    go_loopw [11] (fun iv wr => ∃ i : Nat, i ≤ m ∧ iv = .int .i64 (i : Int) ∧ (∃ F Ls, Lo wr c q r (N + H) H N F Ls ∧ Ls.length = H) ∧ Below W.heap.size W wr) (fun iv _ => m - (intOf iv).toNat)
    case atStart => exact ⟨0, by omega, rfl, L1.out, B1.out⟩
    case round =>
      obtain ⟨i, hi, rfl, ⟨F, Ls, lo, hls⟩, b0⟩ := hrel
      have B0 := Lib.hid b0
      have L0 := Lib.hid lo
      have HLS := Lib.hid hls
      clear b0 lo hls
      by_cases hie : i = m
      · subst hie
        go_wp2_with fail
        obtain ⟨tk, htk⟩ : ∃ tk : Nat, tn % (N : Int) = (tk : Int) := ⟨(tn % (N : Int)).toNat, by have := Int.emod_nonneg tn (show (N : Int) ≠ 0 by omega); omega⟩
        have htl : tk < N := by have := Int.emod_lt_of_pos tn (show (0 : Int) < (N : Int) by omega); omega
        rw [htk]
        clear ht htk
        go_loopw [13, 14, 16] (fun tv bv nv wr2 => ∃ n : Nat, n ≤ N ∧ nv = .int .i64 (n : Int) ∧ T2 wr wr.heap.size wr2 tv bv (ints ((List.range n).map fun n => (n + tk) % N)) (ints ((List.range n).map fun n => (n + N - tk) % N)) []) (fun _ _ nv _ => N - (intOf nv).toNat)
        case atStart => exact ⟨0, by omega, rfl, ⟨World.ownsRow_nil _ _ _ _, World.ownsRow_nil _ _ _ _, by simp [Value.ownBlock], Nat.le_refl _, Below.refl _ _, by simp⟩⟩
        case round =>
          obtain ⟨n, hn, rfl, t2⟩ := hrel
          have TT := Lib.hid t2
          by_cases hne : n = N
          · subst hne
            obtain ⟨q1, k1, rfl⟩ := t2.form1
            obtain ⟨q2, k2, rfl⟩ := t2.form2
            clear t2
            have hl1 : (ints (List.map (fun n' => (n' + tk) % n) (List.range n))).length = n := by rw [ints_len]; simp
            have hl2 : (ints (List.map (fun n' => (n' + n - tk) % n) (List.range n))).length = n := by rw [ints_len]; simp
            rw [hl1, hl2] at TT ⊢
            have lc := L0.out.below TT.out.bl
            have hcop := Copy_any lc
            have HCOP := Lib.hid hcop
            have LC := Lib.hid lc
            obtain ⟨pa', ca', ea, rua⟩ := ks_ru TT.out.k1
            obtain ⟨pb', cb', eb, rub⟩ := ks_ru TT.out.k2
            rw [hl1] at ea
            rw [hl2] at eb
            cases ea
            cases eb
            have HQ1 := Lib.hid (fun (y : Addr) (e : q1 = some y) => (TT.out.k1.lt y.block (by rw [e]; rfl)).1)
            have HQ2 := Lib.hid (fun (y : Addr) (e : q2 = some y) => (TT.out.k2.lt y.block (by rw [e]; rfl)).1)
            have HCW := Lib.hid L0.out.lt.1
            have BL := Lib.hid TT.out.bl
            have HF := Lib.hid L0.out.ring.flat
            obtain ⟨Ta, hTa⟩ : ∃ Ta, List.map (fun n' => (n' + tk) % n) (List.range n) = Ta := ⟨_, rfl⟩
            obtain ⟨Tb, hTb⟩ : ∃ Tb, List.map (fun n' => (n' + n - tk) % n) (List.range n) = Tb := ⟨_, rfl⟩
            have ha : ∀ x, x < n → Ta[x]?.getD 0 = (x + tk) % n := fun x hx => by rw [← hTa]; simp [hx]
            have hb : ∀ x, x < n → Tb[x]?.getD 0 = (x + n - tk) % n := fun x hx => by rw [← hTb]; simp [hx]
            have hTl : Ta.length = n ∧ Tb.length = n := by rw [← hTa, ← hTb]; simp
            have hn0 : 0 < n := by omega
            have hTw : (∀ x ∈ Ta, x < 4294967296) ∧ (∀ x ∈ Tb, x < 4294967296) := by
              constructor
              · intro x hx
                rw [← hTa] at hx
                obtain ⟨y, _, rfl⟩ := List.mem_map.1 hx
                have := Nat.mod_lt (y + tk) hn0; omega
              · intro x hx
                rw [← hTb] at hx
                obtain ⟨y, _, rfl⟩ := List.mem_map.1 hx
                have := Nat.mod_lt (y + n - tk) hn0; omega
            rw [hTa] at rua
            rw [hTb] at rub
            have RUA := Lib.hid rua
            have RUB := Lib.hid rub
            clear TT rua rub
            obtain ⟨tu1, tu2⟩ := turned htl Ls HF.out.2.1 HF.out.1 ha hb
            have TU1 := Lib.hid tu1
            have TU2 := Lib.hid tu2
            have HTL := Lib.hid hTl
            have HTW := Lib.hid hTw
            obtain ⟨Zs, hZs⟩ : ∃ Zs, Ls.map (List.map fun n' => Ta[n']?.getD 0) = Zs := ⟨_, rfl⟩
            have hZl : Zs.length = H := by rw [← hZs]; simpa using HLS.out
            rw [hZs] at TU1 TU2
            have HZL := Lib.hid hZl
            have HOB := Lib.hid lc.lt
            clear hcop lc tu1 tu2 hTl hTw hZs hZl ha hb hTa hTb hl1 hl2 L0 L1 HF
            go_wp2_with fail
            refine HCOP.out.mono ?_
            rintro e u1 ⟨⟨c', q', r', cq', cr', rfl, lo', hc', hq', hr'⟩, bu1⟩
            have RNA := Lib.hid (Renumber_by (ct := k1) (LC.out.below bu1) HTL.out.1 (RUA.out.below bu1) HTW.out.1 (show 1 ≤ n by omega) (show n ≤ 4194304 by omega))
            rw [TU1.out] at RNA
            unfold RnR at RNA
            have RUB1 := Lib.hid (RUB.out.below bu1)
            have LO1 := Lib.hid lo'
            have HC1 := Lib.hid (⟨by have := HOB.out; omega, by have := HOB.out; omega, by have := HOB.out; omega⟩ : c ≠ c' ∧ c ≠ q' ∧ c ≠ r')
            have BU1 := Lib.hid ((tr B0.out BL.out).trans (bu1.mono (tr B0.out BL.out).size))
            clear bu1 lo' hc' hq' hr'
            go_wp2_with fail
            refine RNA.out.mono ?_
            rintro e u2 ⟨rfl, ⟨q3, r3, cq3, cr3, F3, lo3, hq3, hr3⟩, kp2⟩
            have LO3 := Lib.hid lo3
            have LO2 := Lib.hid (LO1.out.kp kp2 fun k hk e => by have := HC1.out; subst e; rcases hk with h | h | h <;> omega)
            have RUB2 := Lib.hid (RUB1.out.kp kp2 fun y hy e => by have := HQ2.out y hy; have := HCW.out; omega)
            have BU2 := Lib.hid (BU1.out.trans (kp2.below (n := W.heap.size) (fun k hk e => by have := HC.out; omega) BU1.out.size))
            have SND := Lib.hid (sound_any lo3 (by omega) HZL.out)
            clear lo3 kp2 hq3 hr3
            go_wp2_with fail
            refine SND.out.mono ?_
            rintro e u3 ⟨rfl, b3⟩
            have RNB := Lib.hid (Renumber_by (ct := k2) (LO3.out.below b3) HTL.out.2 (RUB2.out.below b3) HTW.out.2 (show 1 ≤ n by omega) (show n ≤ 4194304 by omega))
            rw [TU2.out] at RNB
            unfold RnR at RNB
            have LO2b := Lib.hid (LO2.out.below b3)
            have BU3 := Lib.hid (tr BU2.out b3)
            clear b3
            go_wp2_with fail
            refine RNB.out.mono ?_
            rintro e u4 ⟨rfl, ⟨q4, r4, cq4, cr4, F4, lo4, hq4, hr4⟩, kp4⟩
            have LO4 := Lib.hid lo4
            have LO5 := Lib.hid (LO2b.out.kp kp4 fun k hk e => by have := HC1.out; subst e; rcases hk with h | h | h <;> omega)
            have BU4 := Lib.hid (BU3.out.trans (kp4.below (n := W.heap.size) (fun k hk e => by have := HC.out; omega) BU3.out.size))
            clear lo4 kp4 hq4 hr4 RNA RNB SND LO1 LO2 LO2b LO3 RUA RUB RUB1 RUB2 TU1 TU2 HTL HTW HCOP
            go_wp2_with fail
            go_loopw [18] (fun hv wr => ∃ h : Nat, h ≤ H ∧ hv = .int .i64 (h : Int) ∧ Below u4.heap.size u4 wr) (fun hv _ => H - (intOf hv).toNat)
            case atStart => exact ⟨0, by omega, rfl, Below.refl _ _⟩
            case round =>
              rename_i wr3 _
              obtain ⟨h, hh, rfl, b5⟩ := hrel
              have B5 := Lib.hid b5
              clear b5
              by_cases hhe : h = H
              · subst hhe
                go_wp2_with fail
                refine (HK.out _ (tr BU4.out B5.out)).mono ?_
                rintro e u6 ⟨rfl, b6⟩
                have B6 := Lib.hid (tr (tr BU4.out B5.out) b6)
                clear b6
                go_wp2_with fail
                go_ret
                exact ⟨rfl, B6.out⟩
              · have hhl : (h : Int) < (H : Int) := by omega
                have wh := IntWalk.i64_in ((h : Int) + 1) (by omega)
                obtain ⟨l, hl⟩ : ∃ l, Ls[h]? = some l := ⟨Ls[h]'(by rw [HLS.out]; omega), List.getElem?_eq_getElem _⟩
                have CA := Lib.hid (fun (v : World) (hb : Below u4.heap.size u4 v) => collect_ok (LO4.out.below hb) (show n ≤ 5000 by omega) hl)
                have CB := Lib.hid (fun (v : World) (hb : Below u4.heap.size u4 v) => collect_ok (LO5.out.below hb) (show n ≤ 5000 by omega) hl)
                have hfew := LO4.out.few hl
                obtain ⟨m, hm⟩ : ∃ m, l.length = m := ⟨_, rfl⟩
                have HM := Lib.hid hm
                rw [hm] at hfew
                clear hm hl
                go_wp2_with fail
                refine (CA.out _ B5.out).mono ?_
                rintro e w5 ⟨kl, b5⟩
                obtain ⟨pA, kA, rfl, ruA, _, _, _⟩ := kl_out kl HM.out
                have B6 := Lib.hid (tr B5.out b5)
                have RUA := Lib.hid ruA
                clear kl b5 ruA
                go_wp2_with fail
                refine (CB.out _ B6.out).mono ?_
                rintro e w6 ⟨kl, b6⟩
                obtain ⟨pB, kB, rfl, ruB, _, _, _⟩ := kl_out kl HM.out
                have B7 := Lib.hid (tr B6.out b6)
                have SAM := Lib.hid (fsame_any (c1 := kA) (c2 := kB) (show (ints l).length = m by rw [ints_len, HM.out]) (show (ints l).length = m by rw [ints_len, HM.out]) (RUA.out.below b6) ruB (by omega) (by omega))
                clear kl b6 ruB
                go_wp2_with fail
                refine SAM.out.mono ?_
                rintro e w7 ⟨⟨v, rfl, hv⟩, b7⟩
                obtain rfl : v = true := hv.2 trivial
                have B8 := Lib.hid (tr B7.out b7)
                clear b7 hv
                go_wp2_with fail
                go_roundw
                case rel => exact ⟨h + 1, by omega, by go_num, B8.out⟩
                case measure => simp [intOf]; omega
          · have hnl : (n : Int) < (N : Int) := by omega
            obtain ⟨q1, k1, rfl⟩ := t2.form1
            obtain ⟨q2, k2, rfl⟩ := t2.form2
            clear t2
            have wa := IntWalk.i64_in ((n : Int) + (tk : Int)) (by omega)
            have wb := IntWalk.i64_in ((n : Int) + (N : Int)) (by omega)
            have wc := IntWalk.i64_in ((n : Int) + (N : Int) - (tk : Int)) (by omega)
            have wi := IntWalk.i64_in ((n : Int) + 1) (by omega)
            have n3 : ¬ N = 0 := by omega
            have n0 : ¬ (N : Int) = 0 := by omega
            have n1 : ((N : Int) == 0) = false := by rw [beq_eq_false_iff_ne]; omega
            have n2 : (0 : Int) < (N : Int) := by omega
            have ra : ((n : Int) + (tk : Int)).tmod (N : Int) = (((n + tk) % N : Nat) : Int) := by rw [Int.tmod_eq_emod_of_nonneg (by omega)]; simp
            have rb : ((n : Int) + (N : Int) - (tk : Int)).tmod (N : Int) = (((n + N - tk) % N : Nat) : Int) := by rw [Int.tmod_eq_emod_of_nonneg (by omega), show (n : Int) + (N : Int) - (tk : Int) = ((n + N - tk : Nat) : Int) by omega]; simp
            have ua := IntWalk.u32_in (((n + tk) % N : Nat) : Int) (by have := Nat.mod_lt (n + tk) (show 0 < N by omega); omega)
            have ub := IntWalk.u32_in (((n + N - tk) % N : Nat) : Int) (by have := Nat.mod_lt (n + N - tk) (show 0 < N by omega); omega)
            have va := IntWalk.i64_in (((n + tk) % N : Nat) : Int) (by have := Nat.mod_lt (n + tk) (show 0 < N by omega); omega)
            have vb := IntWalk.i64_in (((n + N - tk) % N : Nat) : Int) (by have := Nat.mod_lt (n + N - tk) (show 0 < N by omega); omega)
            have HXA := Lib.hid (ints_range (f := fun n => (n + tk) % N) n)
            have HXB := Lib.hid (ints_range (f := fun n => (n + N - tk) % N) n)
            obtain ⟨xa, hxa⟩ : ∃ xa, (n + tk) % N = xa := ⟨_, rfl⟩
            obtain ⟨xb, hxb⟩ : ∃ xb, (n + N - tk) % N = xb := ⟨_, rfl⟩
            rw [hxa] at ra ua va HXA
            rw [hxb] at rb ub vb HXB
            clear hxa hxb
            have hl1 : (ints (List.map (fun n => (n + tk) % N) (List.range n))).length ≤ 100000 := by rw [ints_len]; simp; omega
            have hl2 : (ints (List.map (fun n => (n + N - tk) % N) (List.range n))).length ≤ 100000 := by rw [ints_len]; simp; omega
            generalize ints (List.map (fun n => (n + tk) % N) (List.range n)) = ia at *
            generalize ints (List.map (fun n => (n + N - tk) % N) (List.range n)) = ib at *
            have HA1 := Lib.hid (TT.out.more (xa : Int)).drew
            have HB1 := Lib.hid (TT.out.more (xb : Int)).drew
            have HAB := Lib.hid (TT.out.more2 (xa : Int) (xb : Int)).drew
            have HBA := Lib.hid (TT.out.more2 (xb : Int) (xa : Int)).drew
            go_wp2_with fail
            go_region_law (first
              | (refine step_two1 rfl (.tmp 115) (.tmp 122) rfl _ _ _ _ _ _ _ _ _ rfl rfl (by first | exact HA1.out | exact HAB.out | exact HBA.out | exact HT2.out | exact HT2.out.more _) (by first | exact .head _ | exact .tail _ (.head _)) (by assumption) ?_; intro v' w' hT1 hB1; have HT1 := Lib.hid hT1)
              | (refine step_two2 rfl (.tmp 124) (.tmp 133) rfl _ _ _ _ _ _ _ _ _ rfl rfl (by first | exact HB1.out | exact HAB.out | exact HBA.out | exact HT1.out | exact HT1.out.more _) (by first | exact .head _ | exact .tail _ (.head _)) (by assumption) ?_; intro v'' w'' hT2 hB2; have HT2 := Lib.hid hT2))
            all_goals (
              go_wp2_with fail
              go_roundw
              case rel => exact ⟨n + 1, by omega, by go_num, by rw [HXA.out, HXB.out]; first | exact HT2.out.clear | exact HT1.out.clear⟩
              case measure => simp [intOf]; omega)
      · have hil : (i : Int) < (m : Int) := by omega
        have i0 : (0 : Int) ≤ (i : Int) := by omega
        have wi1 := IntWalk.i64_in ((i : Int) + 1) (by omega)
        obtain ⟨x, z0, z1, z2, z3, z4, p5, m5, k5, rfl, hxb, e0, e1, e2, e3, e4, e5, r0, r1, r2, r3⟩ := (HA.out.below B0.out) i (by omega)
        have bx := box_below wr #[.int .i64 z0, .int .i64 z1, .int .i64 z2, .int .u32 z3, .int .u32 z4, .slice p5 m5 k5] 41
        have B2 := Lib.hid (tr B0.out bx)
        have l2 := L0.out.below bx
        have L3 := Lib.hid (⟨F, Ls, l2, HLS.out⟩ : ∃ F Ls, Lo (wr.alloc (.cells #[.int .i64 z0, .int .i64 z1, .int .i64 z2, .int .u32 z3, .int .u32 z4, .slice p5 m5 k5] 41)) c q r (N + H) H N F Ls ∧ Ls.length = H)
        have HFR := Lib.hid (front_wa l2 HLS.out (h := z1) r0 r1)
        have HBA := Lib.hid (back_wa l2 HLS.out (h := z1) r0 r1)
        have HBF := Lib.hid (before_wa l2 HLS.out r0 r1 r2 r3)
        have HRM := Lib.hid (remove_wk l2 HLS.out r0 r1)
        have HJO := Lib.hid (join_wa l2 HLS.out (a := z1) (b := z2))
        have KB := Lib.hid (fun (v v' : World) (k : Kp (Ob c q r) v v') (b : Below W.heap.size W v) => (b.trans (k.below (n := W.heap.size) (fun k hk hb => by have := HC.out; rcases hb with rfl | rfl | rfl <;> omega) b.size) : Below W.heap.size W v'))
        have SND := Lib.hid (fun (v : World) (h : ∃ F Ls, Lo v c q r (N + H) H N F Ls ∧ Ls.length = H) => (show Calls Try.prog 34 #[.pointer (some ⟨c, 0, none⟩), .int .i64 (N : Int), .int .i64 (H : Int)] v fun e w' => e = .returned (.bool true) ∧ (∃ F Ls, Lo w' c q r (N + H) H N F Ls ∧ Ls.length = H) ∧ Below v.heap.size v w' from by
          obtain ⟨F, Ls, h1, h2⟩ := h
          exact (sound_any h1 (by omega) h2).mono fun e w' h => ⟨h.1, ⟨F, Ls, h1.below h.2, h2⟩, h.2⟩))
        clear bx l2 r0 r1 r2 r3
        go_wp2_with (first
          | (go_at_call 25; refine HFR.out.mono ?_; rintro e v4 ⟨⟨code, rfl⟩, l4, k4⟩; have L4 := Lib.hid l4; have B4 := Lib.hid (KB.out _ _ k4 B2.out); clear l4 k4)
          | (go_at_call 22; refine HBA.out.mono ?_; rintro e v4 ⟨⟨code, rfl⟩, l4, k4⟩; have L4 := Lib.hid l4; have B4 := Lib.hid (KB.out _ _ k4 B2.out); clear l4 k4)
          | (go_at_call 32; refine HBF.out.mono ?_; rintro e v4 ⟨⟨code, rfl⟩, l4, k4⟩; have L4 := Lib.hid l4; have B4 := Lib.hid (KB.out _ _ k4 B2.out); clear l4 k4)
          | (go_at_call 24; refine HRM.out.mono ?_; rintro e v4 ⟨⟨code, rfl⟩, l4, k4⟩; have L4 := Lib.hid l4; have B4 := Lib.hid (KB.out _ _ k4 B2.out); clear l4 k4)
          | (go_at_call 33; refine HJO.out.mono ?_; rintro e v4 ⟨⟨code, rfl⟩, l4, k4⟩; have L4 := Lib.hid l4; have B4 := Lib.hid (KB.out _ _ k4 B2.out); clear l4 k4)
          | (go_at_call 34; first | (refine (SND.out _ L4.out).mono ?_; rintro e v5 ⟨rfl, l5, b5⟩; have L5 := Lib.hid l5; have B5 := Lib.hid (tr B4.out b5); clear l5 b5) | (refine (SND.out _ L3.out).mono ?_; rintro e v5 ⟨rfl, l5, b5⟩; have L5 := Lib.hid l5; have B5 := Lib.hid (tr B2.out b5); clear l5 b5))
          | fail)
        all_goals (
          go_roundw
          case rel => exact ⟨i + 1, by omega, by go_num, L5.out, B5.out⟩
          case measure => simp [intOf]; omega)
end Go.Proofs.Ytajkcockeccdoaa.Lnk
