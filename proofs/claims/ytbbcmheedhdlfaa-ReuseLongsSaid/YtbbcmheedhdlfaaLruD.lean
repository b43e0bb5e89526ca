/-
  Plain LRU lists (layer 15): the slots in order.
-/
import Derived.Test.YtbbcmheedhdlfaaLruC
import Derived.Test.YtbbcmheedhdlfaaLnkS
set_option linter.unusedVariables false
set_option linter.unusedSimpArgs false
namespace Go.Proofs.Ytbbcmheedhdlfaa.Lru
open Go Go.RowKit Kit Go.Shelf Lnk
attribute [local go_sem] Oper.semAt_some
set_option maxRecDepth 100000 in
theorem All15_any {w : World} {o c q r cq cr N : Nat} {F : Lnk.Fd} {l : List Nat} (H : Lu w o c q r cq cr N F l) :
    Calls Try.prog 31 #[.pointer (some ⟨o, 0, none⟩)] w fun e w' => It e w' w.heap.size (ints l) ∧ Below w.heap.size w w' := by
  have HZ := Lib.hid (isZero_any H)
  have HA := Lib.hid (All_any H.lo (h := 0) rfl)
  have c0 := H.cell
  clear H
  go_enter Try.func31, Try.ntmps31
  go_wp2_with fail
  refine HZ.out.mono ?_
  rintro e w1 ⟨rfl, rfl⟩
  go_wp2_with fail
  refine HA.out.mono ?_
  rintro e w1 ⟨⟨g, p, cp, rfl, hit⟩, b1⟩
  have B1 := Lib.hid b1
  have HIT := Lib.hid hit
  clear b1 hit
  go_wp2_with fail
  go_ret
  exact ⟨⟨g, p, cp, rfl, HIT.out⟩, B1.out⟩
set_option maxRecDepth 100000 in
set_option maxHeartbeats 2000000 in
theorem collect15_any {w : World} {c : Nat} {xs : List Int} (hlen : xs.length ≤ 5000)
    (hA : ∀ W, Below w.heap.size w W → Calls Try.prog 31 #[.pointer (some ⟨c, 0, none⟩)] W fun e w' => It e w' W.heap.size xs ∧ Below W.heap.size W w') :
    Calls Try.prog 79 #[.pointer (some ⟨c, 0, none⟩)] w fun e w' => Kl e w' w.heap.size xs ∧ Below w.heap.size w w' := by
  have HA := Lib.hid hA
  clear hA
  obtain ⟨i0, hi, hz0, hz1, hz2⟩ := u_parts
  refine (callsIn_wide (n := 6)).1 ?_
  refine callsIn_of_wp_marks Try.func79 rfl trivial ?_ rfl
  simp only [Try.ntmps79, List.size_toArray, List.length_cons, List.length_nil, Nat.reduceAdd, Nat.reduceSub, Array.replicate_succ, Array.replicate_zero, List.push_toArray, List.append_toArray, List.nil_append, List.cons_append]
  have hnil := fun (wx : World) (ts lb : Array Value) => run_eql_func_nil (P := Try.prog) wx 47 _ _ _ (.func 76) ts lb Try.underlying47
  gi_wp2
  have B0 := Lib.hid (box_below w #[.slice none 0 0] 39)
  have hw0 : w.heap.size < (w.alloc (.cells #[.slice none 0 0] 39)).heap.size := by simp
  have bO := Lib.hid (Boxed.new w 39 (.slice none 0 0))
  obtain ⟨V, hV⟩ : ∃ V, w.alloc (.cells #[.slice none 0 0] 39) = V := ⟨_, rfl⟩
  rw [hV] at B0 hw0 bO ⊢
  clear hV
  refine ⟨trivial, ?_⟩
  refine (callsIn_wide.2 (HA.out _ B0.out)).mono ?_
  rintro e V1 ⟨⟨g, p, cp, rfl, hg1, hg2, hcg, hru, hpf⟩, b1⟩
  have bO1 : Boxed V1 w.heap.size 39 (.slice none 0 0) := (b1.block _ hw0).trans bO.out
  have hw1 : w.heap.size < V1.heap.size := Nat.lt_of_lt_of_le hw0 b1.size
  have B1 := Lib.hid (tr B0.out b1)
  have hgw : w.heap.size < g := by omega
  have hb0 : Below w.heap.size w V1 := B1.out
  clear b1
  gi_wp2
  refine' wpIn_rangeFunc_ownF (encs := fun x : Int => #[.int .u32 x]) (Kp := fun A B => Mid (w.heap.size + 1) V1.heap.size A B ∧ A.heap.size ≤ B.heap.size) (S := fun ys => ys = xs) (Sp := fun pre => pre <+: xs) (N := xs.length) rfl (by decide) (gf := 76) (lb := #[.pointer (some ⟨g, 0, none⟩)]) rfl trivial (enters_of Try.func76 (by kernel_rfl) rfl)
    (w0 := V1)
    (fun l J Jx W hW _ _ hY h0 => allseq_in (fun A B => Mid (w.heap.size + 1) V1.heap.size A B ∧ A.heap.size ≤ B.heap.size) l g p cp xs (by omega) J Jx
      (fun W1 W2 hh r => hh.1.ru (fun y hy => by have := hpf y hy; omega) (fun i x hx y hy => by obtain ⟨y', hy', h1, -⟩ := hru i x hx; rw [hy] at hy'; cases hy'; exact h1) (.inl hh.2) r)
      hY W ((hW.cell (p := ⟨g, 0, none⟩) hg2).trans hcg) (hru.below hW) h0)
    (fun h k => ⟨h.1.trans k.1, Nat.le_trans h.2 k.2⟩) (fun W l o o' h1 h2 h3 h4 => ⟨Mid.putObj (Nat.le_refl _) W l o o' h1 h2 h3 h4, by simp [World.putObj]⟩) (Below.refl _ _) (fun _ => rfl)
    (fun pre W => (∃ v, Boxed W w.heap.size 39 v ∧ W.ownsRow V1.heap.size 38 1 v pre.length (pre.map (Value.int .u32)) ∧ True) ∧ Below w.heap.size V1 W)
    (fun _ _ _ => False)
    (OwnFrom.and (Own.from (holdsRow_own V1.heap.size w.heap.size 39 38 1 (fun pre : List Int => pre.length) (fun pre : List Int => pre.map (Value.int .u32)) (fun _ _ => True)) _) (ownFrom_below (by omega) (by omega)))
    (fun _ _ _ _ _ hs _ _ => hs)
    ⟨⟨_, bO1, World.ownsRow_nil _ _ _ _, trivial⟩, Below.refl _ _⟩
    _ ?assign ?body ?done ?stop
  case assign =>
    intro l x W K hK
    gi_wp2
    exact hK
  case body =>
    rintro l pre x W ⟨⟨v, hv, hrow, _⟩, hB⟩ hlt
    have hcc := hv.cell
    have hpl : pre.length < xs.length := hlt
    have hmore : ((pre.length + 1 : Nat) : Int) ≤ 5000 := by omega
    obtain ⟨va, vc, rfl⟩ : ∃ a c, v = .slice a pre.length c := by
      rcases own_cases hrow with ⟨rfl, rfl⟩ | ⟨g', cap', rfl, _⟩
      · exact ⟨none, 0, rfl⟩
      · exact ⟨_, _, rfl⟩
    gi_wp2_with (gi_at_builtin; refine wpListIn_append_own _ rfl _ _ 39 rfl V1.heap.size 38 i0 (.int .u32 0) 1 4 Try.underlying39 hi hz0 hz1 hz2 rfl (by decide) _ _ _ rfl (hrow.alloc _) ⟨W.heap.size, 0, none⟩ 1 1 [.int .u32 x] rfl rfl (cell_one_new _ _ _) (by simp [Value.oneCell']) (by unfold maxLen; omega) (by omega) (by have := hB.size; simp; omega) ?_; intro v' w1 hown' hgrow _; obtain ⟨g', cap', rfl⟩ := ownsRow_succ hown'; obtain ⟨hv1, hv2, hr2, hk2, hb2, hm2⟩ := appended2 hv (by decide) hrow (by have := hB.size; omega) (by omega) hown' hgrow; have hc1 := hv1.cell; have hf1 := hv1.frozen)
    exact ⟨hk2, ⟨hm2, hb2.size⟩, ⟨_, hv2, by simpa using hr2, trivial⟩, hB.trans hb2⟩
  case done =>
    rintro D ys W hD rfl ⟨⟨v, hv, hrow, _⟩, hB⟩ hK
    have hcc := hv.cell
    gi_wp2
    have hd2 : w.heap.size ≤ D := by omega
    refine ⟨by simp, .inl ⟨_, _, rfl, run_takeDeferred hK, ?_⟩⟩
    refine ⟨v, by simp [results, Try.results79, go_sem], ⟨v, rfl, ?_⟩, (hb0.trans hB).trans (belowK_b (w := w) (Nat.le_refl _) W D _ _ hd2 hK rfl rfl)⟩
    unfold Ks
    exact own_lift (ownsRow_putObj hrow _ hK rfl) (Nat.le_of_lt hw1)
  case stop =>
    rintro D c pre W _ _ h _
    exact h.elim
theorem collect_lu {w : World} {o c q r cq cr N : Nat} {F : Lnk.Fd} {l : List Nat} (H : Lu w o c q r cq cr N F l) (hl : l.length ≤ 5000) :
    Calls Try.prog 79 #[.pointer (some ⟨o, 0, none⟩)] w fun e w' => Kl e w' w.heap.size (ints l) ∧ Below w.heap.size w w' :=
  collect15_any (by rw [ints_len]; exact hl) fun W hb => All15_any (H.below hb)
set_option maxRecDepth 100000 in
theorem same15_any {w : World} {p1 p2 : Option Addr} {n1 n2 c1 c2 : Nat} {l1 l2 : List Int} (h1 : l1.length = n1) (h2 : l2.length = n2) (r1 : Ru w p1 l1) (r2 : Ru w p2 l2) (hn1 : n1 ≤ 1000000) (hn2 : n2 ≤ 1000000) :
    Calls Try.prog 78 #[.slice p1 n1 c1, .slice p2 n2 c2] w fun e w' => Says e (l1 = l2) ∧ Below w.heap.size w w' := by
  have HS := Lib.hid (fsame_any (c1 := c1) (c2 := c2) h1 h2 r1 r2 hn1 hn2)
  clear h1 h2 r1 r2 hn1 hn2
  go_enter Try.func78, Try.ntmps78
  go_wp2_with fail
  refine HS.out.mono ?_
  rintro e w1 ⟨⟨v, rfl, hv⟩, b1⟩
  have B1 := Lib.hid b1
  have HV := Lib.hid hv
  clear b1 hv
  go_wp2_with fail
  go_ret
  exact ⟨⟨v, rfl, HV.out⟩, B1.out⟩
end Go.Proofs.Ytbbcmheedhdlfaa.Lru
