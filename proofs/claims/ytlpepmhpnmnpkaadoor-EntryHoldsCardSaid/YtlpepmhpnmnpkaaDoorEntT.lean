/-
  EntryTexts (layer 4): bytes as digits.
-/
import Derived.Test.YtlpepmhpnmnpkaaDoorEntL
import Derived.Lib.AppendStr
import Derived.Deep.RegionLaw
set_option linter.unusedVariables false
set_option linter.unusedSimpArgs false
namespace Go.Proofs.YtlpepmhpnmnpkaaDoor.Ent
open Go Go.RowKit Kit
/-- 'v = append(v, y, z)', y and z of one cell: v owns its row from block base on -/
theorem wpList_app2 {P : Program} {w : World} {ops : Array Oper} {rest : List Oper} {o : Oper} {a : Act} {Q : Exit → Act → World → Prop} (hgd : o.guard = none) (s x : Operand) (t : TypeId)
    (ho : o.op = .call { callee := .builtin .append, args := #[s, x], argTypes := #[t, t] })
    (base : Nat) (e : TypeId) (i : TypeInfo) (z : Value) (bytes : Nat) (ht : P.underlying t = some (.slice e)) (hi : P.info? e = some i) (hz : i.zero = some z)
    (hsize : i.size = 1) (hby : i.bytes = bytes) (hzs : z.cells.size = 1)
    (v : Value) (n : Nat) (xs : List Value) (y y2 : Value) (hs : a.eval s = v) (hown : w.ownsRow base e 1 v n xs)
    (hx : a.eval x = .slice (some ⟨w.heap.size, 0, none⟩) 2 2) (h1 : y.oneCell' = true) (h2 : y2.oneCell' = true)
    (hn : n + 2 ≤ 1073741824) (hbytes : bytes ≤ 100000) (hbase : base ≤ w.heap.size)
    (h : ∀ v' w', w'.ownsRow base e 1 v' (n + 2) (xs ++ [y, y2]) → Below base w w' → w.heap.size < w'.heap.size → wpList P ops Q rest (a.put o.dst v') w') :
    wpList P ops Q (o :: rest) a (w.alloc (.cells #[y, y2] e)) := by
  have hlt := hown.lt
  refine wpList_append_own _ hgd s x t ho base e i z 1 bytes ht hi hz hsize hby hzs (by decide) v n xs hs (hown.alloc _) ⟨w.heap.size, 0, none⟩ 2 2 [y, y2] hx rfl ?_ ?_ ?_ ?_ ?_ ?_
  · intro j u hj
    match j, hj with
    | 0, hj => simp at hj; subst hj; simp [Addr.add]
    | 1, hj => simp at hj; subst hj; simp [Addr.add]
  · intro u hu
    simp at hu
    rcases hu with rfl | rfl
    · exact h1
    · exact h2
  · unfold maxLen; omega
  · have : (n + 2) * bytes ≤ 1073741824 * 100000 := Nat.mul_le_mul hn hbytes
    omega
  · simp; omega
  · intro v' w' ho' hg _
    refine h v' w' ho' (((Below.refl base w).alloc hbase _).grown hg (by simp; omega) fun k hk => (hlt k hk).1) ?_
    have := hg.size
    simp at this; omega
/-- a digit -/
def hx (d : Int) : Int := if d < 10 then 48 + d else 87 + d
def hexL : List Int → List Int
  | [] => []
  | z :: l => hx (z / 16) :: hx (z % 16) :: hexL l
theorem hexL_append (l : List Int) (z : Int) : hexL (l ++ [z]) = hexL l ++ [hx (z / 16), hx (z % 16)] := by
  induction l with
  | nil => rfl
  | cons y l ih => simp [hexL, ih]
theorem hexL_length (l : List Int) : (hexL l).length = 2 * l.length := by
  induction l with
  | nil => rfl
  | cons y l ih => simp [hexL, ih]; omega
def hexT (l : List Int) : List Int := if l = [] then [45] else hexL l
theorem info_u8' : (Tryd.prog.info? 5).map (fun i => (i.size, i.bytes, i.zero)) = some (1, 1, some (.int .u8 0)) := by kernel_rfl
theorem info_parts' {t : TypeId} (h : (Tryd.prog.info? t).map (fun i => (i.size, i.bytes, i.zero)) = some (1, 1, some (.int .u8 0))) : ∃ i, Tryd.prog.info? t = some i ∧ i.zero = some (.int .u8 0) ∧ i.size = 1 ∧ i.bytes = 1 := by
  cases hi : Tryd.prog.info? t with
  | none => rw [hi] at h; simp at h
  | some i => rw [hi] at h; simp at h; exact ⟨i, rfl, h.2.2, h.1, h.2.1⟩
theorem and15 (z : Int) (h0 : 0 ≤ z) (h1 : z < 256) : bits .and .u8 z 15 = z % 16 := by
  have h : ∀ n < 256, bits .and .u8 ((n : Nat) : Int) 15 = ((n % 16 : Nat) : Int) := by decide +kernel
  obtain ⟨n, rfl⟩ : ∃ n : Nat, z = n := ⟨z.toNat, by omega⟩
  rw [h n (by omega)]; omega
/-- 'append' of a row that is owned, as one step of a region that draws -/
theorem step_append_own {P : Program} {ops : Array Oper} {o : Oper} {a : Act} {w : World} {K : Act → World → Prop} {Q : Exit → Act → World → Prop} {E : Prop}
    (hg : o.guard = none) (s x : Operand) (t : TypeId) (ho : o.op = .call { callee := .builtin .append, args := #[s, x], argTypes := #[t, t] })
    (base : Nat) (e : TypeId) (i : TypeInfo) (z : Value) (bytes : Nat) (ht : P.underlying t = some (.slice e)) (hi : P.info? e = some i) (hz : i.zero = some z)
    (hsize : i.size = 1) (hby : i.bytes = bytes) (hzs : z.cells.size = 1)
    (v : Value) (n : Nat) (xs : List Value) (hs : a.eval s = v) (hown : w.ownsRow base e 1 v n xs)
    (ad : Addr) (m c : Nat) (news : List Value) (hx : a.eval x = .slice (some ad) m c) (hl : news.length = m * 1) (hnews : ∀ j u, news[j]? = some u → w.cell? (ad.add j) = some u) (h1 : ∀ u ∈ news, u.oneCell' = true)
    (h63 : n + m ≤ maxLen) (hbytes : (n + m) * bytes ≤ 140737488355328) (hbase : base ≤ w.heap.size)
    (h : ∀ v' w', w'.ownsRow base e 1 v' (n + m) (xs ++ news) → Below base w w' → K (a.put o.dst v') w') :
    if Region.wanted o (yielded ops a.tmps) = true then Oper.wp P o a w K Q else E := by
  have hw : Region.wanted o (yielded ops a.tmps) = true := by simp [Region.wanted, hg]
  rw [if_pos hw]
  exact wp_append_own w s x t ho base e i z 1 bytes ht hi hz hsize hby hzs (by decide) v n xs hs hown ad m c news hx hl hnews h1 h63 hbytes hbase fun v' w' h2 h3 _ => h v' w' h2 ((Below.refl base w).grown h3 hbase fun k hk => (hown.lt k hk).1)
theorem at_str (k : ByteArray) (j : Nat) (hj : j < k.size) (w : World) : (Instr.index 9 (.string k) (.int .i64 (j : Int))).run Tryd.prog w = .ok (.int .u8 ((k[j]'hj).toNat : Int)) w := by
  simp [Instr.index, asIntOf, run_underlying Tryd.underlying9, hj]
theorem at_dig (d : Int) (h0 : 0 ≤ d) (h1 : d < 16) (w : World) : (Instr.index 9 (.string ⟨#[48, 49, 50, 51, 52, 53, 54, 55, 56, 57, 97, 98, 99, 100, 101, 102]⟩) (.int .u8 d)).run Tryd.prog w = .ok (.int .u8 (hx d)) w := by
  obtain rfl | rfl | rfl | rfl | rfl | rfl | rfl | rfl | rfl | rfl | rfl | rfl | rfl | rfl | rfl | rfl : d = 0 ∨ d = 1 ∨ d = 2 ∨ d = 3 ∨ d = 4 ∨ d = 5 ∨ d = 6 ∨ d = 7 ∨ d = 8 ∨ d = 9 ∨ d = 10 ∨ d = 11 ∨ d = 12 ∨ d = 13 ∨ d = 14 ∨ d = 15 := by omega
  all_goals first
    | (simp [Instr.index, asIntOf, run_underlying Tryd.underlying9, hx]; done)
    | (simp [Instr.index, asIntOf, run_underlying Tryd.underlying9, hx]; rfl)
set_option maxRecDepth 100000 in
theorem hexS_any (v : Value) (n B : Nat) (xs : List Value) (k : ByteArray) (hk : k.size ≤ 65536) (hn : n ≤ 1000) (w : World) (hown : w.ownsRow B 5 1 v n xs) (hB : B ≤ w.heap.size) :
    Calls Tryd.prog 47 #[v, .string k] w fun e w' => ∃ v', e = .returned v' ∧ (∃ m, m = xs ++ (hexT (k.data.toList.map fun b => (b.toNat : Int))).map (Value.int .u8) ∧ w'.ownsRow B 5 1 v' m.length m) ∧ Below B w w' := by
  obtain ⟨i0, hi, hz0, hz1, hz2⟩ := info_parts' info_u8'
  by_cases h0 : k.size = 0
  · obtain rfl : k = ⟨#[]⟩ := by
      apply ByteArray.ext
      exact Array.eq_empty_of_size_eq_zero h0
    go_enter Tryd.func47, Tryd.ntmps47
    go_wp2_with (at_builtin; go_loud (refine Lib.wpList_append_own_string _ rfl _ _ 31 9 rfl B 5 i0 Tryd.underlying31 Tryd.underlying9 hi hz0 hz1 hz2 _ _ _ rfl hown ⟨#[45]⟩ rfl (by show n + 1 ≤ _; unfold maxLen; omega) (by show n + 1 ≤ _; omega) hB ?_))
    intro v' w1 hown' hgrow _
    go_wp2_with fail
    go_ret
    refine ⟨v', rfl, ⟨_, rfl, ?_⟩, (Below.refl B _).grown hgrow hB (fun k hk => (hown.lt k hk).1)⟩
    have hl := hown'.1
    rw [Nat.mul_one] at hl
    replace hown' : w1.ownsRow B 5 1 v' (n + 1) (xs ++ Lib.strCells ⟨#[45]⟩) := hown'
    rw [show n + 1 = (xs ++ Lib.strCells ⟨#[45]⟩).length from hl.symm] at hown'
    exact hown'
  · have hne : ((k.size : Int) == 0) = false := by rw [beq_eq_false_iff_ne]; omega
    go_enter Tryd.func47, Tryd.ntmps47
    go_wp2_with fail
    go_loopw [0, 5, 13] (fun v5 u i wr => ∃ j : Nat, j ≤ k.size ∧ i = .int .i64 j ∧ wr.ownsRow B 5 1 v5 (n + 2 * j) (xs ++ (hexL ((k.data.toList.map fun b => (b.toNat : Int)).take j)).map (Value.int .u8)) ∧ Below B w wr) (fun _ _ i _ => k.size - (intOf i).toNat)
    case atStart => exact ⟨0, by omega, rfl, by simpa [hexL] using hown, Below.refl _ _⟩
    case round =>
      obtain ⟨j, hj, rfl, hown1, hbel⟩ := hrel
      by_cases hlt : j < k.size
      · have hlt' : (j : Int) < (k.size : Int) := by omega
        have hix := at_str k j hlt
        obtain ⟨z0, z1⟩ : 0 ≤ ((k[j]'hlt).toNat : Int) ∧ ((k[j]'hlt).toNat : Int) < 256 := ⟨by omega, by have := (k[j]'hlt).toNat_lt; omega⟩
        generalize hz : ((k[j]'hlt).toNat : Int) = z at *
        have hiy := at_dig (z / 16) (by omega) (by omega)
        have hiw := at_dig (z % 16) (by omega) (by omega)
        have ha := and15 z z0 z1
        have HT := Lib.hid (show hexL ((k.data.toList.map fun b => (b.toNat : Int)).take (j + 1)) = hexL ((k.data.toList.map fun b => (b.toNat : Int)).take j) ++ [hx (z / 16), hx (z % 16)] from by
          rw [← hexL_append, List.take_add_one]
          congr 1
          have : (k.data.toList.map fun b => (b.toNat : Int))[j]? = some z := by
            rw [List.getElem?_map, ← hz]
            have h1 : k.data.toList[j]? = some k[j] := by
              rw [Array.getElem?_toList]; exact Array.getElem?_eq_getElem hlt
            rw [h1]; rfl
          rw [this]; rfl)
        go_wp2_with fail
        have hownd : wr.drew.ownsRow B 5 1 u0 (n + 2 * j) (xs ++ (hexL ((k.data.toList.map fun b => (b.toNat : Int)).take j)).map (Value.int .u8)) := hown1
        have hHO := Lib.hid (hownd.alloc (.cells #[.int .u8 (hx (z / 16)), .int .u8 (hx (z % 16))] 5))
        have hnb : (wr.drew.alloc (.cells #[.int .u8 (hx (z / 16)), .int .u8 (hx (z % 16))] 5)).heap[wr.heap.size]? = some (.cells #[.int .u8 (hx (z / 16)), .int .u8 (hx (z % 16))] 5) := (MapKept.heap_alloc wr.drew (.cells #[.int .u8 (hx (z / 16)), .int .u8 (hx (z % 16))] 5)).1
        have hHC := Lib.hid (show ∀ q u, [Value.int .u8 (hx (z / 16)), Value.int .u8 (hx (z % 16))][q]? = some u → (wr.drew.alloc (.cells #[.int .u8 (hx (z / 16)), .int .u8 (hx (z % 16))] 5)).cell? (Addr.add ⟨wr.heap.size, 0, none⟩ q) = some u from by
          intro q u hq
          match q, hq with
          | 0, hq => simp at hq; subst hq; show (match (World.heap _)[wr.heap.size]? with | some (.cells c _ _) => c[0]? | _ => none) = _; rw [hnb]; rfl
          | 1, hq => simp at hq; subst hq; show (match (World.heap _)[wr.heap.size]? with | some (.cells c _ _) => c[1]? | _ => none) = _; rw [hnb]; rfl)
        have hBD := Lib.hid (show Below B w (wr.drew.alloc (.cells #[.int .u8 (hx (z / 16)), .int .u8 (hx (z % 16))] 5)) from hbel.drew.alloc (by have := hbel.size; simp; omega) _)
        go_region_law (refine step_append_own rfl (.tmp 16) (.tmp 27) 31 rfl B 5 i0 (.int .u8 0) 1 Tryd.underlying31 hi hz0 hz1 hz2 rfl _ _ _ rfl hHO.out ⟨wr.heap.size, 0, none⟩ 2 2 [.int .u8 (hx (z / 16)), .int .u8 (hx (z % 16))] rfl rfl hHC.out (by intro u hu; simp at hu; rcases hu with rfl | rfl <;> rfl) (by unfold maxLen; omega) (by omega) (Nat.le_trans hB hBD.out.size) ?_; intro v1 w1 hown2 hb2)
        all_goals
          go_wp2_with fail
          go_roundw
          case rel =>
            refine ⟨j + 1, by omega, by go_num, ?_, hBD.out.trans hb2⟩
            rw [show n + 2 * (j + 1) = n + 2 * j + 2 from by omega, HT.out]
            simpa using hown2
          case measure => simp [intOf]; omega
      · obtain rfl : j = k.size := by omega
        go_wp2_with fail
        go_ret
        refine ⟨_, rfl, ⟨_, rfl, ?_⟩, hbel⟩
        rw [List.take_of_length_le (by rw [List.length_map, Array.length_toList]; exact Nat.le_refl _)] at hown1
        have hne2 : (k.data.toList.map fun b => (b.toNat : Int)) ≠ [] := by
          intro h; have h2 : k.data.toList = [] := List.map_eq_nil_iff.1 h; exact h0 (by show k.data.size = 0; rw [← Array.length_toList, h2]; rfl)
        rw [show hexT (k.data.toList.map fun b => (b.toNat : Int)) = hexL (k.data.toList.map fun b => (b.toNat : Int)) from if_neg hne2]
        have hl := hown1.1
        rw [Nat.mul_one] at hl
        rw [← hl] at hown1
        exact hown1
set_option maxRecDepth 100000 in
theorem hexB_any (v : Value) (n : Nat) (xs : List Value) (W0 : World) (p : Option Addr) (l c : Nat) (zs : List Int) (hbs : Ev.BytesOf W0 p l zs) (hk : l ≤ 65536) (hn : n ≤ 1000) (w : World) (hW : Below W0.heap.size W0 w) (hown : w.ownsRow W0.heap.size 5 1 v n xs) :
    Calls Tryd.prog 48 #[v, .slice p l c] w fun e w' => ∃ v', e = .returned v' ∧ (∃ m, m = xs ++ (hexT zs).map (Value.int .u8) ∧ w'.ownsRow W0.heap.size 5 1 v' m.length m) ∧ Below W0.heap.size w w' := by
  obtain ⟨i0, hi, hz0, hz1, hz2⟩ := info_parts' info_u8'
  by_cases h0 : l = 0
  · subst h0
    obtain rfl : zs = [] := List.length_eq_zero_iff.1 hbs.1
    go_enter Tryd.func48, Tryd.ntmps48
    go_wp2_with (at_builtin; go_loud (refine Lib.wpList_append_own_string _ rfl _ _ 31 9 rfl W0.heap.size 5 i0 Tryd.underlying31 Tryd.underlying9 hi hz0 hz1 hz2 _ _ _ rfl hown ⟨#[45]⟩ rfl (by show n + 1 ≤ _; unfold maxLen; omega) (by show n + 1 ≤ _; omega) hW.size ?_))
    intro v' w1 hown' hgrow _
    go_wp2_with fail
    go_ret
    refine ⟨v', rfl, ⟨_, rfl, ?_⟩, (Below.refl _ _).grown hgrow hW.size (fun k hk => (hown.lt k hk).1)⟩
    have hl := hown'.1
    rw [Nat.mul_one] at hl
    replace hown' : w1.ownsRow W0.heap.size 5 1 v' (n + 1) (xs ++ Lib.strCells ⟨#[45]⟩) := hown'
    rw [show n + 1 = (xs ++ Lib.strCells ⟨#[45]⟩).length from hl.symm] at hown'
    exact hown'
  · have hne : ((l : Int) == 0) = false := by rw [beq_eq_false_iff_ne]; omega
    go_enter Tryd.func48, Tryd.ntmps48
    go_wp2_with fail
    go_loopw [0, 5, 13] (fun v5 u i wr => ∃ j : Nat, j ≤ l ∧ i = .int .i64 j ∧ wr.ownsRow W0.heap.size 5 1 v5 (n + 2 * j) (xs ++ (hexL (zs.take j)).map (Value.int .u8)) ∧ Below W0.heap.size w wr) (fun _ _ i _ => l - (intOf i).toNat)
    case atStart => exact ⟨0, by omega, rfl, by simpa [hexL] using hown, Below.refl _ _⟩
    case round =>
      obtain ⟨j, hj, rfl, hown1, hbel⟩ := hrel
      by_cases hlt : j < l
      · have hlt' : (j : Int) < (l : Int) := by omega
        obtain ⟨q, o, rfl, hcell⟩ := (hbs.below (hW.trans hbel)).2.2.1 (by omega)
        obtain ⟨z, hz, hcj⟩ : ∃ z, zs[j]? = some z ∧ wr.drew.cell? ⟨q, o + j, none⟩ = some (.int .u8 z) := ⟨zs.getD j 0, by rw [List.getD_eq_getElem?_getD, List.getElem?_eq_getElem (by rw [hbs.1]; exact hlt)]; rfl, hcell j hlt⟩
        obtain ⟨z0, z1⟩ : 0 ≤ z ∧ z < 256 := hbs.2.1 z (List.mem_of_getElem? hz)
        have hiy := at_dig (z / 16) (by omega) (by omega)
        have hiw := at_dig (z % 16) (by omega) (by omega)
        have ha := and15 z z0 z1
        have HT := Lib.hid (show hexL (zs.take (j + 1)) = hexL (zs.take j) ++ [hx (z / 16), hx (z % 16)] from by
          rw [← hexL_append, List.take_add_one]
          congr 1
          rw [hz]; rfl)
        go_wp2_with fail
        have hownd : wr.drew.ownsRow W0.heap.size 5 1 u0 (n + 2 * j) (xs ++ (hexL (zs.take j)).map (Value.int .u8)) := hown1
        have hHO := Lib.hid (hownd.alloc (.cells #[.int .u8 (hx (z / 16)), .int .u8 (hx (z % 16))] 5))
        have hnb : (wr.drew.alloc (.cells #[.int .u8 (hx (z / 16)), .int .u8 (hx (z % 16))] 5)).heap[wr.heap.size]? = some (.cells #[.int .u8 (hx (z / 16)), .int .u8 (hx (z % 16))] 5) := (MapKept.heap_alloc wr.drew (.cells #[.int .u8 (hx (z / 16)), .int .u8 (hx (z % 16))] 5)).1
        have hHC := Lib.hid (show ∀ q u, [Value.int .u8 (hx (z / 16)), Value.int .u8 (hx (z % 16))][q]? = some u → (wr.drew.alloc (.cells #[.int .u8 (hx (z / 16)), .int .u8 (hx (z % 16))] 5)).cell? (Addr.add ⟨wr.heap.size, 0, none⟩ q) = some u from by
          intro q u hq
          match q, hq with
          | 0, hq => simp at hq; subst hq; show (match (World.heap _)[wr.heap.size]? with | some (.cells c _ _) => c[0]? | _ => none) = _; rw [hnb]; rfl
          | 1, hq => simp at hq; subst hq; show (match (World.heap _)[wr.heap.size]? with | some (.cells c _ _) => c[1]? | _ => none) = _; rw [hnb]; rfl)
        have hBD := Lib.hid (show Below W0.heap.size w (wr.drew.alloc (.cells #[.int .u8 (hx (z / 16)), .int .u8 (hx (z % 16))] 5)) from hbel.drew.alloc (by have := hbel.size; have := hW.size; simp; omega) _)
        go_region_law (refine step_append_own rfl (.tmp 16) (.tmp 29) 31 rfl W0.heap.size 5 i0 (.int .u8 0) 1 Tryd.underlying31 hi hz0 hz1 hz2 rfl _ _ _ rfl hHO.out ⟨wr.heap.size, 0, none⟩ 2 2 [.int .u8 (hx (z / 16)), .int .u8 (hx (z % 16))] rfl rfl hHC.out (by intro u hu; simp at hu; rcases hu with rfl | rfl <;> rfl) (by unfold maxLen; omega) (by omega) (Nat.le_trans hW.size hBD.out.size) ?_; intro v1 w1 hown2 hb2)
        all_goals
          go_wp2_with fail
          go_roundw
          case rel =>
            refine ⟨j + 1, by omega, by go_num, ?_, hBD.out.trans hb2⟩
            rw [show n + 2 * (j + 1) = n + 2 * j + 2 from by omega, HT.out]
            simpa using hown2
          case measure => simp [intOf]; omega
      · obtain rfl : j = l := by omega
        go_wp2_with fail
        go_ret
        refine ⟨_, rfl, ⟨_, rfl, ?_⟩, hbel⟩
        rw [List.take_of_length_le (by rw [hbs.1]; exact Nat.le_refl _)] at hown1
        have hne2 : zs ≠ [] := by
          rintro rfl; exact h0 hbs.1.symm
        rw [show hexT zs = hexL zs from if_neg hne2]
        have hl := hown1.1
        rw [Nat.mul_one] at hl
        rw [← hl] at hown1
        exact hown1
end Go.Proofs.YtlpepmhpnmnpkaaDoor.Ent
