/-
  Entries (layer 4): the program's reading of digits.
-/
import Derived.Test.YtlpepmhpnmnpkaaDoorEnpB
import Derived.Laws.OwnMore
set_option linter.unusedVariables false
set_option linter.unusedSimpArgs false
namespace Go.Proofs.YtlpepmhpnmnpkaaDoor.Ent
open Go Go.RowKit Kit
theorem at_s (s : List UInt8) (j : Nat) (hj : j < s.length) (w : World) : (Instr.index 9 (.string (str s)) (.int .i64 (j : Int))).run Tryd.prog w = .ok (.int .u8 ((s[j]'hj).toNat : Int)) w :=
  at_str (str s) j (by rw [str_size]; exact hj) w
theorem beq_str (a b : List UInt8) : ((str a).toList == b) = decide (a = b) := by
  rw [ByteArray.toList_eq]
  show (a == b) = _
  by_cases h : a = b
  · subst h; simp
  · simp [h]
def dgI (x : Int) : Int := (dgt (UInt8.ofNat x.toNat) : Int)
theorem dgI_eq (c : UInt8) : dgI (c.toNat : Int) = (dgt c : Int) := by unfold dgI; simp
theorem digitI_any (x : Int) (hx : 0 ≤ x ∧ x < 256) {w : World} (hv : Vals w) :
    Calls Tryd.prog 66 #[.int .u8 x] w fun e w' => e = .returned (.int .u8 (dgI x)) ∧ w = w' := by
  obtain ⟨n, rfl⟩ : ∃ n : Nat, x = n := ⟨x.toNat, by omega⟩
  have := digit_any (UInt8.ofNat n) hv
  rw [UInt8.toNat_ofNat', Nat.mod_eq_of_lt (by omega)] at this
  exact this
/-- at the normal end: one act and one world; else as before -/
def onceQ (Q : Exit → Act → World → Prop) (A : Act) (V : World) : Exit → Act → World → Prop
  | .normal, a, w => a = A ∧ w = V
  | e, a, w => Q e a w
theorem region_once {P : Program} {c : Code} {Q : Exit → Act → World → Prop} {a : Act} {w : World} (A : Act) (V : World) (first : Code.wp P c (onceQ Q A V) a w) (rest : Q .normal A V) : Code.wp P c Q a w :=
  Code.wp_mono (fun e a' w' h => by
    cases e
    case normal => obtain ⟨rfl, rfl⟩ := h; exact rest
    all_goals exact h) first
theorem wpList_app1e {P : Program} {w : World} {ops : Array Oper} {rest : List Oper} {o : Oper} {a : Act} {Q : Exit → Act → World → Prop} (hgd : o.guard = none) (s x : Operand) (t : TypeId)
    (ho : o.op = .call { callee := .builtin .append, args := #[s, x], argTypes := #[t, t] })
    (base : Nat) (e : TypeId) (i : TypeInfo) (z : Value) (bytes : Nat) (ht : P.underlying t = some (.slice e)) (hi : P.info? e = some i) (hz : i.zero = some z)
    (hsize : i.size = 1) (hby : i.bytes = bytes) (hzs : z.cells.size = 1)
    (v : Value) (n : Nat) (xs : List Value) (y : Value) (hs : a.eval s = v) (hown : w.ownsRow base e 1 v n xs)
    (hx : a.eval x = .slice (some ⟨w.heap.size, 0, none⟩) 1 1) (h1 : y.oneCell' = true)
    (hn : n + 1 ≤ 1073741824) (hbytes : bytes ≤ 100000) (hbase : base ≤ w.heap.size)
    (h : ∀ v' w', w'.ownsRow base e 1 v' (n + 1) (xs ++ [y]) → Below base w w' → w.heap.size < w'.heap.size → wpList P ops Q rest (a.put o.dst v') w') :
    wpList P ops Q (o :: rest) a (w.alloc (.cells #[y] e)) := by
  have hlt := hown.lt
  refine wpList_append_own _ hgd s x t ho base e i z 1 bytes ht hi hz hsize hby hzs (by decide) v n xs hs (hown.alloc _) ⟨w.heap.size, 0, none⟩ 1 1 [y] hx rfl ?_ ?_ ?_ ?_ ?_ ?_
  · intro j u hj
    match j, hj with
    | 0, hj => simp at hj; subst hj; simp [Addr.add]
  · intro u hu; simp at hu; subst hu; exact h1
  · unfold maxLen; omega
  · have : (n + 1) * bytes ≤ 1073741824 * 100000 := Nat.mul_le_mul hn hbytes
    omega
  · simp; omega
  · intro v' w' ho' hg _
    refine h v' w' ho' (((Below.refl base w).alloc hbase _).grown hg (by simp; omega) fun k hk => (hlt k hk).1) ?_
    have := hg.size
    simp at this; omega
theorem or4 (x y : Nat) (hx : x < 16) (hy : y < 16) : bits .or .u8 ((x : Int) * 16) (y : Int) = ((16 * x + y : Nat) : Int) := by
  have h : ∀ x < 16, ∀ y < 16, bits .or .u8 (((x : Nat) : Int) * 16) ((y : Nat) : Int) = ((16 * x + y : Nat) : Int) := by decide +kernel
  exact h x hx y hy
def rdhR (W w' : World) (e : Ending) : Option (List Int) → Prop
  | some zs => ∃ v, e = .returned (.tuple #[v, .bool true]) ∧ w'.ownsRow W.heap.size 5 1 v zs.length (zs.map (Value.int .u8))
  | none => e = .returned (.tuple #[.slice none 0 0, .bool false])
set_option maxRecDepth 100000 in
set_option maxHeartbeats 1000000 in
theorem readHex_any (s : List UInt8) (hl : s.length ≤ 2000) {W : World} (hv : Vals W) :
    Calls Tryd.prog 57 #[.string (str s)] W fun e w' => rdhR W w' e (rdh s) ∧ Below W.heap.size W w' := by
  by_cases h0 : s = [45]
  · subst h0
    have hq : ((str [45]).toList == [45]) = true := by rw [beq_str]; simp
    have hr : rdh [45] = some [] := by unfold rdh; rw [if_pos rfl]
    rw [hr]
    go_enter Tryd.func57, Tryd.ntmps57
    go_wp2_with fail
    go_ret2
    exact ⟨⟨_, rfl, World.ownsRow_nil _ _ _ _⟩, Below.refl _ _⟩
  · have hq : ((str s).toList == [45]) = false := by rw [beq_str]; simp [h0]
    have hr : rdh s = unhex s := by unfold rdh; rw [if_neg h0]
    have hsz := str_size s
    obtain ⟨n, hn⟩ : ∃ n, s.length = n := ⟨_, rfl⟩
    have HIX := Lib.hid (fun j hj w => at_s s j hj w)
    rw [hr]
    by_cases hodd : n % 2 = 1
    · have hne : unhex s = none := unhex_odd s (by omega)
      rw [hne]
      have m2 : ((n : Int).tmod 2 != 0) = true := by
        rw [Int.tmod_eq_emod_of_nonneg (by omega)]; simp; omega
      have m3 := IntWalk.i64_in ((n : Int).tmod 2) (by rw [Int.tmod_eq_emod_of_nonneg (by omega)]; omega)
      rw [hn] at hsz
      go_enter Tryd.func57, Tryd.ntmps57
      go_wp2_with fail
      go_ret2
      exact ⟨rfl, Below.refl _ _⟩
    · have m2 : ((n : Int) % 2 != 0) = false := by simp; omega
      have m4 : (n : Int).tmod 2 = (n : Int) % 2 := Int.tmod_eq_emod_of_nonneg (by omega)
      have m5 : (n : Int).tdiv 2 = (n : Int) / 2 := Int.tdiv_eq_ediv_of_nonneg (by omega)
      have m3 := IntWalk.i64_in ((n : Int).tmod 2) (by rw [m4]; omega)
      have m6 := IntWalk.i64_in ((n : Int) / 2) (by omega)
      obtain ⟨i0, hi0, hz0, hz1, hz2⟩ := info_parts' info_u8'
      have hmk := fun w => run_make (P := Tryd.prog) w 31 5 i0 (.int .u8 0) Tryd.underlying31 hi0 hz0 .i64 .i64 0 ((n : Int) / 2) (by omega) (by omega) (by rw [hz2]; omega) (by omega)
      rw [hn] at hsz
      go_enter Tryd.func57, Tryd.ntmps57
      go_wp2_with fail
      have hown0 := World.ownsRow_made W (madeCells (Value.int .u8 0).cells (((n : Int) / 2).toNat * i0.size)) ((n : Int) / 2).toNat (e := 5) (size := 1) (Nat.le_refl W.heap.size) (by unfold maxLen; omega) (by rw [hz1]; simp [madeCells])
      have hB0 : Below W.heap.size W (W.alloc (.cells (madeCells (Value.int .u8 0).cells (((n : Int) / 2).toNat * i0.size)) 5)) := by go_grown
      go_loopw [4, 5] (fun v i wr => ∃ (k : Nat) (zs : List Int), k ≤ n ∧ i = .int .i64 (k : Int) ∧ 2 * zs.length = k ∧ unhex s = (unhex (s.drop k)).map (zs ++ ·) ∧ (∀ z ∈ zs, 0 ≤ z ∧ z < 256) ∧ wr.ownsRow W.heap.size 5 1 v zs.length (zs.map (Value.int .u8)) ∧ Below W.heap.size W wr) (fun _ i _ => n - (intOf i).toNat)
      case atStart =>
        rw [hz1, Nat.mul_one, show ((n : Int) / 2).toNat = n / 2 from by omega] at hown0 hB0
        exact ⟨0, [], by omega, rfl, rfl, by simp, by simp, hown0, hB0⟩
      case round =>
        clear hown0 hB0
        obtain ⟨k, zs, hj, rfl, hzl, hu, hzb, hown, hB⟩ := hrel
        by_cases hlt : k < n
        · have hlt1 : k < s.length := by omega
          have hlt2 : k + 1 < s.length := by omega
          have hd : s.drop k = s[k] :: s[k + 1] :: s.drop (k + 2) := by
            rw [List.drop_eq_getElem_cons hlt1, List.drop_eq_getElem_cons hlt2]
          have i1 := HIX.out k hlt1
          have i2 := HIX.out (k + 1) hlt2
          rw [hd, unhex] at hu
          have HV := Lib.hid (hv.below hB)
          generalize s[k] = a at *
          generalize s[k + 1] = b at *
          have ha := dgt_le a
          have hb := dgt_le b
          have DX := Lib.hid (fun w' (hb : Below wr.heap.size wr w') (x : Int) (hx : 0 ≤ x ∧ x < 256) => digitI_any x hx (HV.out.below hb))
          have EA := Lib.hid (dgI_eq a)
          have EB := Lib.hid (dgI_eq b)
          have ca0 : 0 ≤ (a.toNat : Int) ∧ (a.toNat : Int) < 256 := ⟨by omega, by have := a.toNat_lt; omega⟩
          have cb0 : 0 ≤ (b.toNat : Int) ∧ (b.toNat : Int) < 256 := ⟨by omega, by have := b.toNat_lt; omega⟩
          clear HV hd
          rw [show ((k + 1 : Nat) : Int) = (k : Int) + 1 from by omega] at i2
          generalize (a.toNat : Int) = ca at *
          generalize (b.toNat : Int) = cb at *
          generalize dgt a = da at *
          generalize dgt b = db at *
          have hkn : (k : Int) < (n : Int) := by omega
          have hkn2 : (k : Int) + 1 < (n : Int) := by omega
          have wk := IntWalk.i64_in ((k : Int) + 1) (by omega)
          go_wp2_with fail
          apply region_once
          case first =>
            go_region_with (first | (go_at_call 66; refine (DX.out _ (by go_grown) _ (by assumption)).mono ?_; rintro e w1 ⟨rfl, rfl⟩))
            all_goals exact ⟨rfl, rfl⟩
          rw [EA.out, EB.out]
          have hownd : wr.drew.ownsRow W.heap.size 5 1 u4 zs.length (zs.map (Value.int .u8)) := hown
          have hBd : Below W.heap.size W wr.drew := Below.drew hB
          generalize wr.drew = V at *
          clear hown hB DX
          by_cases hza : da = 0
          · rw [if_pos (.inl hza)] at hu
            subst hza
            go_wp2_with fail
            go_ret2
            exact ⟨by rw [hu]; rfl, hBd⟩
          have hzab : (((da : Nat) : Int) == 0) = false := by rw [beq_eq_false_iff_ne]; omega
          by_cases hzb' : db = 0
          · rw [if_pos (.inr hzb')] at hu
            subst hzb'
            go_wp2_with fail
            go_ret2
            exact ⟨by rw [hu]; rfl, hBd⟩
          have hzbb : (((db : Nat) : Int) == 0) = false := by rw [beq_eq_false_iff_ne]; omega
          rw [if_neg (by omega)] at hu
          have hor := or4 (da - 1) (db - 1) (by omega) (by omega)
          rw [show ((da - 1 : Nat) : Int) = (da : Int) - 1 from by omega, show ((db - 1 : Nat) : Int) = (db : Int) - 1 from by omega] at hor
          have hsz8 := hBd.size
          obtain ⟨y, hy⟩ : ∃ y, 16 * (da - 1) + (db - 1) = y := ⟨_, rfl⟩
          rw [hy] at hor hu
          have hyb : y < 256 := by omega
          have HU := Lib.hid hu
          have HO := Lib.hid hownd
          have HBD := Lib.hid hBd
          clear hy hu hownd hBd
          go_wp2_with (at_builtin; refine wpList_app1e rfl (.tmp 39) (.tmp 46) 31 rfl W.heap.size 5 i0 (.int .u8 0) 1 Tryd.underlying31 hi0 hz0 hz1 hz2 rfl _ _ _ (.int .u8 (y : Int)) rfl HO.out rfl rfl (by omega) (by omega) hsz8 ?_)
          intro v5 w5 o5 e5 l5
          go_wp2_with fail
          go_roundw
          case rel => exact ⟨k + 2, zs ++ [(y : Int)], by omega, by go_num, by simp; omega, by rw [HU.out]; simp [Option.map_map, Function.comp_def], fun z hz => by
            rcases List.mem_append.1 hz with hz | hz
            · exact hzb z hz
            · simp at hz; omega, by simpa using o5, HBD.out.trans e5⟩
          case measure => simp [intOf]; omega
        · obtain rfl : k = n := by omega
          have hu2 : unhex s = some zs := by rw [hu, List.drop_of_length_le (by omega)]; simp [unhex]
          go_wp2_with fail
          go_ret2
          refine ⟨?_, hB⟩
          rw [hu2]
          exact ⟨_, rfl, hown⟩
end Go.Proofs.YtlpepmhpnmnpkaaDoor.Ent
