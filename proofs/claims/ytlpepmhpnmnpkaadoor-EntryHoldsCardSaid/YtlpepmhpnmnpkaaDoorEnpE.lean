/-
  Entries (layer 4): the reference's bytes.
-/
import Derived.Test.YtlpepmhpnmnpkaaDoorEnpC
import Derived.Test.YtlpepmhpnmnpkaaDoorEnpD
set_option linter.unusedVariables false
set_option linter.unusedSimpArgs false
namespace Go.Proofs.YtlpepmhpnmnpkaaDoor.Ent
open Go Go.RowKit Kit
theorem dv_some {c : UInt8} (h : dgt c ≠ 0) : dv c = ((dgt c - 1 : Nat) : Int) := by unfold dv; rw [if_neg h]; omega
set_option maxRecDepth 100000 in
set_option maxHeartbeats 1000000 in
theorem rbytes_any (s : List UInt8) (hl : s.length ≤ 1000) (W : World) :
    Calls Tryd.prog 52 #[.string (str s)] W fun e w' => rdhR W w' e (rdr s) ∧ Below W.heap.size W w' := by
  by_cases h0 : s = [45]
  · subst h0
    have hq : ((str [45]).toList == [45]) = true := by rw [beq_str]; simp
    have hr : rdr [45] = some [] := by unfold rdr; rw [if_pos rfl]
    rw [hr]
    go_enter Tryd.func52, Tryd.ntmps52
    go_wp2_with fail
    go_ret2
    exact ⟨⟨_, rfl, World.ownsRow_nil _ _ _ _⟩, Below.refl _ _⟩
  · have hq : ((str s).toList == [45]) = false := by rw [beq_str]; simp [h0]
    have hsz := str_size s
    obtain ⟨n, hn⟩ : ∃ n, s.length = n := ⟨_, rfl⟩
    have HIX := Lib.hid (fun j hj w => at_s s j hj w)
    have m4 : (n : Int).tmod 2 = (n : Int) % 2 := Int.tmod_eq_emod_of_nonneg (by omega)
    have m3 := IntWalk.i64_in ((n : Int).tmod 2) (by rw [m4]; omega)
    rw [hn] at hsz
    by_cases he : n = 0
    · have hr : rdr s = none := by
        unfold rdr
        rw [if_neg h0, if_pos (List.length_eq_zero_iff.1 (by omega))]
      have q1 : ((n : Int) == 0) = true := by simp; omega
      rw [hr]
      clear he hn
      go_enter Tryd.func52, Tryd.ntmps52
      go_wp2_with fail
      go_ret2
      exact ⟨rfl, Below.refl _ _⟩
    have q1 : ((n : Int) == 0) = false := by rw [beq_eq_false_iff_ne]; omega
    have hr : rdr s = unhex s := by
      unfold rdr
      rw [if_neg h0, if_neg]
      intro h; rw [h] at hn; exact he (by rw [← hn]; rfl)
    rw [hr]
    by_cases hodd : n % 2 = 1
    · have hne : unhex s = none := unhex_odd s (by omega)
      rw [hne]
      have m2 : ((n : Int) % 2 == 1) = true := by simp; omega
      go_enter Tryd.func52, Tryd.ntmps52
      go_wp2_with fail
      go_ret2
      exact ⟨rfl, Below.refl _ _⟩
    · have m2 : ((n : Int) % 2 == 1) = false := by rw [beq_eq_false_iff_ne]; omega
      obtain ⟨i0, hi0, hz0, hz1, hz2⟩ := info_parts' info_u8'
      go_enter Tryd.func52, Tryd.ntmps52
      go_wp2_with fail
      go_loopw [4, 5] (fun v i wr => ∃ (k : Nat) (zs : List Int), k ≤ n ∧ i = .int .i64 (k : Int) ∧ 2 * zs.length = k ∧ unhex s = (unhex (s.drop k)).map (zs ++ ·) ∧ (∀ z ∈ zs, 0 ≤ z ∧ z < 256) ∧ wr.ownsRow W.heap.size 5 1 v zs.length (zs.map (Value.int .u8)) ∧ Below W.heap.size W wr) (fun _ i _ => n - (intOf i).toNat)
      case atStart => exact ⟨0, [], by omega, rfl, rfl, by simp, by simp, World.ownsRow_nil _ _ _ _, Below.refl _ _⟩
      case round =>
        obtain ⟨k, zs, hj, rfl, hzl, hu, hzb, hown, hB⟩ := hrel
        by_cases hlt : k < n
        · have hlt1 : k < s.length := by omega
          have hlt2 : k + 1 < s.length := by omega
          have hd : s.drop k = s[k] :: s[k + 1] :: s.drop (k + 2) := by
            rw [List.drop_eq_getElem_cons hlt1, List.drop_eq_getElem_cons hlt2]
          have i1 := HIX.out k hlt1
          have i2 := HIX.out (k + 1) hlt2
          rw [hd, unhex] at hu
          generalize s[k] = a at *
          generalize s[k + 1] = b at *
          have ha := dgt_le a
          have hb := dgt_le b
          have DX := Lib.hid (fun w => rdigit_any a w)
          have DY := Lib.hid (fun w => rdigit_any b w)
          have VA := Lib.hid (fun h => dv_some (c := a) h)
          have VB := Lib.hid (fun h => dv_some (c := b) h)
          have WA := Lib.hid (show dgt a = 0 → dv a = 0 from fun h => by unfold dv; rw [if_pos h])
          have WB := Lib.hid (show dgt b = 0 → dv b = 0 from fun h => by unfold dv; rw [if_pos h])
          clear hd
          rw [show ((k + 1 : Nat) : Int) = (k : Int) + 1 from by omega] at i2
          generalize (a.toNat : Int) = ca at *
          generalize (b.toNat : Int) = cb at *
          generalize dv a = va at *
          generalize dv b = vb at *
          generalize dgt a = da at *
          generalize dgt b = db at *
          have hkn : (k : Int) < (n : Int) := by omega
          have hkn2 : (k : Int) + 1 < (n : Int) := by omega
          have wk := IntWalk.i64_in ((k : Int) + 1) (by omega)
          have wk2 := IntWalk.i64_in ((k : Int) + 2) (by omega)
          go_wp2_with fail
          refine (DX.out _).mono ?_
          rintro e w1 ⟨rfl, rfl⟩
          go_wp2_with fail
          refine (DY.out _).mono ?_
          rintro e w1 ⟨rfl, rfl⟩
          by_cases hza : da = 0
          · rw [if_pos (.inl hza)] at hu
            have e0 : (da != 0) = false := by simp [hza]
            rw [e0]
            go_wp2_with fail
            go_ret2
            exact ⟨by rw [hu]; rfl, hB⟩
          have e0 : (da != 0) = true := by simp [hza]
          rw [e0]
          by_cases hzb' : db = 0
          · rw [if_pos (.inr hzb')] at hu
            have e1 : (db != 0) = false := by simp [hzb']
            rw [e1]
            go_wp2_with fail
            go_ret2
            exact ⟨by rw [hu]; rfl, hB⟩
          have e1 : (db != 0) = true := by simp [hzb']
          rw [e1]
          rw [if_neg (by omega)] at hu
          obtain rfl := VA.out hza
          obtain rfl := VB.out hzb'
          have hxb : da - 1 < 16 := by omega
          have hzb2 : db - 1 < 16 := by omega
          clear VA VB WA WB
          generalize da - 1 = x at *
          generalize db - 1 = z at *
          have w1 := IntWalk.i64_in (16 * (x : Int)) (by omega)
          have w2 := IntWalk.i64_in (16 * (x : Int) + (z : Int)) (by omega)
          have w3 : IntKind.u8.wrap (16 * (x : Int) + (z : Int)) = 16 * (x : Int) + (z : Int) := by simp [IntKind.wrap, IntKind.signed, IntKind.bits]; omega
          have hsz8 := hB.size
          have HU := Lib.hid hu
          have HO := Lib.hid hown
          have HBD := Lib.hid hB
          clear hu hown hB
          go_wp2_with (at_builtin; refine wpList_app1e rfl (.tmp 48) (.tmp 54) 31 rfl W.heap.size 5 i0 (.int .u8 0) 1 Tryd.underlying31 hi0 hz0 hz1 hz2 rfl _ _ _ (.int .u8 (16 * (x : Int) + (z : Int))) rfl HO.out rfl rfl (by omega) (by omega) hsz8 ?_)
          intro v5 w5 o5 e5 l5
          go_wp2_with fail
          go_roundw
          case rel => exact ⟨k + 2, zs ++ [((16 * x + z : Nat) : Int)], by omega, by go_num, by simp; omega, by rw [HU.out]; simp [Option.map_map, Function.comp_def], fun y hy => by
            rcases List.mem_append.1 hy with hy | hy
            · exact hzb y hy
            · simp at hy; omega, by simpa using o5, HBD.out.trans e5⟩
          case measure => simp [intOf]; omega
        · obtain rfl : k = n := by omega
          have hu2 : unhex s = some zs := by rw [hu, List.drop_of_length_le (by omega)]; simp [unhex]
          go_wp2_with fail
          go_ret2
          refine ⟨?_, hB⟩
          rw [hu2]
          exact ⟨_, rfl, hown⟩
end Go.Proofs.YtlpepmhpnmnpkaaDoor.Ent
