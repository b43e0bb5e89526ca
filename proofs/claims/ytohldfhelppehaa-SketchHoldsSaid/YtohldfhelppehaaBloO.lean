/-
  Walks over the reference of layer 34: places, keys.
-/
import Derived.Test.YtohldfhelppehaaBloP
set_option linter.unusedVariables false
set_option linter.unusedSimpArgs false
namespace Go.Proofs.Ytohldfhelppehaa.Blo
open Go.RowKit Kit Hash
theorem own_mono {B B' : Nat} {e : TypeId} {k : Nat} {v : Value} {n : Nat} {xs : List Value} {w : World} (h : w.ownsRow B e k v n xs) (hb : B' ≤ B) : w.ownsRow B' e k v n xs := by
  obtain ⟨h1, h2⟩ := h
  refine ⟨h1, ?_⟩
  rcases h2 with h2 | ⟨g, cap, cur, hv, hg, r⟩
  · exact .inl h2
  · exact .inr ⟨g, cap, cur, hv, by omega, r⟩
theorem rsumR (sd : Int) (hs : Word sd) (k : ByteArray) (hk : k.size ≤ maxLen) (w : World) :
    Calls Try.prog 53 #[.int .u64 sd, .bool false, .string k] w fun e w' => e = .returned (.int .u64 (sumN sd k : Int)) ∧ w = w' := by
  rw [← sumN_eq]; exact rsum_any sd hs false k hk w
set_option maxRecDepth 100000 in
theorem rplacesR {W : World} {r n c : Nat} {hs sd : Int} (ok : Ok n hs sd) (k : ByteArray) (hk : k.size ≤ maxLen) :
    Calls Try.prog 17 #[rf hs sd r (64 * n) c, .string k] W fun e w' => ∃ v, e = .returned v ∧ w'.ownsRow W.heap.size 3 1 v hs.toNat ((pls (sumN sd k) (64 * n) hs.toNat).map fun x => .int .i64 (x : Nat)) ∧ Below W.heap.size W w' := by
  have HS := Lib.hid (rsumR sd ok.s k hk)
  have hl := sumN_lt sd k
  have h1 := ok.h1
  have h2 := ok.h2
  have n1 := ok.n1
  have n2 := ok.n2
  obtain ⟨i0, hi, hzz⟩ := Option.map_eq_some_iff.1 info_int
  simp only [Prod.mk.injEq] at hzz
  obtain ⟨hz0, hz1, hz2⟩ := hzz
  clear ok
  go_enter Try.func17, Try.ntmps17
  go_wp2_with fail
  refine (HS.out _).mono ?_
  rintro e w1 ⟨rfl, rfl⟩
  have hpb := pb_le hl
  have HPB := Lib.hid (show pb (sumN sd k) = if sumN sd k / 4294967296 % 2 = 0 then sumN sd k / 4294967296 + 1 else sumN sd k / 4294967296 from rfl)
  have HPL := Lib.hid (show ∀ j : Nat, pl (sumN sd k) (64 * n) j = (sumN sd k % 4294967296 + j * pb (sumN sd k)) % (64 * n) from fun _ => rfl)
  generalize hx : sumN sd k = x at *
  have HX := Lib.hid hx
  clear hx
  by_cases hpar : x / 4294967296 % 2 = 0
  · have hy : pb x = x / 4294967296 + 1 := by have := HPB.out; rwa [if_pos hpar] at this
    have hw : IntKind.u64.wrap ((x : Int) / 4294967296 + 1) = ((pb x : Nat) : Int) := by rw [IntWalk.u64_in _ (by omega)]; omega
    clear HPB
    generalize pb x = y at *
    have hpar2 : ((x : Int) / 4294967296 % 2 == 0) = true := by simp; omega
    clear hy
    go_wp2_with fail
    go_loopw [8, 9] (fun v i wr => ∃ j : Nat, j ≤ hs.toNat ∧ i = .int .i64 j ∧ wr.ownsRow (W.heap.size + 1) 3 1 v j ((pls x (64 * n) j).map fun x => .int .i64 (x : Nat)) ∧ Below (W.heap.size + 1) (W.alloc (rfO hs sd r (64 * n) c)) wr) (fun _ i _ => hs.toNat - (intOf i).toNat)
    case atStart => exact ⟨0, by omega, rfl, World.ownsRow_nil _ _ _ _, by simpa [World.size_alloc] using Below.refl _ _⟩
    case round =>
      obtain ⟨j, hj, rfl, hown, bW⟩ := hrel
      obtain ⟨c0, -, c2⟩ := rf_cells bW
      have hBs := bW.size
      rw [World.size_alloc] at hBs
      have HB := Lib.hid bW
      clear bW
      by_cases hlt : j < hs.toNat
      · have hlt2 : (j : Int) < hs := by omega
        have hjy : (j : Int) * (y : Int) ≤ 34359738368 := by
          have h0 : j * y ≤ 8 * 4294967296 := Nat.mul_le_mul (by omega) hpb
          have : ((j * y : Nat) : Int) ≤ 34359738368 := by omega
          rwa [Int.natCast_mul] at this
        have hjy0 : 0 ≤ (j : Int) * (y : Int) := Int.mul_nonneg (by omega) (by omega)
        have f1 : IntKind.u64.wrap ((j : Int) * (y : Int)) = (j : Int) * (y : Int) := IntWalk.u64_in _ (by omega)
        have f4 : ((64 : Int) * (n : Int) == 0) = false := by simp; omega
        have hplj : ((x : Int) % 4294967296 + (j : Int) * (y : Int)) % (64 * (n : Int)) = ((pl x (64 * n) j : Nat) : Int) := by
          rw [HPL.out]; simp
        have hpm : ((pl x (64 * n) j : Nat) : Int) < 64 * (n : Int) := by
          have : pl x (64 * n) j < 64 * n := pl_lt (by omega)
          omega
        have HPS := Lib.hid (pls_succ x (64 * n) j)
        generalize pl x (64 * n) j = z at *
        have H6 := Lib.hid (show wrap64 (((x : Int) % 4294967296 + (j : Int) * (y : Int)) % (64 * (n : Int))) = (z : Int) by rw [hplj]; exact IntWalk.wrap64_in _ (by omega))
        clear hplj hpm
        go_wp2_with (at_builtin; rw [H6.out]; refine wpList_app1 rfl (.tmp 29) (.tmp 42) 36 rfl (W.heap.size + 1) 3 i0 (.int .i64 0) 8 Try.underlying36 hi hz0 hz1 hz2 rfl _ _ _ (.int .i64 (z : Int)) rfl hown rfl rfl ?_ ?_ hBs ?_)
        · omega
        · omega
        · intro v1 w1 hown1 hb1 _
          go_wp2
          go_roundw
          case rel => exact ⟨j + 1, by omega, by go_num, by rw [HPS.out, List.map_append]; exact hown1, HB.out.trans hb1⟩
          case measure => simp [intOf] <;> omega
      · have hlt2 : ¬ (j : Int) < hs := by omega
        obtain rfl : j = hs.toNat := by omega
        go_wp2_with fail
        go_ret
        refine ⟨_, rfl, ?_, rf_below HB.out⟩
        rw [HX.out]; exact own_mono hown (Nat.le_succ _)
  · have hy : pb x = x / 4294967296 := by have := HPB.out; rwa [if_neg hpar] at this
    have hpar2 : (((pb x : Nat) : Int) % 2 == 0) = false := by simp; omega
    have hw : (x : Int) / 4294967296 = ((pb x : Nat) : Int) := by omega
    clear HPB hpar
    generalize pb x = y at *
    clear hy
    go_wp2_with fail
    go_loopw [8, 9] (fun v i wr => ∃ j : Nat, j ≤ hs.toNat ∧ i = .int .i64 j ∧ wr.ownsRow (W.heap.size + 1) 3 1 v j ((pls x (64 * n) j).map fun x => .int .i64 (x : Nat)) ∧ Below (W.heap.size + 1) (W.alloc (rfO hs sd r (64 * n) c)) wr) (fun _ i _ => hs.toNat - (intOf i).toNat)
    case atStart => exact ⟨0, by omega, rfl, World.ownsRow_nil _ _ _ _, by simpa [World.size_alloc] using Below.refl _ _⟩
    case round =>
      obtain ⟨j, hj, rfl, hown, bW⟩ := hrel
      obtain ⟨c0, -, c2⟩ := rf_cells bW
      have hBs := bW.size
      rw [World.size_alloc] at hBs
      have HB := Lib.hid bW
      clear bW
      by_cases hlt : j < hs.toNat
      · have hlt2 : (j : Int) < hs := by omega
        have hjy : (j : Int) * (y : Int) ≤ 34359738368 := by
          have h0 : j * y ≤ 8 * 4294967296 := Nat.mul_le_mul (by omega) hpb
          have : ((j * y : Nat) : Int) ≤ 34359738368 := by omega
          rwa [Int.natCast_mul] at this
        have hjy0 : 0 ≤ (j : Int) * (y : Int) := Int.mul_nonneg (by omega) (by omega)
        have f1 : IntKind.u64.wrap ((j : Int) * (y : Int)) = (j : Int) * (y : Int) := IntWalk.u64_in _ (by omega)
        have f4 : ((64 : Int) * (n : Int) == 0) = false := by simp; omega
        have hplj : ((x : Int) % 4294967296 + (j : Int) * (y : Int)) % (64 * (n : Int)) = ((pl x (64 * n) j : Nat) : Int) := by
          rw [HPL.out]; simp
        have hpm : ((pl x (64 * n) j : Nat) : Int) < 64 * (n : Int) := by
          have : pl x (64 * n) j < 64 * n := pl_lt (by omega)
          omega
        have HPS := Lib.hid (pls_succ x (64 * n) j)
        generalize pl x (64 * n) j = z at *
        have H6 := Lib.hid (show wrap64 (((x : Int) % 4294967296 + (j : Int) * (y : Int)) % (64 * (n : Int))) = (z : Int) by rw [hplj]; exact IntWalk.wrap64_in _ (by omega))
        clear hplj hpm
        go_wp2_with (at_builtin; rw [H6.out]; refine wpList_app1 rfl (.tmp 29) (.tmp 42) 36 rfl (W.heap.size + 1) 3 i0 (.int .i64 0) 8 Try.underlying36 hi hz0 hz1 hz2 rfl _ _ _ (.int .i64 (z : Int)) rfl hown rfl rfl ?_ ?_ hBs ?_)
        · omega
        · omega
        · intro v1 w1 hown1 hb1 _
          go_wp2
          go_roundw
          case rel => exact ⟨j + 1, by omega, by go_num, by rw [HPS.out, List.map_append]; exact hown1, HB.out.trans hb1⟩
          case measure => simp [intOf] <;> omega
      · have hlt2 : ¬ (j : Int) < hs := by omega
        obtain rfl : j = hs.toNat := by omega
        go_wp2_with fail
        go_ret
        refine ⟨_, rfl, ?_, rf_below HB.out⟩
        rw [HX.out]; exact own_mono hown (Nat.le_succ _)
end Go.Proofs.Ytohldfhelppehaa.Blo
