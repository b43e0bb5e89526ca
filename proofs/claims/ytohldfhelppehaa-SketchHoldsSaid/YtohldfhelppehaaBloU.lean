/-
  Walks over package bloom (layer 34): what is done with each place.
-/
import Derived.Test.YtohldfhelppehaaBloV
set_option linter.unusedVariables false
set_option linter.unusedSimpArgs false
namespace Go.Proofs.Ytohldfhelppehaa.Blo
open Go.RowKit Kit Hash
set_option maxRecDepth 100000 in
theorem has1_any {W : World} {p q n : Nat} {hs sd : Int} {s : Nat → Bool} (h : Fl W p q n hs sd s) (ok : Ok n hs sd) (k : Nat) (hk : k < 64 * n) (ca cb : Nat) (b : Bool)
    (ka : W.cell? ⟨ca, 0, none⟩ = some (.bool b)) (fa : W.frozen? ⟨ca, 0, none⟩ = false) (kb : W.cell? ⟨cb, 0, none⟩ = some (.pointer (some ⟨p, 0, none⟩))) :
    Calls Try.prog 56 #[.int .i64 k, .pointer (some ⟨ca, 0, none⟩), .pointer (some ⟨cb, 0, none⟩)] W fun e w' => (∃ v, e = .returned v) ∧ w' = W.setCell ⟨ca, 0, none⟩ (.bool (b && s k)) := by
  have HH := Lib.hid (has_any h ok k hk)
  clear h ok hk
  cases b
  · go_enter Try.func56, Try.ntmps56
    go_wp2_with fail
    go_end0
    exact ⟨⟨_, rfl⟩, by simp⟩
  · go_enter Try.func56, Try.ntmps56
    go_wp2_with fail
    refine HH.out.mono ?_
    rintro e w1 ⟨rfl, rfl⟩
    go_wp2_with fail
    go_end0
    exact ⟨⟨_, rfl⟩, by simp⟩
theorem cell_off (W : World) (ca : Nat) (v : Value) {p : Nat} (h : ca ≠ p) (o : Nat) : (W.setCell ⟨ca, 0, none⟩ v).cell? ⟨p, o, none⟩ = W.cell? ⟨p, o, none⟩ :=
  World.cell?_of_block (w := W) (Below.heap_setCell W ⟨ca, 0, none⟩ v p (Ne.symm h))
theorem fr_off (W : World) (ca : Nat) (v : Value) {p : Nat} (h : ca ≠ p) (o : Nat) : (W.setCell ⟨ca, 0, none⟩ v).frozen? ⟨p, o, none⟩ = W.frozen? ⟨p, o, none⟩ :=
  World.frozen?_of_block (w := W) (Below.heap_setCell W ⟨ca, 0, none⟩ v p (Ne.symm h))
theorem or_val (s : Nat → Bool) (k : Nat) : bits .or .u64 ((wd s (k / 64) : Nat) : Int) (IntKind.u64.wrap (2 ^ (k % 64))) = ((wd (ins s k) (k / 64) : Nat) : Int) := by
  have hp : 2 ^ (k % 64) < 18446744073709551616 := Nat.pow_lt_pow_right (n := 64) (by decide) (Nat.mod_lt _ (by decide))
  have hp2 : (2 : Int) ^ (k % 64) = ((2 ^ (k % 64) : Nat) : Int) := by rw [Int.natCast_pow]; rfl
  have hi := wd_ins_same s k
  rw [hp2]
  generalize 2 ^ (k % 64) = z at *
  rw [IntWalk.u64_in (z : Int) (by omega), u64_or_nat _ _ (wd_lt _ _) hp, hi]
set_option maxRecDepth 100000 in
theorem add1_any {W : World} {p q n : Nat} {hs sd : Int} {s : Nat → Bool} (h : Fl W p q n hs sd s) (ok : Ok n hs sd) (k : Nat) (hk : k < 64 * n) (ca cb : Nat) (b : Bool) (hca : ca ≠ p) (hcq : ca ≠ q)
    (ka : W.cell? ⟨ca, 0, none⟩ = some (.bool b)) (fa : W.frozen? ⟨ca, 0, none⟩ = false) (kb : W.cell? ⟨cb, 0, none⟩ = some (.pointer (some ⟨p, 0, none⟩))) (hab : ca ≠ cb) :
    Calls Try.prog 59 #[.int .i64 k, .pointer (some ⟨ca, 0, none⟩), .pointer (some ⟨cb, 0, none⟩)] W fun e w' => (∃ v, e = .returned v) ∧ w' = ((W.setCell ⟨ca, 0, none⟩ (.bool (b || !s k))).setCell ⟨q, k / 64, none⟩ (.int .u64 (wd (ins s k) (k / 64)))).drew := by
  have HH := Lib.hid (has_any h ok k hk)
  have HV := Lib.hid (or_val s k)
  obtain ⟨cp, hcp, k3⟩ := h.b.c3
  have kq := h.r.cell (k / 64) (by omega)
  have fq := h.r.fr (k / 64)
  have n2 := ok.n2
  have hk2 : k / 64 < n := by omega
  have hk3 : (k : Int) / 64 < (n : Int) := by omega
  have hk4 : ((k : Int) / 64).toNat = k / 64 := by omega
  have hk5 : 0 ≤ (k : Int) / 64 := by omega
  have hk6 : (k : Int).tdiv 64 = (k : Int) / 64 := Int.tdiv_eq_ediv_of_nonneg (by omega)
  have hk7 : IntKind.i64.wrap ((k : Int) / 64) = (k : Int) / 64 := IntWalk.i64_in _ (by omega)
  have hk8 : (k : Int).tmod 64 = (k : Int) % 64 := Int.tmod_eq_emod_of_nonneg (by omega)
  have hk9 : IntKind.i64.wrap ((k : Int) % 64) = (k : Int) % 64 := IntWalk.i64_in _ (by omega)
  clear h ok
  cases b
  · go_enter Try.func59, Try.ntmps59
    go_wp2_with fail
    refine HH.out.mono ?_
    rintro e w1 ⟨rfl, rfl⟩
    go_wp2_with fail
    have m3 := (cell_off W ca (.bool (!s k)) hca 3).trans k3
    have mq := (cell_off W ca (.bool (!s k)) hcq (k / 64)).trans kq
    have gq := (fr_off W ca (.bool (!s k)) hcq (k / 64)).trans fq
    have mb := (cell_off W ca (.bool (!s k)) hab 0).trans kb
    clear k3 kq fq kb
    generalize hW2 : W.setCell ⟨ca, 0, none⟩ (.bool (!s k)) = W2 at *
    go_region
    go_wp2_with fail
    go_end0
    refine ⟨⟨_, rfl⟩, ?_⟩
    rw [HV.out, ← hW2]; rfl
  · go_enter Try.func59, Try.ntmps59
    go_wp2_with fail
    have m3 := (cell_off W ca (.bool true) hca 3).trans k3
    have mq := (cell_off W ca (.bool true) hcq (k / 64)).trans kq
    have gq := (fr_off W ca (.bool true) hcq (k / 64)).trans fq
    have mb := (cell_off W ca (.bool true) hab 0).trans kb
    clear k3 kq fq kb
    generalize hW2 : W.setCell ⟨ca, 0, none⟩ (.bool true) = W2 at *
    go_region
    go_wp2_with fail
    go_end0
    refine ⟨⟨_, rfl⟩, ?_⟩
    rw [HV.out, ← hW2]; rfl
end Go.Proofs.Ytohldfhelppehaa.Blo
