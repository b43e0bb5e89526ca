/-
  Walks over package bloom (layer 34): the small functions.
-/
import Derived.Test.YtohldfhelppehaaPop
import Derived.Test.YtohldfhelppehaaRow
import Derived.Test.YtohldfhelppehaaHsh
import Derived.BigRegion
import Derived.Carry
set_option linter.unusedVariables false
set_option linter.unusedSimpArgs false
namespace Go.Proofs.Ytohldfhelppehaa.Blo
open Go.RowKit Kit Hash
/-- 'make([]T, n)', n open, T of any size -/
theorem make_any {P : Program} (w : World) (t e : TypeId) (z : Value) (s bytes : Nat) (ht : P.underlying t = some (.slice e)) (hinfo : (P.info? e).map (fun i => (i.zero, i.size, i.bytes)) = some (some z, s, bytes))
    (n : Int) (h0 : 0 ≤ n) (h1 : n ≤ 1000000) (hb : bytes ≤ 1000000) :
    (Instr.makeSlice t (.int .i64 n) (.int .i64 n)).run P w = .ok (.slice (some ⟨w.heap.size, 0, none⟩) n.toNat n.toNat) (w.alloc (.cells (madeCells z.cells (n.toNat * s)) e)) := by
  obtain ⟨i, hi, hzz⟩ := Option.map_eq_some_iff.1 hinfo
  simp only [Prod.mk.injEq] at hzz
  obtain ⟨hz, hs, hb'⟩ := hzz
  have hbb : (i.bytes : Int) * n ≤ 281474976710656 := by
    rw [hb']
    have h2 : (bytes : Int) ≤ 1000000 := by omega
    have := Int.mul_le_mul h2 h1 h0 (by omega)
    omega
  have hr := run_make (P := P) w t e i z ht hi hz .i64 .i64 n n h0 (Int.le_refl _) hbb (by omega)
  rw [hs] at hr
  exact hr
/-- block p is a filter whose words lie in block q -/
def Fb (W : World) (p q n : Nat) (hs sd : Int) : Prop := ∃ c, n ≤ c ∧ c ≤ maxLen ∧ W.heap[p]? = some (.cells #[.int .i64 hs, .int .u64 sd, .bool false, .slice (some ⟨q, 0, none⟩) n c] 94 (0, 0))
theorem Fb.lt {W : World} {p q n : Nat} {hs sd : Int} (h : Fb W p q n hs sd) : p < W.heap.size := by
  obtain ⟨c, -, -, h⟩ := h; exact (Array.getElem?_eq_some_iff.1 h).1
theorem Fb.c0 {W : World} {p q n : Nat} {hs sd : Int} (h : Fb W p q n hs sd) : W.cell? ⟨p, 0, none⟩ = some (.int .i64 hs) := by obtain ⟨c, -, -, h⟩ := h; simp [World.cell?, h]
theorem Fb.c1 {W : World} {p q n : Nat} {hs sd : Int} (h : Fb W p q n hs sd) : W.cell? ⟨p, 1, none⟩ = some (.int .u64 sd) := by obtain ⟨c, -, -, h⟩ := h; simp [World.cell?, h]
theorem Fb.c2 {W : World} {p q n : Nat} {hs sd : Int} (h : Fb W p q n hs sd) : W.cell? ⟨p, 2, none⟩ = some (.bool false) := by obtain ⟨c, -, -, h⟩ := h; simp [World.cell?, h]
theorem Fb.c3 {W : World} {p q n : Nat} {hs sd : Int} (h : Fb W p q n hs sd) : ∃ c, n ≤ c ∧ W.cell? ⟨p, 3, none⟩ = some (.slice (some ⟨q, 0, none⟩) n c) := by obtain ⟨c, hc, -, h⟩ := h; exact ⟨c, hc, by simp [World.cell?, h]⟩
theorem Fb.of_block {W W' : World} {p q n : Nat} {hs sd : Int} (h : Fb W p q n hs sd) (hb : W'.heap[p]? = W.heap[p]?) : Fb W' p q n hs sd := by
  obtain ⟨c, h1, h2, h⟩ := h; exact ⟨c, h1, h2, hb.trans h⟩
theorem Fb.below {W W' : World} {p q n : Nat} {hs sd : Int} (h : Fb W p q n hs sd) (hb : Below W.heap.size W W') : Fb W' p q n hs sd := h.of_block (hb.block p h.lt)
/-- its words are those of the set s -/
def Fr (W : World) (q n : Nat) (s : Nat → Bool) : Prop := Row W q n 22 (fun i => .int .u64 (wd s i))
structure Fl (W : World) (p q n : Nat) (hs sd : Int) (s : Nat → Bool) : Prop where
  b : Fb W p q n hs sd
  r : Fr W q n s
  ne : p ≠ q
theorem Fl.below {W W' : World} {p q n : Nat} {hs sd : Int} {s : Nat → Bool} (h : Fl W p q n hs sd s) (hb : Below W.heap.size W W') : Fl W' p q n hs sd s := ⟨h.b.below hb, h.r.below hb, h.ne⟩
theorem Fl.but {W W' : World} {p q n x : Nat} {hs sd : Int} {s : Nat → Bool} (h : Fl W p q n hs sd s) (hb : But x W W') (h1 : p ≠ x) (h2 : q ≠ x) : Fl W' p q n hs sd s :=
  ⟨h.b.of_block (hb.block p h.b.lt h1), h.r.but hb h2, h.ne⟩
theorem Fl.congr {W : World} {p q n : Nat} {hs sd : Int} {s t : Nat → Bool} (h : Fl W p q n hs sd s) (he : ∀ i, i < n → wd s i = wd t i) : Fl W p q n hs sd t :=
  ⟨h.b, h.r.congr fun i hi => by rw [he i hi], h.ne⟩
theorem Fb.newc (W : World) (q n c : Nat) (hs sd : Int) (hc : n ≤ c) (hm : c ≤ maxLen) : Fb (W.alloc (.cells #[.int .i64 hs, .int .u64 sd, .bool false, .slice (some ⟨q, 0, none⟩) n c] 94)) W.heap.size q n hs sd := ⟨c, hc, hm, (MapKept.heap_alloc W _).1⟩
theorem Fb.new (W : World) (q n : Nat) (hs sd : Int) (hm : n ≤ maxLen) : Fb (W.alloc (.cells #[.int .i64 hs, .int .u64 sd, .bool false, .slice (some ⟨q, 0, none⟩) n n] 94)) W.heap.size q n hs sd := Fb.newc W q n n hs sd (Nat.le_refl _) hm
theorem Fr.new (W : World) (n : Nat) : Fr (W.alloc (.cells (madeCells #[.int .u64 0] n) 22)) W.heap.size n (fun _ => false) :=
  (Row.made W (.int .u64 0) rfl n 22).congr fun i _ => by rw [wd_empty]; rfl
/-- numbers that are allowed: n words -/
structure Ok (n : Nat) (hs sd : Int) : Prop where
  n1 : 1 ≤ n
  n2 : n ≤ 16384
  p2 : ∃ k, k ≤ 14 ∧ n = 2 ^ k
  h1 : 1 ≤ hs
  h2 : hs ≤ 8
  s : Word sd
theorem isZero_no {W : World} {p q n : Nat} {hs sd : Int} (h : Fb W p q n hs sd) (ok : Ok n hs sd) :
    Calls Try.prog 54 #[.pointer (some ⟨p, 0, none⟩)] W fun e w' => e = .returned (.bool false) ∧ W = w' := by
  have k0 := h.c0
  have h1 := ok.h1
  clear h ok
  go_enter Try.func54, Try.ntmps54
  go_wp2
  go_ret
  exact ⟨ret_bool (by simp; omega), rfl⟩
theorem and_pow (k : Nat) (hk : k ≤ 14) : bits .and .i64 ((64 * 2 ^ k : Nat) : Int) (((64 * 2 ^ k : Nat) : Int) - 1) = 0 := by
  have : ∀ k : Fin 15, bits .and .i64 ((64 * 2 ^ k.val : Nat) : Int) (((64 * 2 ^ k.val : Nat) : Int) - 1) = 0 := by decide +kernel
  exact this ⟨k, by omega⟩
set_option maxRecDepth 100000 in
theorem new_ok {n : Nat} {hs sd b : Int} (ok : Ok n hs sd) (hb : b = 64 * n) (w : World) :
    Calls Try.prog 14 #[.int .i64 b, .int .i64 hs, .int .u64 sd] w fun e w' => ∃ p q, e = .returned (.tuple #[.pointer (some ⟨p, 0, none⟩), .int .i64 0]) ∧ Fl w' p q n hs sd (fun _ => false) ∧ w.heap.size ≤ p ∧ w.heap.size ≤ q ∧ Below w.heap.size w w' := by
  obtain ⟨n1, n2, ⟨k, hk, hn⟩, h1, h2, -⟩ := ok
  have ha := and_pow k hk
  rw [← hn, Int.natCast_mul, show ((64 : Nat) : Int) * (n : Int) = b by omega] at ha
  have b1 : 64 ≤ b := by omega
  have b2 : b ≤ 1048576 := by omega
  have b3 : b.tdiv 64 = (n : Int) := by rw [Int.tdiv_eq_ediv_of_nonneg (by omega)]; omega
  have hmk := fun w => make_any (P := Try.prog) w 54 22 (.int .u64 0) 1 8 (by kernel_rfl) (by kernel_rfl) (n : Int) (by omega) (by omega) (by omega)
  have hwn : IntKind.i64.wrap (n : Int) = n := IntWalk.i64_in _ (by omega)
  clear hb hn hk
  go_enter Try.func14, Try.ntmps14
  go_wp2_with fail
  go_region_with (go_at_call 47; refine (Hash.new_any sd false _).mono ?_; rintro e w1 ⟨rfl, b1⟩)
  all_goals go_wp2_with fail
  all_goals go_ret2
  · have hs1 := b1.size
    simp only [World.size_drew] at hs1
    have hr := (Fr.new w1 n).alloc (.cells #[.int .i64 hs, .int .u64 sd, .bool false, .slice (some ⟨w1.heap.size, 0, none⟩) n n] 94)
    refine ⟨_, w1.heap.size, rfl, ⟨?_, hr, by omega⟩, by omega, by omega, ?_⟩
    · simpa [World.size_alloc] using Fb.new (w1.alloc (.cells (madeCells #[.int .u64 0] n) 22)) w1.heap.size n hs sd (by unfold maxLen; omega)
    · exact (((by go_grown : Below w.heap.size w w.drew).trans (b1.mono (by simp))).alloc hs1 _).alloc (by simp; omega) _
  · have hs1 := b1.size
    simp only [World.size_drew, World.size_alloc] at hs1
    refine ⟨_, w.heap.size, rfl, ⟨Fb.new w1 w.heap.size n hs sd (by unfold maxLen; omega), ?_, by omega⟩, by omega, by omega, ?_⟩
    · have h0 : Fr (w.alloc (.cells (madeCells #[.int .u64 0] n) 22)).drew w.heap.size n (fun _ => false) := (Fr.new w n).of_block rfl
      exact (h0.below b1).alloc _
    · exact ((by go_grown : Below w.heap.size w (w.alloc (.cells (madeCells #[.int .u64 0] n) 22)).drew).trans (b1.mono (by simp))).alloc (by omega) _
theorem bit_val (s : Nat → Bool) (k : Nat) : (bits .and .u64 (((wd s (k / 64) : Nat) : Int) / 2 ^ (k % 64)) 1 == 1) = s k := by
  have hl := wd_lt s (k / 64)
  have hd : wd s (k / 64) / 2 ^ (k % 64) < 18446744073709551616 := Nat.lt_of_le_of_lt (Nat.div_le_self _ _) hl
  rw [show ((2 : Int) ^ (k % 64)) = ((2 ^ (k % 64) : Nat) : Int) by rw [Int.natCast_pow]; rfl, ← Int.natCast_ediv, show (1 : Int) = ((1 : Nat) : Int) from rfl, u64_and_nat _ _ hd (by decide), Nat.and_one_is_mod, wd_bit]
  cases s k <;> rfl
set_option maxRecDepth 100000 in
theorem has_any {W : World} {p q n : Nat} {hs sd : Int} {s : Nat → Bool} (h : Fl W p q n hs sd s) (ok : Ok n hs sd) (k : Nat) (hk : k < 64 * n) :
    Calls Try.prog 57 #[.pointer (some ⟨p, 0, none⟩), .int .i64 k] W fun e w' => e = .returned (.bool (s k)) ∧ W = w' := by
  obtain ⟨cp, hcp, k3⟩ := h.b.c3
  have kq := h.r.cell (k / 64) (by omega)
  have n2 := ok.n2
  clear h ok
  go_enter Try.func57, Try.ntmps57
  go_wp2_with fail
  go_ret
  exact ⟨ret_bool (bit_val s k), rfl⟩
end Go.Proofs.Ytohldfhelppehaa.Blo
