/-
  Links (layer 14): the reference's Add.
-/
import Derived.Test.YtjcabdnjimcdgaaLnkW
set_option linter.unusedVariables false
set_option linter.unusedSimpArgs false
namespace Go.Proofs.Ytjcabdnjimcdgaa.Lnk
open Go Go.RowKit Kit
set_option maxRecDepth 100000 in
theorem rnode_any (w : World) (N : Nat) (p : Option Addr) (H cp : Nat) (n : Nat) (hN : N ≤ 4194304) (hn : n < 4294967296) :
    Calls Try.prog 93 #[fv N p H cp, .int .u32 (n : Int)] w fun e w' => e = .returned (.bool (decide (n < N))) ∧ Below w.heap.size w w' := by
  unfold fv
  have wi := IntWalk.i64_in (n : Int) (by omega)
  by_cases h1 : (n : Int) < (N : Int)
  all_goals (
    go_enter Try.func93, Try.ntmps93
    go_wp2_with fail
    go_ret
    exact ⟨by simp; omega, by go_grown⟩)
theorem cell_of_blk {w w' : World} {a : Addr} (h : w'.heap[a.block]? = w.heap[a.block]?) : w'.cell? a = w.cell? a := by
  unfold World.cell?
  rw [h]
/-- the result of Add -/
def AdR (e : Ending) (w0 : World) (p0 : Option Addr) (Ls0 : List (List Nat)) (w : World) (N H : Nat) (Ls : List (List Nat)) (code : Int) : Prop := ∃ p cp, e = .returned (.tuple #[fv N p H cp, .int .i64 code]) ∧ Rf2 w p Ls ∧ ∀ av, av < w0.heap.size → Av w0 p0 Ls0 av → Av w p Ls av
theorem Av.put {w w' : World} {p : Option Addr} {Ls : List (List Nat)} {av b2 : Nat} (R : Rf2 w p Ls) (h : Av w p Ls av) (h2 : Av w p Ls b2) (hw : ∀ b, b < w.heap.size → b ≠ b2 → w'.heap[b]? = w.heap[b]?) : Av w' p Ls av := fun k l hl y hy => by
  obtain ⟨y', hy', hb, _⟩ := R k l hl
  rw [hy] at hy'
  cases hy'
  obtain ⟨a1, a2⟩ := h k l hl y hy
  refine ⟨a1, fun ph n ch hc => a2 ph n ch ?_⟩
  rwa [cell_of_blk (hw _ (by rw [add_block]; exact hb) (by rw [add_block]; exact (h2 k l hl y hy).1))] at hc
/-- two variables that hold a field: one that is given, and the result -/
def S2 (w v : World) (N : Nat) (p : Option Addr) (H cp : Nat) (a b : Value) : Prop := v.heap[w.heap.size]? = some (.cells #[.int .i64 (N : Int), .slice p H cp] 24 (0, 0)) ∧ v.heap[w.heap.size + 1]? = some (.cells #[a, b] 24 (0, 0)) ∧ Below w.heap.size w v
theorem S2.new (w : World) (N : Nat) (p : Option Addr) (H cp : Nat) : ∃ V, (w.alloc (.cells #[.int .i64 (N : Int), .slice p H cp] 24)).alloc (.cells #[.int .i64 0, .slice none 0 0] 24) = V ∧ S2 w V N p H cp (.int .i64 0) (.slice none 0 0) :=
  ⟨_, rfl, (Below.heap_alloc _ _ w.heap.size (by simp)).trans (MapKept.heap_alloc w _).1, by simpa using (MapKept.heap_alloc (w.alloc (.cells #[.int .i64 (N : Int), .slice p H cp] 24)) (.cells #[.int .i64 0, .slice none 0 0] 24)).1, by go_grown⟩
theorem S2.keep {w v v' : World} {N : Nat} {p : Option Addr} {H cp : Nat} {a b : Value} (h : S2 w v N p H cp a b) (hb : Below v.heap.size v v') : S2 w v' N p H cp a b :=
  ⟨(hb.block _ (Array.getElem?_eq_some_iff.1 h.1).1).trans h.1, (hb.block _ (Array.getElem?_eq_some_iff.1 h.2.1).1).trans h.2.1, tr h.2.2 hb⟩
theorem S2.cells {w v : World} {N : Nat} {p : Option Addr} {H cp : Nat} {a b : Value} (h : S2 w v N p H cp a b) : v.cell? ⟨w.heap.size, 0, none⟩ = some (.int .i64 (N : Int)) ∧ v.cell? ⟨w.heap.size, 1, none⟩ = some (.slice p H cp) ∧ v.cell? ⟨w.heap.size + 1, 0, none⟩ = some a ∧ v.cell? ⟨w.heap.size + 1, 1, none⟩ = some b ∧ v.frozen? ⟨w.heap.size + 1, 0, none⟩ = false ∧ v.frozen? ⟨w.heap.size + 1, 1, none⟩ = false := by
  have h2 := h.2.1
  exact ⟨(two_of h.1).1, (two_of h.1).2, (two_of h.2.1).1, (two_of h.2.1).2, by simp [World.frozen?, h2], by simp [World.frozen?, h2]⟩
theorem S2.set {w v : World} {N : Nat} {p : Option Addr} {H cp : Nat} {a b : Value} (h : S2 w v N p H cp a b) (a' b' : Value) : S2 w ((v.setCell ⟨w.heap.size + 1, 0, none⟩ a').setCell ⟨w.heap.size + 1, 1, none⟩ b') N p H cp a' b' :=
  ⟨((Below.heap_setCell _ ⟨w.heap.size + 1, 1, none⟩ b' w.heap.size (by show w.heap.size ≠ w.heap.size + 1; omega)).trans (Below.heap_setCell v ⟨w.heap.size + 1, 0, none⟩ a' w.heap.size (by show w.heap.size ≠ w.heap.size + 1; omega))).trans h.1, heap_set (j := 1) (heap_set (j := 0) h.2.1 a') b',
    (h.2.2.setCell (p := ⟨w.heap.size + 1, 0, none⟩) (Nat.le_succ _) _).setCell (p := ⟨w.heap.size + 1, 1, none⟩) (Nat.le_succ _) _⟩
/-- the two variables, the result holding anything -/
def E2 (w v : World) (N : Nat) (p : Option Addr) (H cp : Nat) : Prop := ∃ a b, S2 w v N p H cp a b
theorem E2.bel {w v : World} {N : Nat} {p : Option Addr} {H cp : Nat} (h : E2 w v N p H cp) : Below w.heap.size w v := by
  obtain ⟨a, b, h⟩ := h
  exact h.2.2
theorem E2.siz {w v : World} {N : Nat} {p : Option Addr} {H cp : Nat} (h : E2 w v N p H cp) : w.heap.size + 1 < v.heap.size := by
  obtain ⟨a, b, h⟩ := h
  exact (Array.getElem?_eq_some_iff.1 h.2.1).1
theorem sx_keep {w v v' : World} {N H cp h m ch : Nat} {y : Addr} {ph : Option Addr} (yb : y.block < w.heap.size) (hb : Below v.heap.size v v') (hs : v.cell? ⟨w.heap.size, 0, none⟩ = some (.int .i64 (N : Int)) ∧ v.cell? ⟨w.heap.size, 1, none⟩ = some (.slice (some y) H cp) ∧ v.cell? (y.add h) = some (.slice ph m ch) ∧ E2 w v N (some y) H cp) : v'.cell? ⟨w.heap.size, 0, none⟩ = some (.int .i64 (N : Int)) ∧ v'.cell? ⟨w.heap.size, 1, none⟩ = some (.slice (some y) H cp) ∧ v'.cell? (y.add h) = some (.slice ph m ch) ∧ E2 w v' N (some y) H cp := by
  obtain ⟨h0, h1, h2, a, b, h3⟩ := hs
  have k := h3.keep hb
  exact ⟨k.cells.1, k.cells.2.1, (hb.cell (by rw [add_block]; have := h3.2.2.size; omega)).trans h2, a, b, k⟩
theorem sx_store {w v v' : World} {N H cp h m ch : Nat} {y : Addr} {ph : Option Addr} (yb : y.block < w.heap.size) (a' b' : Value) (hw : v' = (v.setCell ⟨w.heap.size + 1, 0, none⟩ a').setCell ⟨w.heap.size + 1, 1, none⟩ b') (hs : v.cell? ⟨w.heap.size, 0, none⟩ = some (.int .i64 (N : Int)) ∧ v.cell? ⟨w.heap.size, 1, none⟩ = some (.slice (some y) H cp) ∧ v.cell? (y.add h) = some (.slice ph m ch) ∧ E2 w v N (some y) H cp) : v'.cell? ⟨w.heap.size, 0, none⟩ = some (.int .i64 (N : Int)) ∧ v'.cell? ⟨w.heap.size, 1, none⟩ = some (.slice (some y) H cp) ∧ v'.cell? (y.add h) = some (.slice ph m ch) ∧ E2 w v' N (some y) H cp := by
  obtain ⟨h0, h1, h2, a, b, h3⟩ := hs
  subst hw
  have k := h3.set a' b'
  refine ⟨k.cells.1, k.cells.2.1, ?_, a', b', k⟩
  rw [cell_of_blk (w := v), h2]
  rw [add_block]
  exact (Below.heap_setCell _ ⟨w.heap.size + 1, 1, none⟩ b' y.block (by show y.block ≠ w.heap.size + 1; omega)).trans (Below.heap_setCell v ⟨w.heap.size + 1, 0, none⟩ a' y.block (by show y.block ≠ w.heap.size + 1; omega))
theorem kl_out {e : Ending} {w : World} {B M : Nat} {l : List Nat} (h : Kl e w B (ints l)) (hM : l.length = M) : ∃ q k, e = .returned (.slice q M k) ∧ Ru w q (ints l) ∧ M ≤ k ∧ (q = none → k = 0) ∧ ∀ z, q = some z → B ≤ z.block := by
  obtain ⟨v, rfl, hk⟩ := h
  obtain ⟨q, k, hq, hn, hle⟩ := own_form hk
  obtain ⟨q', k', hq', hr⟩ := ks_ru hk
  rw [hq'] at hq
  cases hq
  subst hq'
  have hf : ∀ z, q = some z → B ≤ z.block := by
    obtain ⟨h0, ⟨hv, hn⟩ | ⟨g, cap, cur, hv, hb', hg, hr⟩⟩ := hk
    · injection hv with a b c; intro y hy; rw [a] at hy; cases hy
    · injection hv with a b c; intro y hy; rw [a] at hy; cases hy; exact hb'
  rw [ints_len, hM] at hle hn ⊢
  exact ⟨q, k, rfl, hr, hle, fun h => (hn h).2, hf⟩
theorem put_gen {w : World} {ph : Option Addr} {m ch i n : Nat} {l : List Nat} (hm : l.length = m) (hr : Ru w ph (ints l)) (hi : i ≤ m) (hm2 : m ≤ 1000000) (hcp : m ≤ ch) (hpn : ph = none → ch = 0) :
    Calls Try.prog 95 #[.slice ph m ch, .int .i64 (i : Int), .int .u32 (n : Int)] w fun e w' => Kl e w' w.heap.size (ints (l.take i ++ n :: l.drop i)) ∧ Below w.heap.size w w' := by
  cases ph with
  | some y => exact put_any hm hr hi hm2 hcp
  | none =>
    obtain rfl := hpn rfl
    obtain rfl : m = 0 := by omega
    obtain rfl : i = 0 := by omega
    obtain rfl : l = [] := List.length_eq_zero_iff.1 hm
    exact put_nil
section
variable {w : World} {N H cp : Nat} {p : Option Addr} {Ls : List (List Nat)}
set_option maxRecDepth 100000 in
set_option maxHeartbeats 1000000 in
theorem radd_bad (R : Rf2 w p Ls) (hN : N ≤ 4194304) {h : Int} {n : Nat} (hn : n < 4294967296) (front : Bool) (hbad : ¬ (0 ≤ h ∧ h < (H : Int) ∧ n < N)) :
    Calls Try.prog 21 #[fv N p H cp, .int .i64 h, .int .u32 (n : Int), .bool front] w fun e w' => AdR e w p Ls w' N H Ls 2 ∧ Below w.heap.size w w' := by
  have HRH := Lib.hid (fun v => rhead_any v N p H cp h)
  have HRN := Lib.hid (fun v => rnode_any v N p H cp n hN hn)
  have RR := Lib.hid R
  have hc : (¬ (0 ≤ h ∧ h < (H : Int))) ∨ ((0 ≤ h ∧ h < (H : Int)) ∧ ¬ n < N) := by omega
  unfold fv at HRH HRN ⊢
  obtain ⟨V, hV, sV⟩ := S2.new w N p H cp
  have SV := Lib.hid sV
  obtain ⟨x0, x1, x2, x3, x4, x5⟩ := SV.out.cells
  clear R hbad hn hN sV
  rcases hc with h1 | ⟨h1, h2⟩
  · rw [decide_eq_false h1] at HRH
    clear h1
    go_enter Try.func21, Try.ntmps21
    go_wp2_with fail
    refine (HRH.out _).mono ?_
    rintro e vS1 ⟨rfl, bS1⟩
    have S1 := Lib.hid (SV.out.keep bS1)
    clear bS1 x0 x1 x2 x3 x4 x5
    obtain ⟨x0, x1, x2, x3, x4, x5⟩ := S1.out.cells
    go_wp2_with fail
    obtain ⟨y0, y1, y2, y3, y4, y5⟩ := (S1.out.set (.int .i64 (N : Int)) (.slice p H cp)).cells
    refine bodyPost_ret (v := .tuple #[.agg #[.int .i64 (N : Int), .slice p H cp], .int .i64 2]) (by simp [results, Try.results21, go_sem, y0, y1, y2, y3]) rfl ?_
    exact ⟨⟨p, cp, rfl, RR.out.below (S1.out.set _ _).2.2, fun av _ hA => hA.below RR.out (S1.out.set _ _).2.2⟩, (S1.out.set _ _).2.2⟩
  · rw [decide_eq_true h1] at HRH
    rw [decide_eq_false h2] at HRN
    clear h1 h2
    go_enter Try.func21, Try.ntmps21
    go_wp2_with fail
    refine (HRH.out _).mono ?_
    rintro e vS1 ⟨rfl, bS1⟩
    have S1 := Lib.hid (SV.out.keep bS1)
    clear bS1 x0 x1 x2 x3 x4 x5
    obtain ⟨x0, x1, x2, x3, x4, x5⟩ := S1.out.cells
    go_wp2_with fail
    refine (HRN.out _).mono ?_
    rintro e vS3 ⟨rfl, bS3⟩
    have S3 := Lib.hid (S1.out.keep bS3)
    clear bS3 x0 x1 x2 x3 x4 x5
    obtain ⟨x0, x1, x2, x3, x4, x5⟩ := S3.out.cells
    go_wp2_with fail
    obtain ⟨y0, y1, y2, y3, y4, y5⟩ := (S3.out.set (.int .i64 (N : Int)) (.slice p H cp)).cells
    refine bodyPost_ret (v := .tuple #[.agg #[.int .i64 (N : Int), .slice p H cp], .int .i64 2]) (by simp [results, Try.results21, go_sem, y0, y1, y2, y3]) rfl ?_
    exact ⟨⟨p, cp, rfl, RR.out.below (S3.out.set _ _).2.2, fun av _ hA => hA.below RR.out (S3.out.set _ _).2.2⟩, (S3.out.set _ _).2.2⟩
set_option maxRecDepth 100000 in
set_option maxHeartbeats 1000000 in
theorem radd_busy (R : Rf2 w p Ls) (hH : Ls.length = H) (hH2 : H ≤ 4096) (hN : N ≤ 4194304) (hLL : ∀ (h : Nat) (l : List Nat), Ls[h]? = some l → l.length ≤ 999999) {h n : Nat} (front : Bool) (hh : h < H) (hn : n < N) (hf : ¬ Free Ls n) :
    Calls Try.prog 21 #[fv N p H cp, .int .i64 (h : Int), .int .u32 (n : Int), .bool front] w fun e w' => AdR e w p Ls w' N H Ls 11 ∧ Below w.heap.size w w' := by
  have HRH := Lib.hid (fun v => rhead_any v N p H cp (h : Int))
  have HRN := Lib.hid (fun v => rnode_any v N p H cp n hN (by omega))
  have RR := Lib.hid R
  have HPL := Lib.hid (fun (v : World) (hb : Below w.heap.size w v) => rplace_any (N := N) (cp := cp) (n := n) hH hH2 (fun h l hl => by have := hLL h l hl; omega) (R.below hb).rf)
  have c1 : (h : Int) < (H : Int) := by omega
  have c0 : (0 : Int) ≤ (h : Int) := by omega
  rw [decide_eq_true (show (0 : Int) ≤ (h : Int) ∧ (h : Int) < (H : Int) by omega)] at HRH
  rw [decide_eq_true hn] at HRN
  unfold fv at HRH HRN HPL ⊢
  obtain ⟨V, hV, sV⟩ := S2.new w N p H cp
  have SV := Lib.hid sV
  obtain ⟨x0, x1, x2, x3, x4, x5⟩ := SV.out.cells
  have HH := Lib.hid hH
  have HF := Lib.hid hf
  clear R sV hf hH hLL hH2
  go_enter Try.func21, Try.ntmps21
  go_wp2_with fail
  refine (HRH.out _).mono ?_
  rintro e vS1 ⟨rfl, bS1⟩
  have S1 := Lib.hid (SV.out.keep bS1)
  clear bS1 x0 x1 x2 x3 x4 x5
  obtain ⟨x0, x1, x2, x3, x4, x5⟩ := S1.out.cells
  go_wp2_with fail
  refine (HRN.out _).mono ?_
  rintro e vS3 ⟨rfl, bS3⟩
  have S3 := Lib.hid (S1.out.keep bS3)
  clear bS3 x0 x1 x2 x3 x4 x5
  obtain ⟨x0, x1, x2, x3, x4, x5⟩ := S3.out.cells
  go_wp2_with fail
  refine (HPL.out _ S3.out.2.2).mono ?_
  rintro e vS4 ⟨pl, bS4⟩
  have S4 := Lib.hid (S3.out.keep bS4)
  clear bS4 x0 x1 x2 x3 x4 x5
  obtain ⟨x0, x1, x2, x3, x4, x5⟩ := S4.out.cells
  obtain ⟨k, i, l, g1, g2, rfl⟩ : ∃ k i l, Ls[k]? = some l ∧ l[i]? = some n ∧ e = .returned (.tuple #[.int .i64 ((k : Nat) : Int), .int .i64 ((i : Nat) : Int)]) := by
    rcases pl with h | ⟨h, _⟩
    · exact h
    · exact absurd h HF.out
  clear pl g1 g2
  have k0 : (0 : Int) ≤ (k : Int) := by omega
  go_wp2_with fail
  obtain ⟨y0, y1, y2, y3, y4, y5⟩ := (S4.out.set (.int .i64 (N : Int)) (.slice p H cp)).cells
  refine bodyPost_ret (v := .tuple #[.agg #[.int .i64 (N : Int), .slice p H cp], .int .i64 11]) (by simp [results, Try.results21, go_sem, y0, y1, y2, y3]) rfl ?_
  exact ⟨⟨p, cp, rfl, RR.out.below (S4.out.set _ _).2.2, fun av _ hA => hA.below RR.out (S4.out.set _ _).2.2⟩, (S4.out.set _ _).2.2⟩
set_option maxRecDepth 100000 in
set_option maxHeartbeats 1000000 in
theorem radd_front (R : Rf2 w p Ls) (hH : Ls.length = H) (hH2 : H ≤ 4096) (hN : N ≤ 4194304) (hLL : ∀ (h : Nat) (l : List Nat), Ls[h]? = some l → l.length ≤ 999999) {h n : Nat} (hh : h < H) (hn : n < N) {l : List Nat} (hl : Ls[h]? = some l) (hf : Free Ls n) :
    Calls Try.prog 21 #[fv N p H cp, .int .i64 (h : Int), .int .u32 (n : Int), .bool true] w fun e w' => AdR e w p Ls w' N H (Ls.set h (n :: l)) 0 ∧ Below w.heap.size w w' := by
  have HRH := Lib.hid (fun v => rhead_any v N p H cp (h : Int))
  have HRN := Lib.hid (fun v => rnode_any v N p H cp n hN (by omega))
  have RR := Lib.hid R
  have HPL := Lib.hid (fun (v : World) (hb : Below w.heap.size w v) => rplace_any (N := N) (cp := cp) (n := n) hH hH2 (fun h l hl => by have := hLL h l hl; omega) (R.below hb).rf)
  have c1 : (h : Int) < (H : Int) := by omega
  have c0 : (0 : Int) ≤ (h : Int) := by omega
  rw [decide_eq_true (show (0 : Int) ≤ (h : Int) ∧ (h : Int) < (H : Int) by omega)] at HRH
  rw [decide_eq_true hn] at HRN
  unfold fv at HRH HRN HPL ⊢
  obtain ⟨V, hV, sV⟩ := S2.new w N p H cp
  have SV := Lib.hid sV
  obtain ⟨x0, x1, x2, x3, x4, x5⟩ := SV.out.cells
  have HH := Lib.hid hH
  have HF := Lib.hid hf
  have hll := hLL h l hl
  obtain ⟨y, hpy, yb, ph, ch, e0, ru, hlc, hnc⟩ := R h l hl
  subst hpy
  have HE := Lib.hid (fun (v : World) (hb : Below w.heap.size w v) => (hb.cell (by rw [add_block]; exact yb)).trans e0)
  have RU := Lib.hid (fun (v : World) (hb : Below w.heap.size w v) => ru.below hb)
  obtain ⟨m, hm⟩ : ∃ m, l.length = m := ⟨_, rfl⟩
  rw [hm] at hlc hll HE
  have HM := Lib.hid hm
  have HNC := Lib.hid hnc
  clear R sV hf hH hLL e0 ru hm hnc
  go_enter Try.func21, Try.ntmps21
  go_wp2_with fail
  refine (HRH.out _).mono ?_
  rintro e vS1 ⟨rfl, bS1⟩
  have S1 := Lib.hid (SV.out.keep bS1)
  clear bS1 x0 x1 x2 x3 x4 x5
  obtain ⟨x0, x1, x2, x3, x4, x5⟩ := S1.out.cells
  go_wp2_with fail
  refine (HRN.out _).mono ?_
  rintro e vS3 ⟨rfl, bS3⟩
  have S3 := Lib.hid (S1.out.keep bS3)
  clear bS3 x0 x1 x2 x3 x4 x5
  obtain ⟨x0, x1, x2, x3, x4, x5⟩ := S3.out.cells
  go_wp2_with fail
  refine (HPL.out _ S3.out.2.2).mono ?_
  rintro e vS4 ⟨pl, bS4⟩
  have S4 := Lib.hid (S3.out.keep bS4)
  clear bS4 x0 x1 x2 x3 x4 x5
  obtain ⟨x0, x1, x2, x3, x4, x5⟩ := S4.out.cells
  obtain rfl : e = .returned (.tuple #[.int .i64 (-1), .int .i64 (-1)]) := by
    rcases pl with ⟨k, i, l, g1, g2, _⟩ | ⟨_, h⟩
    · exact absurd (List.mem_of_getElem? g2) (HF.out k l g1)
    · exact h
  clear pl
  have e0 := HE.out _ S4.out.2.2
  go_wp2_with fail
  have S5 := Lib.hid (show vS4.cell? ⟨w.heap.size, 0, none⟩ = some (.int .i64 (N : Int)) ∧ vS4.cell? ⟨w.heap.size, 1, none⟩ = some (.slice (some y) H cp) ∧ vS4.cell? (y.add h) = some (.slice ph m ch) ∧ E2 w vS4 N (some y) H cp from ⟨x0, x1, e0, _, _, S4.out⟩)
  have YB := Lib.hid yb
  have AV := Lib.hid (RR.out.av (Nat.le_succ w.heap.size))
  have HPUT := Lib.hid (fun (v : World) (hs : v.cell? ⟨w.heap.size, 0, none⟩ = some (.int .i64 (N : Int)) ∧ v.cell? ⟨w.heap.size, 1, none⟩ = some (.slice (some y) H cp) ∧ v.cell? (y.add h) = some (.slice ph m ch) ∧ E2 w v N (some y) H cp) => (show Calls Try.prog 95 #[.slice ph m ch, .int .i64 0, .int .u32 (n : Int)] v fun e w' => (∃ q k, e = .returned (.slice q (m + 1) k) ∧ Ru w' q (ints (n :: l)) ∧ m + 1 ≤ k ∧ (q = none → k = 0) ∧ ∀ z, q = some z → v.heap.size ≤ z.block) ∧ Below v.heap.size v w' from
    (put_gen (i := 0) HM.out (RU.out v hs.2.2.2.bel) (by omega) (by omega) hlc HNC.out).mono (by rintro e w' ⟨a, b⟩; exact ⟨kl_out (by simpa using a) (by simp [HM.out]), b⟩)))
  have HWITH := Lib.hid (fun (v : World) (hs : v.cell? ⟨w.heap.size, 0, none⟩ = some (.int .i64 (N : Int)) ∧ v.cell? ⟨w.heap.size, 1, none⟩ = some (.slice (some y) H cp) ∧ v.cell? (y.add h) = some (.slice ph m ch) ∧ E2 w v N (some y) H cp) (q : Option Addr) (k B : Nat) (h1 : Ru v q (ints (n :: l))) (h2 : m + 1 ≤ k) (h3 : q = none → k = 0) (h4 : ∀ z, q = some z → B ≤ z.block) (h5 : w.heap.size + 1 < B) => with_any (N := N) (cp := cp) (RR.out.below hs.2.2.2.bel) HH.out hH2 hh (show ((n :: l)).length = m + 1 by simp [HM.out]) h1 h2 h3)
  have HAV := Lib.hid (fun (v : World) (hs : v.cell? ⟨w.heap.size, 0, none⟩ = some (.int .i64 (N : Int)) ∧ v.cell? ⟨w.heap.size, 1, none⟩ = some (.slice (some y) H cp) ∧ v.cell? (y.add h) = some (.slice ph m ch) ∧ E2 w v N (some y) H cp) => AV.out.below RR.out hs.2.2.2.bel)
  have HSZ := Lib.hid (fun (v : World) (hs : v.cell? ⟨w.heap.size, 0, none⟩ = some (.int .i64 (N : Int)) ∧ v.cell? ⟨w.heap.size, 1, none⟩ = some (.slice (some y) H cp) ∧ v.cell? (y.add h) = some (.slice ph m ch) ∧ E2 w v N (some y) H cp) => hs.2.2.2.siz)
  have HBL := Lib.hid (fun (v : World) (hs : v.cell? ⟨w.heap.size, 0, none⟩ = some (.int .i64 (N : Int)) ∧ v.cell? ⟨w.heap.size, 1, none⟩ = some (.slice (some y) H cp) ∧ v.cell? (y.add h) = some (.slice ph m ch) ∧ E2 w v N (some y) H cp) => hs.2.2.2.bel)
  unfold fv at HWITH
  clear RU e0
  go_region_held3 (fun w' => w'.cell? ⟨w.heap.size, 0, none⟩ = some (.int .i64 (N : Int)) ∧ w'.cell? ⟨w.heap.size, 1, none⟩ = some (.slice (some y) H cp) ∧ w'.cell? (y.add h) = some (.slice ph m ch) ∧ E2 w w' N (some y) H cp)
    (first
      | (exact sx_keep YB.out (Below.drew (Below.refl _ _)) S5.out)
      | (exact sx_keep YB.out bN (by assumption))
      | (exact sx_store YB.out _ _ rfl (by assumption))
      | assumption
      | fail)
    (first
      | (go_at_call 95; refine (HPUT.out _ (by assumption)).mono ?_; rintro e vP ⟨⟨q, k, rfl, ruq, hqk, hqn, hqb⟩, bN⟩; have RUQ := Lib.hid ruq; have HQN := Lib.hid hqn; have HQB := Lib.hid hqb; have hsq := HSZ.out _ (by assumption); clear ruq hqn hqb)
      | (go_at_call 94; refine (HWITH.out _ (by assumption) _ _ _ RUQ.out hqk HQN.out HQB.out hsq).mono ?_; have av0 := HAV.out _ (by assumption); have AV0 := Lib.hid av0; have hs0 := HSZ.out _ (by assumption); have BP := Lib.hid (HBL.out _ (by assumption)); rintro e vW ⟨⟨p', cp', rfl, rf', av'⟩, bN⟩; have RF' := Lib.hid rf'; have AV' := Lib.hid (av' _ hs0 AV0.out (fun _ z hz => by have := HQB.out z hz; omega)); have AVG := Lib.hid av'; clear rf' av' av0; have s9 := sx_keep YB.out bN (by assumption); obtain ⟨a9, b9, s9'⟩ := s9.2.2.2; have S9 := Lib.hid s9'; obtain ⟨z0, z1, z2, z3, z4, z5⟩ := s9'.cells; clear s9 s9')
      | fail)
  clear x0 x1 x2 x3 x4 x5
  go_wp2_with fail
  obtain ⟨y0, y1, y2, y3, y4, y5⟩ := (S9.out.set (.int .i64 (N : Int)) (.slice p' H cp')).cells
  refine bodyPost_ret (v := .tuple #[.agg #[.int .i64 (N : Int), .slice p' H cp'], .int .i64 0]) (by simp [results, Try.results21, go_sem, y0, y1, y2, y3]) rfl ?_
  have b9 := (S9.out.set (.int .i64 (N : Int)) (.slice p' H cp')).2.2
  have hfar : ∀ b, b < vW.heap.size → b ≠ w.heap.size + 1 → ((vW.setCell ⟨w.heap.size + 1, 0, none⟩ (.int .i64 (N : Int))).setCell ⟨w.heap.size + 1, 1, none⟩ (.slice p' H cp')).heap[b]? = vW.heap[b]? := fun b hb hne => by
    exact (Below.heap_setCell _ ⟨w.heap.size + 1, 1, none⟩ _ b (by show b ≠ w.heap.size + 1; exact hne)).trans (Below.heap_setCell vW ⟨w.heap.size + 1, 0, none⟩ _ b (by show b ≠ w.heap.size + 1; exact hne))
  refine ⟨⟨p', cp', rfl, RF'.out.put AV'.out (by simp) hfar, fun av hav hA => ?_⟩, b9⟩
  exact (AVG.out av (by omega) (hA.below RR.out BP.out) (fun _ z hz => by have := HQB.out z hz; omega)).put RF'.out AV'.out hfar
set_option maxRecDepth 100000 in
set_option maxHeartbeats 1000000 in
theorem radd_back (R : Rf2 w p Ls) (hH : Ls.length = H) (hH2 : H ≤ 4096) (hN : N ≤ 4194304) (hLL : ∀ (h : Nat) (l : List Nat), Ls[h]? = some l → l.length ≤ 999999) {h n : Nat} (hh : h < H) (hn : n < N) {l : List Nat} (hl : Ls[h]? = some l) (hf : Free Ls n) :
    Calls Try.prog 21 #[fv N p H cp, .int .i64 (h : Int), .int .u32 (n : Int), .bool false] w fun e w' => AdR e w p Ls w' N H (Ls.set h (l ++ [n])) 0 ∧ Below w.heap.size w w' := by
  have HRH := Lib.hid (fun v => rhead_any v N p H cp (h : Int))
  have HRN := Lib.hid (fun v => rnode_any v N p H cp n hN (by omega))
  have RR := Lib.hid R
  have HPL := Lib.hid (fun (v : World) (hb : Below w.heap.size w v) => rplace_any (N := N) (cp := cp) (n := n) hH hH2 (fun h l hl => by have := hLL h l hl; omega) (R.below hb).rf)
  have c1 : (h : Int) < (H : Int) := by omega
  have c0 : (0 : Int) ≤ (h : Int) := by omega
  rw [decide_eq_true (show (0 : Int) ≤ (h : Int) ∧ (h : Int) < (H : Int) by omega)] at HRH
  rw [decide_eq_true hn] at HRN
  unfold fv at HRH HRN HPL ⊢
  obtain ⟨V, hV, sV⟩ := S2.new w N p H cp
  have SV := Lib.hid sV
  obtain ⟨x0, x1, x2, x3, x4, x5⟩ := SV.out.cells
  have HH := Lib.hid hH
  have HF := Lib.hid hf
  have hll := hLL h l hl
  obtain ⟨y, hpy, yb, ph, ch, e0, ru, hlc, hnc⟩ := R h l hl
  subst hpy
  have HE := Lib.hid (fun (v : World) (hb : Below w.heap.size w v) => (hb.cell (by rw [add_block]; exact yb)).trans e0)
  have RU := Lib.hid (fun (v : World) (hb : Below w.heap.size w v) => ru.below hb)
  obtain ⟨m, hm⟩ : ∃ m, l.length = m := ⟨_, rfl⟩
  rw [hm] at hlc hll HE
  have HM := Lib.hid hm
  have HNC := Lib.hid hnc
  clear R sV hf hH hLL e0 ru hm hnc
  go_enter Try.func21, Try.ntmps21
  go_wp2_with fail
  refine (HRH.out _).mono ?_
  rintro e vS1 ⟨rfl, bS1⟩
  have S1 := Lib.hid (SV.out.keep bS1)
  clear bS1 x0 x1 x2 x3 x4 x5
  obtain ⟨x0, x1, x2, x3, x4, x5⟩ := S1.out.cells
  go_wp2_with fail
  refine (HRN.out _).mono ?_
  rintro e vS3 ⟨rfl, bS3⟩
  have S3 := Lib.hid (S1.out.keep bS3)
  clear bS3 x0 x1 x2 x3 x4 x5
  obtain ⟨x0, x1, x2, x3, x4, x5⟩ := S3.out.cells
  go_wp2_with fail
  refine (HPL.out _ S3.out.2.2).mono ?_
  rintro e vS4 ⟨pl, bS4⟩
  have S4 := Lib.hid (S3.out.keep bS4)
  clear bS4 x0 x1 x2 x3 x4 x5
  obtain ⟨x0, x1, x2, x3, x4, x5⟩ := S4.out.cells
  obtain rfl : e = .returned (.tuple #[.int .i64 (-1), .int .i64 (-1)]) := by
    rcases pl with ⟨k, i, l, g1, g2, _⟩ | ⟨_, h⟩
    · exact absurd (List.mem_of_getElem? g2) (HF.out k l g1)
    · exact h
  clear pl
  have e0 := HE.out _ S4.out.2.2
  go_wp2_with fail
  have S5 := Lib.hid (show vS4.cell? ⟨w.heap.size, 0, none⟩ = some (.int .i64 (N : Int)) ∧ vS4.cell? ⟨w.heap.size, 1, none⟩ = some (.slice (some y) H cp) ∧ vS4.cell? (y.add h) = some (.slice ph m ch) ∧ E2 w vS4 N (some y) H cp from ⟨x0, x1, e0, _, _, S4.out⟩)
  have YB := Lib.hid yb
  have AV := Lib.hid (RR.out.av (Nat.le_succ w.heap.size))
  have HPUT := Lib.hid (fun (v : World) (hs : v.cell? ⟨w.heap.size, 0, none⟩ = some (.int .i64 (N : Int)) ∧ v.cell? ⟨w.heap.size, 1, none⟩ = some (.slice (some y) H cp) ∧ v.cell? (y.add h) = some (.slice ph m ch) ∧ E2 w v N (some y) H cp) => (show Calls Try.prog 95 #[.slice ph m ch, .int .i64 (m : Int), .int .u32 (n : Int)] v fun e w' => (∃ q k, e = .returned (.slice q (m + 1) k) ∧ Ru w' q (ints (l ++ [n])) ∧ m + 1 ≤ k ∧ (q = none → k = 0) ∧ ∀ z, q = some z → v.heap.size ≤ z.block) ∧ Below v.heap.size v w' from
    (put_gen (i := m) HM.out (RU.out v hs.2.2.2.bel) (by omega) (by omega) hlc HNC.out).mono (by rintro e w' ⟨a, b⟩; exact ⟨kl_out (by have e : l.take m ++ n :: l.drop m = l ++ [n] := by { rw [List.take_of_length_le (by have := HM.out; omega), List.drop_of_length_le (by have := HM.out; omega)] }; rw [e] at a; exact a) (by simp [HM.out]), b⟩)))
  have HWITH := Lib.hid (fun (v : World) (hs : v.cell? ⟨w.heap.size, 0, none⟩ = some (.int .i64 (N : Int)) ∧ v.cell? ⟨w.heap.size, 1, none⟩ = some (.slice (some y) H cp) ∧ v.cell? (y.add h) = some (.slice ph m ch) ∧ E2 w v N (some y) H cp) (q : Option Addr) (k B : Nat) (h1 : Ru v q (ints (l ++ [n]))) (h2 : m + 1 ≤ k) (h3 : q = none → k = 0) (h4 : ∀ z, q = some z → B ≤ z.block) (h5 : w.heap.size + 1 < B) => with_any (N := N) (cp := cp) (RR.out.below hs.2.2.2.bel) HH.out hH2 hh (show ((l ++ [n])).length = m + 1 by simp [HM.out]) h1 h2 h3)
  have HAV := Lib.hid (fun (v : World) (hs : v.cell? ⟨w.heap.size, 0, none⟩ = some (.int .i64 (N : Int)) ∧ v.cell? ⟨w.heap.size, 1, none⟩ = some (.slice (some y) H cp) ∧ v.cell? (y.add h) = some (.slice ph m ch) ∧ E2 w v N (some y) H cp) => AV.out.below RR.out hs.2.2.2.bel)
  have HSZ := Lib.hid (fun (v : World) (hs : v.cell? ⟨w.heap.size, 0, none⟩ = some (.int .i64 (N : Int)) ∧ v.cell? ⟨w.heap.size, 1, none⟩ = some (.slice (some y) H cp) ∧ v.cell? (y.add h) = some (.slice ph m ch) ∧ E2 w v N (some y) H cp) => hs.2.2.2.siz)
  have HBL := Lib.hid (fun (v : World) (hs : v.cell? ⟨w.heap.size, 0, none⟩ = some (.int .i64 (N : Int)) ∧ v.cell? ⟨w.heap.size, 1, none⟩ = some (.slice (some y) H cp) ∧ v.cell? (y.add h) = some (.slice ph m ch) ∧ E2 w v N (some y) H cp) => hs.2.2.2.bel)
  unfold fv at HWITH
  clear RU e0
  go_region_held3 (fun w' => w'.cell? ⟨w.heap.size, 0, none⟩ = some (.int .i64 (N : Int)) ∧ w'.cell? ⟨w.heap.size, 1, none⟩ = some (.slice (some y) H cp) ∧ w'.cell? (y.add h) = some (.slice ph m ch) ∧ E2 w w' N (some y) H cp)
    (first
      | (exact sx_keep YB.out (Below.drew (Below.refl _ _)) S5.out)
      | (exact sx_keep YB.out bN (by assumption))
      | (exact sx_store YB.out _ _ rfl (by assumption))
      | assumption
      | fail)
    (first
      | (go_at_call 95; refine (HPUT.out _ (by assumption)).mono ?_; rintro e vP ⟨⟨q, k, rfl, ruq, hqk, hqn, hqb⟩, bN⟩; have RUQ := Lib.hid ruq; have HQN := Lib.hid hqn; have HQB := Lib.hid hqb; have hsq := HSZ.out _ (by assumption); clear ruq hqn hqb)
      | (go_at_call 94; refine (HWITH.out _ (by assumption) _ _ _ RUQ.out hqk HQN.out HQB.out hsq).mono ?_; have av0 := HAV.out _ (by assumption); have AV0 := Lib.hid av0; have hs0 := HSZ.out _ (by assumption); have BP := Lib.hid (HBL.out _ (by assumption)); rintro e vW ⟨⟨p', cp', rfl, rf', av'⟩, bN⟩; have RF' := Lib.hid rf'; have AV' := Lib.hid (av' _ hs0 AV0.out (fun _ z hz => by have := HQB.out z hz; omega)); have AVG := Lib.hid av'; clear rf' av' av0; have s9 := sx_keep YB.out bN (by assumption); obtain ⟨a9, b9, s9'⟩ := s9.2.2.2; have S9 := Lib.hid s9'; obtain ⟨z0, z1, z2, z3, z4, z5⟩ := s9'.cells; clear s9 s9')
      | fail)
  clear x0 x1 x2 x3 x4 x5
  go_wp2_with fail
  obtain ⟨y0, y1, y2, y3, y4, y5⟩ := (S9.out.set (.int .i64 (N : Int)) (.slice p' H cp')).cells
  refine bodyPost_ret (v := .tuple #[.agg #[.int .i64 (N : Int), .slice p' H cp'], .int .i64 0]) (by simp [results, Try.results21, go_sem, y0, y1, y2, y3]) rfl ?_
  have b9 := (S9.out.set (.int .i64 (N : Int)) (.slice p' H cp')).2.2
  have hfar : ∀ b, b < vW.heap.size → b ≠ w.heap.size + 1 → ((vW.setCell ⟨w.heap.size + 1, 0, none⟩ (.int .i64 (N : Int))).setCell ⟨w.heap.size + 1, 1, none⟩ (.slice p' H cp')).heap[b]? = vW.heap[b]? := fun b hb hne => by
    exact (Below.heap_setCell _ ⟨w.heap.size + 1, 1, none⟩ _ b (by show b ≠ w.heap.size + 1; exact hne)).trans (Below.heap_setCell vW ⟨w.heap.size + 1, 0, none⟩ _ b (by show b ≠ w.heap.size + 1; exact hne))
  refine ⟨⟨p', cp', rfl, RF'.out.put AV'.out (by simp) hfar, fun av hav hA => ?_⟩, b9⟩
  exact (AVG.out av (by omega) (hA.below RR.out BP.out) (fun _ z hz => by have := HQB.out z hz; omega)).put RF'.out AV'.out hfar
end
end Go.Proofs.Ytjcabdnjimcdgaa.Lnk
