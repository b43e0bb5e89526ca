/-
  Links (layer 14): what LinksIterates wants: weak contracts, the law's state, a pair of calls.
-/
import Derived.Test.YtjcabdnjimcdgaaLnkX
import Derived.Test.YtjcabdnjimcdgaaLnkJ
import Derived.Test.YtjcabdnjimcdgaaLnkV
set_option linter.unusedVariables false
set_option linter.unusedSimpArgs false
namespace Go.Proofs.Ytjcabdnjimcdgaa.Lnk
open Go Go.RowKit Kit
/-- the object stays one, whatever its lists are -/
def Wk (e : Ending) (w w' : World) (c q r cq cr N H : Nat) : Prop := (∃ code, e = .returned (.int .i64 code)) ∧ (∃ F Ls, Lo w' c q r cq cr N F Ls ∧ Ls.length = H) ∧ Kp (Ob c q r) w w'
section
variable {w : World} {c q r cq cr N : Nat} {F : Fd} {Ls : List (List Nat)}
theorem Wk.same {e : Ending} {w' : World} {code : Int} {H : Nat} (L : Lo w c q r cq cr N F Ls) (hH : Ls.length = H) (h : e = .returned (.int .i64 code) ∧ Below w.heap.size w w') : Wk e w w' c q r cq cr N H :=
  ⟨⟨_, h.1⟩, ⟨F, Ls, L.below h.2, hH⟩, Kp.of h.2⟩
theorem remove_wk (L : Lo w c q r cq cr N F Ls) {H : Nat} (hH : Ls.length = H) {n : Int} (n0 : 0 ≤ n) (n1 : n < 4294967296) :
    Calls Try.prog 24 #[.pointer (some ⟨c, 0, none⟩), .int .u32 n] w fun e w' => Wk e w w' c q r cq cr N H := by
  obtain ⟨m, rfl⟩ : ∃ m : Nat, n = (m : Int) := ⟨n.toNat, by omega⟩
  by_cases hN : (N : Int) ≤ (m : Int)
  · exact (Remove_bad L hN n1).mono fun e w' h => Wk.same L hH h
  · by_cases hf : F.hd m = -1
    · exact (Remove_free L (by omega) hf).mono fun e w' h => Wk.same L hH h
    · obtain ⟨k, l, hl, hmem, hk⟩ := L.ring.in_list (by omega) hf
      obtain ⟨l1, l2, rfl⟩ := List.append_of_mem hmem
      refine Calls.mono (Remove_ok L hl) ?_
      rintro e w' ⟨h1, h2, h3⟩
      exact ⟨⟨_, h1⟩, ⟨_, _, h2, by simp [hH]⟩, h3⟩
theorem front_wk (L : Lo w c q r cq cr N F Ls) {H h : Nat} (hH : Ls.length = H) (hh : h < H) {n : Int} (n0 : 0 ≤ n) (n1 : n < 4294967296) :
    Calls Try.prog 25 #[.pointer (some ⟨c, 0, none⟩), .int .i64 (h : Int), .int .u32 n] w fun e w' => Wk e w w' c q r cq cr N H := by
  obtain ⟨m, rfl⟩ : ∃ m : Nat, n = (m : Int) := ⟨n.toNat, by omega⟩
  by_cases hN : (N : Int) ≤ (m : Int)
  · exact (Front_badN L (by omega) hN n1).mono fun e w' h => Wk.same L hH h
  · by_cases hf : F.hd m = -1
    · refine (Front_ok L (List.getElem?_eq_getElem (by omega)) (by omega) ((L.ring.free_iff (by omega)).1 hf)).mono ?_
      rintro e w' ⟨h1, h2, h3⟩
      exact ⟨⟨_, h1⟩, ⟨_, _, h2, by simp [hH]⟩, h3⟩
    · exact (Front_busy L (by omega) (by omega) hf).mono fun e w' h => Wk.same L hH h
end
theorem made_rf2 (w : World) (H g : Nat) (h : w.heap[g]? = some (.cells (madeCells #[.slice none 0 0] H) 39 (0, 0))) : Rf2 w (some ⟨g, 0, none⟩) (List.replicate H []) := by
  intro k l hl
  rw [List.getElem?_replicate] at hl
  split at hl
  · rename_i hk
    cases hl
    refine ⟨_, rfl, (Array.getElem?_eq_some_iff.1 h).1, none, 0, ?_, fun i x hx => by simp [ints] at hx, Nat.le_refl _, fun _ => rfl⟩
    rw [add2]
    have : (madeCells #[.slice none 0 0] H)[k]? = some (.slice none 0 0) := by simp [madeCells, hk, Nat.mod_one]
    simp [World.cell?, h, this]
  · cases hl
set_option maxRecDepth 100000 in
theorem rnew2 (N H : Nat) (w : World) (n1 : 1 ≤ N) (n2 : N ≤ 4194304) (h1 : 1 ≤ H) (h2 : H ≤ 4096) :
    Calls Try.prog 15 #[.int .i64 (N : Int), .int .i64 (H : Int)] w fun e w' => (∃ p, e = .returned (.tuple #[fv N p H H, .bool true]) ∧ Rf2 w' p (List.replicate H []) ∧ ∀ b, b < w.heap.size → Av w' p (List.replicate H []) b) ∧ Below w.heap.size w w' := by
  have a1 : ¬ (N : Int) < 1 := by omega
  have a2 : ¬ (4194304 : Int) < (N : Int) := by omega
  have a3 : ¬ (H : Int) < 1 := by omega
  have a4 : ¬ (4096 : Int) < (H : Int) := by omega
  have hm := fun w => make_any (P := Try.prog) w 22 39 _ 1 24 (by kernel_rfl) sl_info H (by omega) (by omega)
  go_enter Try.func15, Try.ntmps15
  go_wp2_with fail
  obtain ⟨f0, f1⟩ := two_of ((Below.heap_alloc (w.alloc (.cells #[.int .i64 (N : Int), .slice (some ⟨w.heap.size + 1, 0, none⟩) H H] 24)) (.cells (madeCells #[.slice none 0 0] H) 39) w.heap.size (by simp)).trans (MapKept.heap_alloc w (Obj.cells #[.int .i64 (N : Int), .slice (some ⟨w.heap.size + 1, 0, none⟩) H H] 24)).1)
  refine bodyPost_ret (v := .tuple #[.agg #[.int .i64 (N : Int), .slice (some ⟨w.heap.size + 1, 0, none⟩) H H], .bool true]) (by simp [results, Try.results15, go_sem, f0, f1]) rfl ?_
  refine ⟨⟨some ⟨w.heap.size + 1, 0, none⟩, rfl, made_rf2 _ H _ ?_, fun b hb k l hl y hy => ?_⟩, by go_grown⟩
  case refine_2 =>
    cases hy
    rw [List.getElem?_replicate] at hl
    split at hl
    · cases hl
      exact ⟨by show w.heap.size + 1 ≠ b; omega, fun _ _ _ _ hne => absurd rfl hne⟩
    · cases hl
  have := (MapKept.heap_alloc (w.alloc (Obj.cells #[.int .i64 (N : Int), .slice (some ⟨w.heap.size + 1, 0, none⟩) H H] 24)) (.cells (madeCells #[.slice none 0 0] H) 39)).1
  simpa using this
/-- the first two variables of the law -/
def M2 (W v : World) (many : Int) : Prop := v.heap[W.heap.size]? = some (.cells #[.int .u8 many] 5 (0, 0)) ∧ v.heap[W.heap.size + 1]? = some (.cells #[.bool false] 4 (0, 0)) ∧ Below W.heap.size W v
theorem M2.new (W : World) (many : Int) : ∃ V, (W.alloc (.cells #[.int .u8 many] 5)).alloc (.cells #[.bool false] 4) = V ∧ M2 W V many :=
  ⟨_, rfl, (Below.heap_alloc _ _ W.heap.size (by simp)).trans (MapKept.heap_alloc W _).1, by simpa using (MapKept.heap_alloc (W.alloc (.cells #[.int .u8 many] 5)) (.cells #[.bool false] 4)).1, by go_grown⟩
theorem M2.lt {W v : World} {many : Int} (h : M2 W v many) : W.heap.size + 1 < v.heap.size := (Array.getElem?_eq_some_iff.1 h.2.1).1
theorem M2.keep {W v v' : World} {many : Int} (h : M2 W v many) (hs : v.heap.size ≤ v'.heap.size) (hb : ∀ k, k < W.heap.size + 2 → v'.heap[k]? = v.heap[k]?) (h3 : Below W.heap.size W v') : M2 W v' many :=
  ⟨(hb _ (by omega)).trans h.1, (hb _ (by omega)).trans h.2.1, h3⟩
theorem M2.below {W v v' : World} {many : Int} (h : M2 W v many) (hb : Below v.heap.size v v') : M2 W v' many :=
  h.keep hb.size (fun k hk => hb.block k (by have := h.lt; omega)) (tr h.2.2 hb)
theorem Rf2.kp {w w' : World} {p : Option Addr} {Ls : List (List Nat)} {bad : Nat → Prop} (R : Rf2 w p Ls) (h : ∀ b, bad b → Av w p Ls b) (hk : Kp bad w w') : Rf2 w' p Ls := fun k l hl => by
  obtain ⟨y, hy, hb, ph, ch, hc, hr, hq⟩ := R k l hl
  have cell : ∀ (a : Addr), a.block < w.heap.size → ¬ bad a.block → w'.cell? a = w.cell? a := fun a h1 h2 => cell_of_blk (hk.block _ h1 h2)
  have n1 : ¬ bad y.block := fun h1 => (h _ h1 k l hl y hy).1 rfl
  refine ⟨y, hy, Nat.lt_of_lt_of_le hb hk.size, ph, ch, by rw [cell _ (by rw [add_block]; exact hb) (by rw [add_block]; exact n1)]; exact hc, fun i x hx => ?_, hq⟩
  obtain ⟨z, hz, hb', hc'⟩ := hr i x hx
  have hne : l ≠ [] := fun h0 => by subst h0; simp [ints] at hx
  have n2 : ¬ bad z.block := fun h1 => (h _ h1 k l hl y hy).2 ph _ ch hc hne z hz rfl
  exact ⟨z, hz, Nat.lt_of_lt_of_le hb' hk.size, by rw [cell _ (by rw [add_block]; exact hb') (by rw [add_block]; exact n2)]; exact hc'⟩
theorem Av.kp {w w' : World} {p : Option Addr} {Ls : List (List Nat)} {av : Nat} {bad : Nat → Prop} (R : Rf2 w p Ls) (h : Av w p Ls av) (h2 : ∀ b, bad b → Av w p Ls b) (hk : Kp bad w w') : Av w' p Ls av := fun k l hl y hy => by
  obtain ⟨y', hy', hb, _⟩ := R k l hl
  rw [hy] at hy'
  cases hy'
  obtain ⟨a1, a2⟩ := h k l hl y hy
  have n1 : ¬ bad y.block := fun h1 => (h2 _ h1 k l hl y hy).1 rfl
  refine ⟨a1, fun ph n ch hc => a2 ph n ch ?_⟩
  rwa [cell_of_blk (hk.block _ (by rw [add_block]; exact hb) (by rw [add_block]; exact n1))] at hc
/-- the law's state: its first variables, the box of the field, and the object; the reference's lists apart from all of them -/
structure Si (W v : World) (many : Int) (bx bf c q r N : Nat) (F : Fd) (Ls Rs : List (List Nat)) (p : Option Addr) (cp : Nat) : Prop where
  m2 : M2 W v many
  xb : v.heap[bx]? = some (.cells #[.pointer (some ⟨c, 0, none⟩)] 28 (0, 0))
  fb : v.heap[bf]? = some (.cells #[.int .i64 (N : Int), .slice p 2 cp] 24 (0, 0))
  lo : Lo v c q r (N + 2) 2 N F Ls
  len : Ls.length = 2
  rf : Rf2 v p Rs
  rlen : Rs.length = 2
  av : ∀ b, b = bf ∨ Ob c q r b → Av v p Rs b
  dc : W.heap.size + 2 ≤ c ∧ W.heap.size + 2 ≤ q ∧ W.heap.size + 2 ≤ r
  dx : c < bx ∧ q < bx ∧ r < bx
  df : bx < bf
theorem Si.below {W v v' : World} {many : Int} {bx bf c q r N cp : Nat} {F : Fd} {Ls Rs : List (List Nat)} {p : Option Addr} (h : Si W v many bx bf c q r N F Ls Rs p cp) (hb : Below v.heap.size v v') : Si W v' many bx bf c q r N F Ls Rs p cp :=
  ⟨h.m2.below hb, (hb.block _ (Array.getElem?_eq_some_iff.1 h.xb).1).trans h.xb, (hb.block _ (Array.getElem?_eq_some_iff.1 h.fb).1).trans h.fb, h.lo.below hb, h.len, h.rf.below hb, h.rlen, fun b hb2 => (h.av b hb2).below h.rf hb, h.dc, h.dx, h.df⟩
/-- a call that changes the object alone -/
theorem Si.kp {W v v' : World} {many : Int} {bx bf c q r N cp : Nat} {F F' : Fd} {Ls Ls' Rs : List (List Nat)} {p : Option Addr} (h : Si W v many bx bf c q r N F Ls Rs p cp) (hk : Kp (Ob c q r) v v') (hl : Lo v' c q r (N + 2) 2 N F' Ls') (hn : Ls'.length = 2) : Si W v' many bx bf c q r N F' Ls' Rs p cp := by
  have dc := h.dc
  have dx := h.dx
  have df := h.df
  have out : ∀ b, (b < W.heap.size + 2 ∨ bx ≤ b) → ¬ Ob c q r b := fun b hb h1 => by rcases h1 with rfl | rfl | rfl <;> omega
  have hs : Below W.heap.size v v' := ⟨hk.os, hk.tape, hk.output, hk.size, fun k hk2 => hk.block k (by have := h.m2.lt; omega) (out k (.inl (by omega)))⟩
  exact ⟨h.m2.keep hk.size (fun k hk2 => hk.block k (by have := h.m2.lt; omega) (out k (.inl hk2))) (h.m2.2.2.trans hs), (hk.block _ (Array.getElem?_eq_some_iff.1 h.xb).1 (out _ (.inr (Nat.le_refl _)))).trans h.xb, (hk.block _ (Array.getElem?_eq_some_iff.1 h.fb).1 (out _ (.inr (by omega)))).trans h.fb, hl, hn, h.rf.kp (fun b hb => h.av b (.inr hb)) hk, h.rlen, fun b hb2 => (h.av b hb2).kp h.rf (fun b hb => h.av b (.inr hb)) hk, h.dc, h.dx, h.df⟩
theorem Si.cells {W v : World} {many : Int} {bx bf c q r N cp : Nat} {F : Fd} {Ls Rs : List (List Nat)} {p : Option Addr} (h : Si W v many bx bf c q r N F Ls Rs p cp) : v.cell? ⟨bx, 0, none⟩ = some (.pointer (some ⟨c, 0, none⟩)) ∧ v.cell? ⟨bf, 0, none⟩ = some (.int .i64 (N : Int)) ∧ v.cell? ⟨bf, 1, none⟩ = some (.slice p 2 cp) ∧ v.frozen? ⟨bf, 0, none⟩ = false ∧ v.frozen? ⟨bf, 1, none⟩ = false ∧ v.cell? ⟨W.heap.size, 0, none⟩ = some (.int .u8 many) ∧ v.cell? ⟨W.heap.size + 1, 0, none⟩ = some (.bool false) ∧ v.frozen? ⟨W.heap.size + 1, 0, none⟩ = false := by
  have h1 := h.xb
  have h2 := h.fb
  have h3 := h.m2.1
  have h4 := h.m2.2.1
  exact ⟨by simp [World.cell?, h1], (two_of h2).1, (two_of h2).2, by simp [World.frozen?, h2], by simp [World.frozen?, h2], by simp [World.cell?, h3], by simp [World.cell?, h4], by simp [World.frozen?, h4]⟩
theorem Si.start {W v1 v2 : World} {many : Int} {c q r N : Nat} {F : Fd} {p : Option Addr} (hm : M2 W v2 many) (hx : v2.heap[v1.heap.size]? = some (.cells #[.pointer (some ⟨c, 0, none⟩)] 28 (0, 0))) (lo : Lo v2 c q r (N + 2) 2 N F (List.replicate 2 [])) (rf : Rf2 v2 p (List.replicate 2 [])) (ha : ∀ b, Ob c q r b → Av v2 p (List.replicate 2 []) b) (dc : W.heap.size + 2 ≤ c ∧ W.heap.size + 2 ≤ q ∧ W.heap.size + 2 ≤ r) (dx : c < v1.heap.size ∧ q < v1.heap.size ∧ r < v1.heap.size) (df : v1.heap.size < v2.heap.size) :
    ∃ V3, v2.alloc (.cells #[.int .i64 (N : Int), .slice p 2 2] 24) = V3 ∧ Si W V3 many v1.heap.size v2.heap.size c q r N F (List.replicate 2 []) (List.replicate 2 []) p 2 := by
  have hb := box_below v2 #[.int .i64 (N : Int), .slice p 2 2] 24
  refine ⟨_, rfl, hm.below hb, (hb.block _ df).trans hx, (MapKept.heap_alloc v2 _).1, lo.below hb, rfl, rf.below hb, rfl, fun b h2 => ?_, dc, dx, df⟩
  rcases h2 with rfl | h2
  · exact (rf.av (Nat.le_refl _)).below rf hb
  · exact (ha b h2).below rf hb
/-- what a slot that is added to the back of list 0 gives -/
theorem pair_any {N : Nat} (n1 : 1 ≤ N) (n2 : N ≤ 60) (Ls : List (List Nat)) (hn : Ls.length = 2) {F0 : Fd} {w0 : World} {c0 q0 r0 cq0 cr0 : Nat} (L0 : Lo w0 c0 q0 r0 cq0 cr0 N F0 Ls) {a : Int} (a0 : 0 ≤ a) (a1 : a < 4294967296) :
    ∃ Ls' code, Ls'.length = 2 ∧ (∀ (v : World) (p : Option Addr) (cp : Nat), Rf2 v p Ls → Calls Try.prog 21 #[fv N p 2 cp, .int .i64 0, .int .u32 a, .bool false] v fun e w' => AdR e v p Ls w' N 2 Ls' code ∧ Below v.heap.size v w') ∧
      (∀ (v : World) (c q r cq cr : Nat) (F : Fd), Lo v c q r cq cr N F Ls → Calls Try.prog 22 #[.pointer (some ⟨c, 0, none⟩), .int .i64 0, .int .u32 a] v fun e w' => e = .returned (.int .i64 code) ∧ (∃ F', Lo w' c q r cq cr N F' Ls') ∧ Kp (Ob c q r) v w') := by
  obtain ⟨m, rfl⟩ : ∃ m : Nat, a = (m : Int) := ⟨a.toNat, by omega⟩
  obtain ⟨l, hl⟩ : ∃ l, Ls[0]? = some l := ⟨Ls[0]'(by omega), List.getElem?_eq_getElem _⟩
  by_cases hN : (N : Int) ≤ (m : Int)
  · refine ⟨Ls, 2, hn, fun v p cp R => radd_bad R (by omega) (by omega) false (by omega), fun v c q r cq cr F L => (Back_badN (h := 0) L (by omega) hN a1).mono ?_⟩
    rintro e w' ⟨h1, h2⟩
    exact ⟨h1, ⟨F, L.below h2⟩, Kp.of h2⟩
  · have hLL : ∀ (h : Nat) (l : List Nat), Ls[h]? = some l → l.length ≤ 999999 := fun h l hl => by have := L0.few hl; omega
    by_cases hf : Free Ls m
    · refine ⟨Ls.set 0 (l ++ [m]), 0, by simp [hn], fun v p cp R => radd_back (h := 0) R hn (by omega) (by omega) hLL (by omega) (by omega) hl hf, fun v c q r cq cr F L => (Back_ok (h := 0) L hl (by omega) hf).mono ?_⟩
      rintro e w' ⟨h1, h2, h3⟩
      exact ⟨h1, ⟨_, h2⟩, h3⟩
    · refine ⟨Ls, 11, hn, fun v p cp R => radd_busy (h := 0) R hn (by omega) (by omega) hLL false (by omega) (by omega) hf, fun v c q r cq cr F L => (Back_busy (h := 0) L (by omega) (by omega) (fun h => hf ((L.ring.free_iff (by omega)).1 h))).mono ?_⟩
      rintro e w' ⟨h1, h2⟩
      exact ⟨h1, ⟨F, L.below h2⟩, Kp.of h2⟩
end Go.Proofs.Ytjcabdnjimcdgaa.Lnk
