/-
  Package entrylog (layer 9): Set, Append.
-/
import Derived.Test.YtdhdaknfmpfegaaElvB
import Derived.Deep.AppendLies
import Derived.Deep.RegionHeld3
import Derived.Deep.RegionWith
import Derived.Deep.RegionLaw
import Derived.Deep.CutBlock
import Derived.Deep.DeepCutAuto
set_option linter.unusedVariables false
set_option linter.unusedSimpArgs false
namespace Go.Proofs.Ytdhdaknfmpfegaa.Elg
open Go Go.RowKit Kit Ent
section
variable {w0 v v' : World} {o live n : Nat} {X : Nat → Prop}
theorem Lw.r (h : Lw w0 v o live n X) : LwR w0 v v o live n X := ⟨h, fun _ _ => rfl, Nat.le_refl _⟩
theorem Lw.rb (h : Lw w0 v o live n X) (hb : Below v.heap.size v v') : LwR w0 v v' o live n X := ⟨h.below' hb, fun k hk => hb.block k (h.xl k hk), hb.size⟩
theorem LwR.trans {v'' : World} {l1 n1 l2 n2 : Nat} (h : LwR w0 v v' o l1 n1 X) (h' : LwR w0 v' v'' o l2 n2 X) : LwR w0 v v'' o l2 n2 X := ⟨h'.1, fun k hk => (h'.2.1 k hk).trans (h.2.1 k hk), Nat.le_trans h.2.2 h'.2.2⟩
theorem hset {W : World} {q j : Nat} {cs : Array Value} {t : TypeId} (hh : W.heap[q]? = some (.cells cs t (0, 0))) (u : Value) : (W.setCell ⟨q, j, none⟩ u).heap[q]? = some (.cells (cs.setIfInBounds j u) t (0, 0)) := by
  obtain ⟨hlt, hk⟩ := Array.getElem?_eq_some_iff.1 hh
  show (W.heap.modify q _)[q]? = _
  rw [Array.getElem?_eq_getElem (by rw [Array.size_modify]; exact hlt), Array.getElem_modify_self, hk]
  simp
theorem En4.left {xs ys : List Value} {i : Nat} (h : En4 xs i) : En4 (xs ++ ys) i := by
  obtain ⟨k, p, l, c, d, b, e0, e1, e2, e3, e4⟩ := h
  have go : ∀ j v0, xs[j]? = some v0 → (xs ++ ys)[j]? = some v0 := fun j v0 hj => by
    rw [List.getElem?_append_left (List.getElem?_eq_some_iff.1 hj).1]; exact hj
  exact ⟨k, p, l, c, d, b, go _ _ e0, go _ _ e1, go _ _ e2, go _ _ e3, e4⟩
theorem En4.last {xs : List Value} (hl : xs.length = n * 4) (k : ByteArray) (p : Option Addr) (l c : Nat) (d b : Int) (hb : b ≠ 0) : En4 (xs ++ [.string k, .slice p l c, .int .u64 d, .int .u64 b]) n := by
  have go : ∀ j, (xs ++ [.string k, .slice p l c, .int .u64 d, .int .u64 b])[n * 4 + j]? = ([.string k, .slice p l c, .int .u64 d, .int .u64 b] : List Value)[j]? := fun j => by
    rw [List.getElem?_append_right (by omega), hl, Nat.add_sub_cancel_left]
  exact ⟨k, p, l, c, d, b, go 0, go 1, go 2, go 3, hb⟩
/-- an entry is added -/
theorem Lw.grow {u w' : World} (h : Lw w0 v o live n X) {p : Option Addr} {c : Nat} {xs : List Value} (h1 : v.heap[o]? = some (.cells #[.bool true, .int .i64 (live : Int), .slice p n c] 67 (0, 0))) (hl : xs.length = n * 4) (h3 : ∀ i, i < n → En4 xs i) (h4 : ∀ y, p = some y → y.block ≠ o ∧ ¬ X y.block ∧ w0.heap.size ≤ y.block)
    (hb : Below v.heap.size v u) {k : ByteArray} {p' : Option Addr} {l c' : Nat} {d b : Int} (hb0 : b ≠ 0) {g cap : Nat} (hown : w'.ownsRow w0.heap.size 36 4 (.slice (some ⟨g, 0, none⟩) (n + 1) cap) (n + 1) (xs ++ [.string k, .slice p' l c', .int .u64 d, .int .u64 b])) (hg : u.grownBy w' (Value.slice p n c).ownBlock) (hat : (Value.slice p n c).ownBlock = some g ∨ v.heap.size ≤ g) :
    LwR w0 v ((w'.setCell ⟨o, 2, none⟩ (.slice (some ⟨g, 0, none⟩) (n + 1) cap)).setCell ⟨o, 1, none⟩ (.int .i64 ((live : Int) + 1))) o (live + 1) (n + 1) X := by
  have ho := h.olt
  have hs := hb.size
  have hs2 := hg.size
  have hrow : ∀ j, j < v.heap.size → (∀ y, p = some y → y.block ≠ j) → w'.heap[j]? = v.heap[j]? := fun j hj hne => (hg.block j (by omega) fun e => by
    cases p with
    | none => cases e
    | some y => simp [Value.ownBlock] at e; exact hne y rfl e.symm).trans (hb.block j hj)
  have hset2 : ∀ j, j ≠ o → ((w'.setCell ⟨o, 2, none⟩ (.slice (some ⟨g, 0, none⟩) (n + 1) cap)).setCell ⟨o, 1, none⟩ (.int .i64 ((live : Int) + 1))).heap[j]? = w'.heap[j]? := fun j hj => (Below.heap_setCell _ ⟨o, 1, none⟩ _ j hj).trans (Below.heap_setCell _ ⟨o, 2, none⟩ _ j hj)
  have hgo : g ≠ o ∧ ¬ X g ∧ w0.heap.size ≤ g := by
    rcases hat with e | e
    · cases p with
      | none => cases e
      | some y => simp [Value.ownBlock] at e; exact e ▸ h4 y rfl
    · have := h.bl.size
      exact ⟨by omega, fun hx => by have := h.xl g hx; omega, by omega⟩
  have hol := h.ol
  have hbw : Below w0.heap.size w0 w' := ⟨hg.os.trans (hb.os.trans h.bl.os), hg.tape.trans (hb.tape.trans h.bl.tape), hg.output.trans (hb.output.trans h.bl.output), by have := h.bl.size; omega, fun j hj => (hrow j (by have := h.bl.size; omega) fun y hy => by have := (h4 y hy).2.2; omega).trans (h.bl.block j hj)⟩
  have hxo := h.xo
  refine ⟨⟨⟨some ⟨g, 0, none⟩, cap, xs ++ [.string k, .slice p' l c', .int .u64 d, .int .u64 b], ?_, ?_, fun i hi => ?_, fun y hy => by cases hy; exact hgo⟩, (hbw.setCell (p := ⟨o, 2, none⟩) hol _).setCell (p := ⟨o, 1, none⟩) hol _, hol, hxo, fun j hj => ?_⟩, fun j hj => ?_, ?_⟩
  · have e := hset (j := 1) (hset (j := 2) ((hrow o ho fun y hy => (h4 y hy).1).trans h1) (.slice (some ⟨g, 0, none⟩) (n + 1) cap)) (.int .i64 ((live : Int) + 1))
    simpa using e
  · exact row_of hown fun y hy => by cases hy; exact hset2 g hgo.1
  · by_cases hin : i < n
    · exact (h3 i hin).left
    · obtain rfl : i = n := by omega
      exact En4.last hl k p' l c' d b hb0
  · rw [World.size_setCell, World.size_setCell]; have := h.xl j hj; omega
  · exact (hset2 j fun e => hxo (e ▸ hj)).trans (hrow j (h.xl j hj) fun y hy e => (h4 y hy).2.1 (e ▸ hj))
  · rw [World.size_setCell, World.size_setCell]; omega
theorem app_facts {w3 u w5 : World} {row : Option Nat} {o : Nat} {c : Obj} (hb : Below w3.heap.size w3 u) (hg : u.grownBy w5 row) (ho : o < w3.heap.size) (hne : some o ≠ row) (hx : w3.heap[o]? = some c) : w5.heap[o]? = some c :=
  (hg.block o (Nat.lt_of_lt_of_le ho hb.size) hne).trans ((hb.block o ho).trans hx)
/-- append of one entry, at a step of a region that draws -/
theorem step_app4 {w : World} {ops : Array Oper} {o : Oper} {a : Act} {K : Act → World → Prop} {Q : Exit → Act → World → Prop} {E : Prop} (hgd : o.guard = none) (s x : Operand)
    (ho : o.op = .call { callee := .builtin .append, args := #[s, x], argTypes := #[27, 27] })
    (base : Nat) {q : Option Addr} {n cq : Nat} {xs : List Value} (hs : a.eval s = .slice q n cq) (hown : w.ownsRow base 36 4 (.slice q n cq) n xs) (ad : Addr) {k : ByteArray} {p' : Option Addr} {l c' : Nat} {d b : Int} (hx : a.eval x = .slice (some ad) 1 1)
    (hnews : ∀ j u, ([.string k, .slice p' l c', .int .u64 d, .int .u64 b] : List Value)[j]? = some u → w.cell? (ad.add j) = some u) (hn : n ≤ 1000) (hbase : base ≤ w.heap.size) (H : Nat) (hH : w.heap.size = H)
    (h : ∀ g cap w', w'.ownsRow base 36 4 (.slice (some ⟨g, 0, none⟩) (n + 1) cap) (n + 1) (xs ++ [.string k, .slice p' l c', .int .u64 d, .int .u64 b]) → w.grownBy w' (Value.slice q n cq).ownBlock → ((Value.slice q n cq).ownBlock = some g ∨ g = H) → g < w'.heap.size → K (a.put o.dst (.slice (some ⟨g, 0, none⟩) (n + 1) cap)) w') :
    if Region.wanted o (yielded ops a.tmps) = true then Oper.wp Try.prog o a w K Q else E := by
  obtain ⟨i0, hi0, hzz⟩ := Option.map_eq_some_iff.1 (by kernel_rfl : (Try.prog.info? 36).map (fun i => (i.zero, i.size, i.bytes)) = some (some (.agg #[.string ⟨#[]⟩, .slice none 0 0, .int .u64 0, .int .u64 0]), 4, 56))
  simp only [Prod.mk.injEq] at hzz
  obtain ⟨hz0, hz1, hz2⟩ := hzz
  refine step_append_lies _ hgd s x 27 ho base 36 i0 (.agg #[.string ⟨#[]⟩, .slice none 0 0, .int .u64 0, .int .u64 0]) 4 56 Try.underlying27 hi0 hz0 hz1 hz2 rfl (by decide) (.slice q n cq) n xs hs hown ad 1 1 [.string k, .slice p' l c', .int .u64 d, .int .u64 b] hx rfl hnews ?_ (by decide) (by unfold maxLen; omega) (by omega) hbase H hH h
  intro u hu
  simp at hu
  rcases hu with rfl | rfl | rfl | rfl <;> rfl
set_option maxRecDepth 100000 in
theorem set_none (h : Lw w0 v o live n X) (slot : Nat) (hs : slot < 4294967296) (hn : n ≤ slot) (p : Option Addr) (l c : Nat) (z : Int) : Calls Try.prog 16 #[lp o, .int .u32 (slot : Int), .slice p l c, .int .u64 z] v fun e w' => e = .returned (.int .i64 9) ∧ v = w' := by
  have HAT := Lib.hid (at_none h slot hs hn)
  clear h hs hn
  go_enter Try.func16, Try.ntmps16
  go_wp2_with fail
  refine HAT.out.mono ?_
  rintro e w1 ⟨rfl, rfl⟩
  go_wp2_with fail
  exact bodyPost_ret (v := .int .i64 9) (by simp [results, Try.results16, go_sem]) rfl ⟨rfl, rfl⟩
set_option maxRecDepth 100000 in
theorem set_long (h : Lw w0 v o live n X) (slot : Nat) (hs : slot < 4294967296) (hn : slot < n) (hn2 : n ≤ 1000000) (p : Option Addr) (l c : Nat) (hl : 65536 < l) (z : Int) : Calls Try.prog 16 #[lp o, .int .u32 (slot : Int), .slice p l c, .int .u64 z] v fun e w' => e = .returned (.int .i64 5) ∧ LwR w0 v w' o live n X := by
  have HAT := Lib.hid (at_some h slot hs hn hn2)
  have H := Lib.hid h
  have hl2 : (65536 : Int) < (l : Int) := by omega
  clear h hs hn
  go_enter Try.func16, Try.ntmps16
  go_wp2_with fail
  refine HAT.out.mono ?_
  rintro e w1 ⟨g, c1, rfl, -, b1⟩
  have B1 := Lib.hid b1
  clear b1
  go_wp2_with fail
  exact bodyPost_ret (v := .int .i64 5) (by simp [results, Try.results16, go_sem]) rfl ⟨rfl, H.out.rb B1.out⟩
set_option maxRecDepth 100000 in
set_option maxHeartbeats 2000000 in
theorem set_ok (h : Lw w0 v o live n X) (slot : Nat) (hs : slot < 4294967296) (hn : slot < n) (hn2 : n ≤ 1000000) (p : Option Addr) (l c : Nat) (zs : List Int) (hl : l ≤ 65536) (hz : Ev.BytesOf v p l zs) (z : Int) : Calls Try.prog 16 #[lp o, .int .u32 (slot : Int), .slice p l c, .int .u64 z] v fun e w' => e = .returned (.int .i64 0) ∧ LwR w0 v w' o live n X := by
  have HAT := Lib.hid (at_some h slot hs hn hn2)
  have H := Lib.hid (And.intro h hn)
  have HCL := Lib.hid (fun (u : World) (b : Below v.heap.size v u) => clone_any p l c zs (by omega) u (hz.below b))
  have hl2 : ¬ (65536 : Int) < (l : Int) := by omega
  clear h hs hn hz
  go_enter Try.func16, Try.ntmps16
  go_wp2_with fail
  refine HAT.out.mono ?_
  rintro e w1 ⟨g, c1, rfl, hg, b1⟩
  have B1 := Lib.hid b1
  have HG := Lib.hid hg
  clear b1 hg
  go_wp2_with fail
  refine (HCL.out _ B1.out).mono ?_
  rintro e w2 ⟨p', c', rfl, -, b2, -⟩
  have H2 := Lib.hid (H.out.1.rb (tr B1.out b2))
  have hg2 : w2.cell? ⟨o, 2, none⟩ = some (.slice (some ⟨g, 0, none⟩) n c1) := ((tr B1.out b2).cell (p := ⟨o, 2, none⟩) H.out.1.olt).trans HG.out
  obtain ⟨g', c3, c2, hc, k, q, l', c4, d, b, e0, e1, e2, e3, e4, ef⟩ := H2.out.1.at_ H.out.2
  rw [hg2] at c2
  cases c2
  have H3 := Lib.hid (H2.out.trans (H2.out.1.set H.out.2 hg2 p' l c' z))
  clear b2 hg2
  go_wp2_with fail
  exact bodyPost_ret (v := .int .i64 0) (by simp [results, Try.results16, go_sem]) rfl ⟨rfl, H3.out⟩
set_option maxRecDepth 100000 in
set_option maxHeartbeats 2000000 in
theorem append_long (h : Lw w0 v o live n X) (k : ByteArray) (hk : keyB k = true) (p : Option Addr) (l c : Nat) (zs : List Int) (hl : 65536 < l) (hl2 : l ≤ 100000) (hz : Ev.BytesOf v p l zs) (d b : Int) (hb : b ≠ 0) :
    Calls Try.prog 18 #[lp o, ent k p l c d b] v fun e w' => e = .returned (.tuple #[.int .u32 0, .int .i64 5]) ∧ LwR w0 v w' o live n X := by
  have b0 : Below v.heap.size v (v.alloc (.cells #[.string k, .slice p l c, .int .u64 d, .int .u64 b] 36)) := by go_grown
  have HZ := Lib.hid (lzero_any (h.below' b0))
  have HN := Lib.hid (enew_any k p l c zs d b hl2 _ (hz.below b0))
  have hch : chk k l b = 5 := by unfold chk; rw [if_neg hb, if_neg (by rw [hk]; decide), if_pos hl]
  rw [hch] at HN
  have H := Lib.hid h
  have HX := Lib.hid (show (v.alloc (.cells #[.string k, .slice p l c, .int .u64 d, .int .u64 b] 36)).heap[v.heap.size]? = _ from (MapKept.heap_alloc v _).1)
  have B0 := Lib.hid b0
  clear h hz hb hl hl2 hch b0
  go_enter Try.func18, Try.ntmps18
  go_wp2_with fail
  refine HZ.out.mono ?_
  rintro e w1 ⟨rfl, rfl⟩
  clear HZ
  go_wp2_with fail
  refine HN.out.mono ?_
  rintro e w2 ⟨b2, he⟩
  have he2 : e = .returned (.tuple #[ent0, .int .i64 5]) := by
    rcases he with ⟨-, he⟩ | ⟨he, -⟩
    · exact he
    · omega
  subst he2
  have B2 := Lib.hid (tr B0.out b2)
  clear b2 he HN
  go_wp2_with fail
  exact bodyPost_ret (v := .tuple #[.int .u32 0, .int .i64 5]) (by simp [results, Try.results18, go_sem]) rfl ⟨rfl, H.out.rb (tr B2.out (by go_grown))⟩
set_option maxRecDepth 100000 in
set_option maxHeartbeats 4000000 in
theorem append_ok (h : Lw w0 v o live n X) (hn : n ≤ 1000) (hlv : live ≤ 1000) (k : ByteArray) (hk : keyB k = true) (p : Option Addr) (l c : Nat) (zs : List Int) (hl : l ≤ 65536) (hz : Ev.BytesOf v p l zs) (d b : Int) (hb : b ≠ 0) :
    Calls Try.prog 18 #[lp o, ent k p l c d b] v fun e w' => e = .returned (.tuple #[.int .u32 (n : Int), .int .i64 0]) ∧ LwR w0 v w' o (live + 1) (n + 1) X := by
  have b0 : Below v.heap.size v (v.alloc (.cells #[.string k, .slice p l c, .int .u64 d, .int .u64 b] 36)) := by go_grown
  have HZ := Lib.hid (lzero_any (h.below' b0))
  have HN := Lib.hid (enew_any k p l c zs d b (by omega) _ (hz.below b0))
  have hch : chk k l b = 0 := by unfold chk; rw [if_neg hb, if_neg (by rw [hk]; decide), if_neg (by omega)]
  rw [hch] at HN
  have H := Lib.hid h
  have HX := Lib.hid (show (v.alloc (.cells #[.string k, .slice p l c, .int .u64 d, .int .u64 b] 36)).heap[v.heap.size]? = _ from (MapKept.heap_alloc v _).1)
  have B0 := Lib.hid b0
  have HB := Lib.hid hb
  have HNN := Lib.hid (And.intro hn hlv)
  have g1 : ¬ (4194304 : Int) ≤ (n : Int) := by omega
  have g2 : decide (4194304 ≤ n) = false := decide_eq_false (by omega)
  have g3 : decide ((4194304 : Int) ≤ (n : Int)) = false := decide_eq_false g1
  clear h hz hb hl hch b0
  go_enter Try.func18, Try.ntmps18
  go_wp2_with fail
  refine HZ.out.mono ?_
  rintro e w1 ⟨rfl, rfl⟩
  clear HZ
  go_wp2_with fail
  refine HN.out.mono ?_
  rintro e w2 ⟨b2, he⟩
  obtain ⟨p', c', rfl⟩ : ∃ p' c', e = .returned (.tuple #[ent k p' l c' d b, .int .i64 0]) := by
    rcases he with ⟨he, -⟩ | ⟨-, p', c', he, -⟩
    · exact absurd rfl he
    · exact ⟨p', c', he⟩
  have hb3 : Below w2.heap.size w2 (w2.alloc (.cells #[.string k, .slice p' l c', .int .u64 d, .int .u64 b] 36)) := by go_grown
  have H3 := Lib.hid (H.out.below' (tr (tr B0.out b2) hb3))
  have B3 := Lib.hid (tr (tr B0.out b2) hb3)
  have hx3 := (MapKept.heap_alloc w2 (.cells #[.string k, .slice p' l c', .int .u64 d, .int .u64 b] 36)).1
  have hlt3 : w2.heap.size < (w2.alloc (.cells #[.string k, .slice p' l c', .int .u64 d, .int .u64 b] 36)).heap.size := by rw [World.size_alloc]; omega
  have htb := (tr B0.out b2).size
  clear b2 he HN hb3
  go_upto_region 6 with fail
  generalize w2.alloc (.cells #[.string k, .slice p' l c', .int .u64 d, .int .u64 b] 36) = w3 at *
  generalize w2.heap.size = tb at *
  obtain ⟨q, cq, xs, h1, h2, h3, h4⟩ := H.out.ex
  have hx := (B3.out.block o H.out.olt).trans h1
  obtain ⟨d0, d1, d2⟩ : w3.cell? ⟨o, 0, none⟩ = some (.bool true) ∧ w3.cell? ⟨o, 1, none⟩ = some (.int .i64 (live : Int)) ∧ w3.cell? ⟨o, 2, none⟩ = some (.slice q n cq) := by refine ⟨?_, ?_, ?_⟩ <;> simp [World.cell?, hx]
  have df : ∀ j, w3.frozen? ⟨o, j, none⟩ = false := fun j => by simp [World.frozen?, hx]
  obtain ⟨e0, e1, e2, e3⟩ : w3.cell? ⟨tb, 0, none⟩ = some (.string k) ∧ w3.cell? ⟨tb, 1, none⟩ = some (.slice p' l c') ∧ w3.cell? ⟨tb, 2, none⟩ = some (.int .u64 d) ∧ w3.cell? ⟨tb, 3, none⟩ = some (.int .u64 b) := by refine ⟨?_, ?_, ?_, ?_⟩ <;> simp [World.cell?, hx3]
  have HROW := Lib.hid (And.intro h1 (And.intro h2 (And.intro h3 h4)))
  have HX3 := Lib.hid (And.intro hx (And.intro hx3 hlt3))
  have HTB := Lib.hid (show some tb ≠ (Value.slice q n cq).ownBlock from fun e => by
      cases q with
      | none => cases e
      | some y => simp [Value.ownBlock] at e; have := (row_lt h2 y rfl).2; omega)
  clear htb
  clear h1 h2 h3 h4 hx hx3 hlt3
  have HOW := Lib.hid (fun (u : World) (hb : Below w3.heap.size w3 u) => row_of (v' := u) HROW.out.2.1 fun y hy => (tr B3.out hb).block _ (row_lt HROW.out.2.1 y hy).2)
  have HNE := Lib.hid (show some o ≠ (Value.slice q n cq).ownBlock ∧ o < w3.heap.size ∧ w0.heap.size ≤ w3.heap.size ∧ v.heap.size ≤ w3.heap.size from
    ⟨fun e => by
      cases q with
      | none => cases e
      | some y => simp [Value.ownBlock] at e; exact (HROW.out.2.2.2 y rfl).1 e.symm, H3.out.olt, H3.out.bl.size, B3.out.size⟩)
  have HNW := Lib.hid (World.news_of_block (w := (w3.alloc (.cells #[.string k, .slice p' l c', .int .u64 d, .int .u64 b] 36)).drew) (B := w3.heap.size) (cs := #[.string k, .slice p' l c', .int .u64 d, .int .u64 b]) (t := 36) (fr := (0, 0)) (show (w3.alloc (.cells #[.string k, .slice p' l c', .int .u64 d, .int .u64 b] 36)).heap[w3.heap.size]? = _ from (MapKept.heap_alloc w3 _).1))
  have HBD := Lib.hid (show Below w3.heap.size w3 ((w3.alloc (.cells #[.string k, .slice p' l c', .int .u64 d, .int .u64 b] 36)).drew) from by go_grown)
  go_upto_region 8 with fail
  clear g1 g2 g3
  have hlt3 := HX3.out.2.2
  have holt3 := HNE.out.2.1
  go_region_law
    ((refine step_app4 rfl (.tmp 35) (.tmp 37) rfl w0.heap.size rfl (HOW.out _ HBD.out) ⟨w3.heap.size, 0, none⟩ rfl HNW.out HNN.out.1 (Nat.le_trans HNE.out.2.2.1 HBD.out.size) (w3.heap.size + 1) (by simp) ?_; intro g cap w5 hown hgrow hat hlt; have hh := app_facts HBD.out hgrow HNE.out.2.1 HNE.out.1 HX3.out.1; have ht := app_facts HBD.out hgrow HX3.out.2.2 HTB.out HX3.out.2.1; have HAP := Lib.hid (And.intro hown (And.intro hgrow hat)); obtain ⟨a0, a1, a2, af⟩ : w5.cell? ⟨o, 0, none⟩ = some (.bool true) ∧ w5.cell? ⟨o, 1, none⟩ = some (.int .i64 (live : Int)) ∧ w5.cell? ⟨o, 2, none⟩ = some (.slice q n cq) ∧ ∀ j, w5.frozen? ⟨o, j, none⟩ = false := (by refine ⟨?_, ?_, ?_, fun j => ?_⟩ <;> simp [World.cell?, World.frozen?, hh]); obtain ⟨t0, t1, t2, t3⟩ : w5.cell? ⟨tb, 0, none⟩ = some (.string k) ∧ w5.cell? ⟨tb, 1, none⟩ = some (.slice p' l c') ∧ w5.cell? ⟨tb, 2, none⟩ = some (.int .u64 d) ∧ w5.cell? ⟨tb, 3, none⟩ = some (.int .u64 b) := (by refine ⟨?_, ?_, ?_, ?_⟩ <;> simp [World.cell?, ht]); clear hown hgrow hat hlt hh ht))
  all_goals
    have HG := Lib.hid (H.out.grow HROW.out.1 HROW.out.2.1.1 HROW.out.2.2.1 HROW.out.2.2.2 (tr B3.out HBD.out) HB.out HAP.out.1 HAP.out.2.1 (HAP.out.2.2.imp id fun e => by have := HNE.out; omega))
    have wl := IntWalk.i64_in ((live : Int) + 1) (by have := HNN.out; omega)
    have wn1 : IntKind.i64.wrap (((n : Int) + 1) - 1) = (n : Int) := by rw [IntWalk.i64_in _ (by have := HNN.out; omega)]; omega
    have wn2 : IntKind.i64.wrap (n : Int) = (n : Int) := IntWalk.i64_in _ (by have := HNN.out; omega)
    have wn3 : IntKind.u32.wrap (n : Int) = (n : Int) := IntWalk.u32_in _ (by have := HNN.out; omega)
    clear d0 d1 d2 df e0 e1 e2 e3 t0 t1 t2 t3 hlt3 holt3
    go_wp2_with fail
    exact bodyPost_ret (v := .tuple #[.int .u32 (n : Int), .int .i64 0]) (by simp [results, Try.results18, go_sem]) rfl ⟨rfl, HG.out⟩
end
end Go.Proofs.Ytdhdaknfmpfegaa.Elg
