/-
  Links (layer 14): LinksMany.
-/
import Derived.Test.YtjcabdnjimcdgaaLnkM
import Derived.Test.YtjcabdnjimcdgaaLnkL
set_option linter.unusedVariables false
set_option linter.unusedSimpArgs false
namespace Go.Proofs.Ytjcabdnjimcdgaa.Lnk
open Go Go.RowKit Kit
/-- known() at every later world -/
def Kn (W : World) : Prop := ∀ w', Below W.heap.size W w' → Calls Try.prog 16 #[] w' fun e v => e = .returned (.bool true) ∧ Below w'.heap.size w' v
theorem gives_any (n e m d : Int) (w : World) : Calls Try.prog 78 #[.int .u32 n, .int .i64 e, .int .u32 m, .int .i64 d] w fun x v => x = .returned (.bool (n == m && e == d)) ∧ w = v := by
  by_cases h1 : n = m <;> by_cases h2 : e = d
  · subst h1 h2
    go_enter Try.func78, Try.ntmps78
    go_wp2_with fail
    go_ret
    exact ⟨by simp, rfl⟩
  · subst h1
    have k2 : (e == d) = false := by rw [beq_eq_false_iff_ne]; exact h2
    go_enter Try.func78, Try.ntmps78
    go_wp2_with fail
    go_ret
    exact ⟨by simp [k2], rfl⟩
  · have k1 : (n == m) = false := by rw [beq_eq_false_iff_ne]; exact h1
    go_enter Try.func78, Try.ntmps78
    go_wp2_with fail
    go_ret
    exact ⟨by simp [k1], rfl⟩
  · have k1 : (n == m) = false := by rw [beq_eq_false_iff_ne]; exact h1
    go_enter Try.func78, Try.ntmps78
    go_wp2_with fail
    go_ret
    exact ⟨by simp [k1], rfl⟩
/-- a field of which one list is known, and all else is free -/
def Mq (W v : World) (c N H hm : Nat) (l : List Nat) : Prop := ∃ q r cq cr F Ls, Lo v c q r cq cr N F Ls ∧ Ls.length = H ∧ Ls[hm]? = some l ∧ (∀ n, n < N → n ∉ l → Free Ls n) ∧ W.heap.size ≤ c ∧ W.heap.size ≤ q ∧ W.heap.size ≤ r ∧ Below W.heap.size W v
section
variable {W v : World} {c N H hm : Nat} {l : List Nat}
theorem Mq.b (h : Mq W v c N H hm l) : Below W.heap.size W v := by
  obtain ⟨q, r, cq, cr, F, Ls, h1, h2, h3, h4, h5, h6, h7, h8⟩ := h
  exact h8
theorem Mq.below {v' : World} (h : Mq W v c N H hm l) (hb : Below v.heap.size v v') : Mq W v' c N H hm l := by
  obtain ⟨q, r, cq, cr, F, Ls, h1, h2, h3, h4, h5, h6, h7, h8⟩ := h
  exact ⟨q, r, cq, cr, F, Ls, h1.below hb, h2, h3, h4, h5, h6, h7, tr h8 hb⟩
theorem mnew {nI hI : Int} (en : nI = (N : Int)) (eh : hI = (H : Int)) (n1 : 1 ≤ N) (n2 : N ≤ 4194304) (h1 : hm < H) (h2 : H ≤ 4096) (w : World) :
    Calls Try.prog 17 #[.int .i64 nI, .int .i64 hI] w fun e w' => ∃ c, e = .returned (.tuple #[.pointer (some ⟨c, 0, none⟩), .int .i64 0]) ∧ Mq w w' c N H hm [] := by
  subst en eh
  refine (New_ok N H w n1 n2 (by omega) h2).mono ?_
  rintro e w' ⟨⟨c, q, r, F, he, h, h3, h4, h5⟩, hb⟩
  refine ⟨c, he, q, r, _, _, F, _, h, by simp, by simp [List.getElem?_replicate, h1], ?_, h3, h4, h5, hb⟩
  intro n hn _ k m hk hm2
  rw [List.getElem?_replicate] at hk
  split at hk
  · cases hk; simp at hm2
  · cases hk
theorem free_set {Ls : List (List Nat)} {l l' : List Nat} (h3 : Ls[hm]? = some l) (h4 : ∀ n, n < N → n ∉ l → Free Ls n) (hs : ∀ x, x ∈ l → x ∈ l') (n : Nat) (hn : n < N) (hx : n ∉ l') : Free (Ls.set hm l') n := by
  intro k m hk hmem
  rw [List.getElem?_set] at hk
  split at hk
  · split at hk
    · cases hk; exact hx hmem
    · cases hk
  · exact h4 n hn (fun h => hx (hs n h)) k m hk hmem
theorem Mq.back {hI nI : Int} {n : Nat} (h : Mq W v c N H hm l) (eh : hI = (hm : Int)) (en : nI = (n : Int)) (hn : n < N) (hx : n ∉ l) :
    Calls Try.prog 22 #[.pointer (some ⟨c, 0, none⟩), .int .i64 hI, .int .u32 nI] v fun e w' => e = .returned (.int .i64 0) ∧ Mq W w' c N H hm (l ++ [n]) := by
  subst eh en
  obtain ⟨q, r, cq, cr, F, Ls, h1, h2, h3, h4, h5, h6, h7, h8⟩ := h
  refine (Back_ok h1 h3 hn (h4 n hn hx)).mono ?_
  rintro e w' ⟨he, g1, g2⟩
  have hlt := (List.getElem?_eq_some_iff.1 h3).1
  refine ⟨he, q, r, cq, cr, _, _, g1, by simp [h2], List.getElem?_set_self hlt, free_set h3 h4 (fun x hx => by simp [hx]), h5, h6, h7, ?_⟩
  exact h8.trans (g2.below (by rintro k hk (rfl | rfl | rfl) <;> omega) h8.size)
theorem Mq.front {hI nI : Int} {n : Nat} (h : Mq W v c N H hm l) (eh : hI = (hm : Int)) (en : nI = (n : Int)) (hn : n < N) (hx : n ∉ l) :
    Calls Try.prog 25 #[.pointer (some ⟨c, 0, none⟩), .int .i64 hI, .int .u32 nI] v fun e w' => e = .returned (.int .i64 0) ∧ Mq W w' c N H hm (n :: l) := by
  subst eh en
  obtain ⟨q, r, cq, cr, F, Ls, h1, h2, h3, h4, h5, h6, h7, h8⟩ := h
  refine (Front_ok h1 h3 hn (h4 n hn hx)).mono ?_
  rintro e w' ⟨he, g1, g2⟩
  have hlt := (List.getElem?_eq_some_iff.1 h3).1
  refine ⟨he, q, r, cq, cr, _, _, g1, by simp [h2], List.getElem?_set_self hlt, free_set h3 h4 (fun x hx => by simp [hx]), h5, h6, h7, ?_⟩
  exact h8.trans (g2.below (by rintro k hk (rfl | rfl | rfl) <;> omega) h8.size)
theorem Mq.badH {hI nI : Int} (h : Mq W v c N H hm l) (hh : (H : Int) ≤ hI) :
    Calls Try.prog 22 #[.pointer (some ⟨c, 0, none⟩), .int .i64 hI, .int .u32 nI] v fun e w' => e = .returned (.int .i64 2) ∧ Mq W w' c N H hm l := by
  have h' := h
  obtain ⟨q, r, cq, cr, F, Ls, h1, h2, h3, h4, h5, h6, h7, h8⟩ := h
  refine (Back_badH h1 (by rw [h2]; omega)).mono ?_
  rintro e w' ⟨he, g1⟩
  exact ⟨he, h'.below g1⟩
theorem Mq.badN {nI : Int} (h : Mq W v c N H hm l) (hh : (N : Int) ≤ nI) (h2 : nI < 4294967296) :
    Calls Try.prog 22 #[.pointer (some ⟨c, 0, none⟩), .int .i64 0, .int .u32 nI] v fun e w' => e = .returned (.int .i64 2) ∧ Mq W w' c N H hm l := by
  have h' := h
  obtain ⟨q, r, cq, cr, F, Ls, h1, h2, h3, h4, h5, h6, h7, h8⟩ := h
  have hb := Back_badN (h := 0) (n := nI) h1 h1.h1 hh (by assumption)
  refine Calls.mono hb ?_
  rintro e w' ⟨he, g1⟩
  exact ⟨he, h'.below g1⟩
theorem Mq.first {hI : Int} {x : Nat} (h : Mq W v c N H hm (x :: l)) (eh : hI = (hm : Int)) :
    Calls Try.prog 77 #[.pointer (some ⟨c, 0, none⟩), .int .i64 hI] v fun e w' => e = .returned (.tuple #[.int .u32 (x : Int), .int .i64 0]) ∧ Mq W w' c N H hm (x :: l) := by
  subst eh
  have h' := h
  obtain ⟨q, r, cq, cr, F, Ls, h1, h2, h3, h4, h5, h6, h7, h8⟩ := h
  refine (First_ok h1 h3).mono ?_
  rintro e w' ⟨he, g1⟩
  have hx := (h1.ring.mem hm _ x h3 (by simp)).1
  rw [show fst (x :: l) (N + hm) = x from rfl, if_pos hx] at he
  exact ⟨he, h'.below g1⟩
theorem Mq.next {nI : Int} {x y : Nat} (h : Mq W v c N H hm [x, y]) (en : nI = (x : Int)) :
    Calls Try.prog 74 #[.pointer (some ⟨c, 0, none⟩), .int .u32 nI] v fun e w' => e = .returned (.tuple #[.int .u32 (y : Int), .int .i64 0]) ∧ Mq W w' c N H hm [x, y] := by
  subst en
  have h' := h
  obtain ⟨q, r, cq, cr, F, Ls, h1, h2, h3, h4, h5, h6, h7, h8⟩ := h
  have hx := h1.ring.mem hm _ x h3 (by simp)
  have hy := h1.ring.mem hm _ y h3 (by simp)
  have hp := h1.ring.parts (l1 := []) (l2 := [y]) h3
  refine (Next_in h1 hx.1 (by rw [hx.2]; omega) hp.2.2.2 (by show y < _; omega)).mono ?_
  rintro e w' ⟨he, g1⟩
  rw [show fst [y] (N + hm) = y from rfl, if_pos hy.1] at he
  exact ⟨he, h'.below g1⟩
theorem Mq.len {hI : Int} (h : Mq W v c N H hm l) (eh : hI = (hm : Int)) :
    Calls Try.prog 79 #[.pointer (some ⟨c, 0, none⟩), .int .i64 hI] v fun e w' => e = .returned (.int .i64 (l.length : Int)) ∧ v = w' := by
  subst eh
  obtain ⟨q, r, cq, cr, F, Ls, h1, h2, h3, h4, h5, h6, h7, h8⟩ := h
  exact Len_ok h1 h3
theorem Mq.nodes (h : Mq W v c N H hm l) :
    Calls Try.prog 82 #[.pointer (some ⟨c, 0, none⟩)] v fun e w' => e = .returned (.int .i64 (N : Int)) ∧ v = w' := by
  obtain ⟨q, r, cq, cr, F, Ls, h1, h2, h3, h4, h5, h6, h7, h8⟩ := h
  exact Nodes_any h1
theorem Mq.heads (h : Mq W v c N H hm l) :
    Calls Try.prog 84 #[.pointer (some ⟨c, 0, none⟩)] v fun e w' => e = .returned (.int .i64 (H : Int)) ∧ v = w' := by
  obtain ⟨q, r, cq, cr, F, Ls, h1, h2, h3, h4, h5, h6, h7, h8⟩ := h
  rw [← h2]
  exact Heads_any h1
end
end Go.Proofs.Ytjcabdnjimcdgaa.Lnk
