/-
  What holds for counts, whatever the order (numbers of additions by place, and by key), and the law of layer 33 on it.
-/
import Derived.Test.YtohldfhelppehaaSkF
import Derived.Maps.OwnOps
import Derived.Maps.OwnSet
import Derived.Carry
import Derived.StringKeys
set_option linter.unusedVariables false
set_option linter.unusedSimpArgs false
namespace Go.Proofs.Ytohldfhelppehaa.Skt
open Go.RowKit Kit Hash Blo
/-- how many of the first j numbers are y -/
def ofs (f : Nat → Nat) (y : Nat) : Nat → Nat
  | 0 => 0
  | j + 1 => ofs f y j + if f j = y then 1 else 0
theorem ofs_front (f : Nat → Nat) (y : Nat) : ∀ n, ofs f y (n + 1) = (if f 0 = y then 1 else 0) + ofs (fun i => f (i + 1)) y n
  | 0 => by simp [ofs]
  | n + 1 => by
    rw [ofs, ofs_front f y n]
    show _ = _ + (ofs (fun i => f (i + 1)) y n + if f (n + 1) = y then 1 else 0)
    omega
theorem ofs_congr {f g : Nat → Nat} (y : Nat) : ∀ {n : Nat}, (∀ i, i < n → f i = g i) → ofs f y n = ofs g y n
  | 0, _ => rfl
  | n + 1, h => by rw [ofs, ofs, ofs_congr y (fun i hi => h i (by omega)), h n (by omega)]
theorem ofs_rev (f : Nat → Nat) (y : Nat) : ∀ n, ofs (fun i => f (n - 1 - i)) y n = ofs f y n
  | 0 => rfl
  | n + 1 => by
    rw [ofs_front]
    have e : ofs (fun i => f (n + 1 - 1 - (i + 1))) y n = ofs (fun i => f (n - 1 - i)) y n := ofs_congr y fun i hi => by
      show f (n + 1 - 1 - (i + 1)) = f (n - 1 - i)
      congr 1
      omega
    rw [e, ofs_rev f y n, ofs, Nat.add_comm]
    rfl
/-- the counters after j additions of the keys with the sums f -/
def mem (f : Nat → Nat) (n j : Nat) : Nat → Nat → Nat := fun r y => min 15 (ofs (fun i => pl4 (f i) n r) y j)
theorem mem_le (f : Nat → Nat) (n j : Nat) : ∀ r y, mem f n j r y ≤ 15 := fun r y => Nat.min_le_left _ _
theorem mem_step (f : Nat → Nat) (n j : Nat) : addF (mem f n j) (f j) n = mem f n (j + 1) := by
  funext r y
  unfold addF mem
  rw [ofs]
  by_cases h : y = pl4 (f j) n r
  · rw [if_pos h, if_pos h.symm]; omega
  · rw [if_neg h, if_neg (fun k => h k.symm)]; rfl
theorem mem_rev (f : Nat → Nat) (n j : Nat) : mem (fun i => f (j - 1 - i)) n j = mem f n j := by
  funext r y
  unfold mem
  rw [ofs_rev (fun i => pl4 (f i) n r) y j]
theorem mem_zero (f : Nat → Nat) (n : Nat) : mem f n 0 = fun _ _ => 0 := by funext r y; simp [mem, ofs]
/-- a map's entry -/
def At (D : DataW Unit) (k : ByteArray) (c : Nat) : Prop := D.atKey (.string k.data.toList) (.lit (.int .i64 0)) = .lit (.int .i64 (c : Nat))
/-- a map of numbers of additions, and the counters -/
def Few (sd : Int) (n : Nat) (F : Nat → Nat → Nat) (D : DataW Unit) (j : Nat) : Prop := ∀ k : ByteArray, k.size ≤ 300 → ∃ c : Nat, c ≤ j ∧ At D k c ∧ ∀ r, r < 4 → min 15 c ≤ F r (pl4 (sumN sd k) n r)
theorem Few.none (sd : Int) (n : Nat) (F : Nat → Nat → Nat) (j : Nat) : Few sd n F (.map []) j := fun k _ => ⟨0, Nat.zero_le _, rfl, fun r _ => by omega⟩
theorem At.det {D : DataW Unit} {k : ByteArray} {c : Nat} {d : Int} (h : At D k c) (h' : D.atKey (.string k.data.toList) (.lit (.int .i64 0)) = .lit (.int .i64 d)) : d = c := by
  rw [h] at h'
  injection h' with h'; injection h' with _ h'; exact h'.symm
theorem key_ne {k k' : ByteArray} (h : k ≠ k') : (Lit.string k.data.toList) ≠ Lit.string k'.data.toList := fun e => h (by
  injection e with e
  cases k; cases k'
  simp at e
  rw [e])
theorem Few.add {sd : Int} {n : Nat} {F : Nat → Nat → Nat} {D : DataW Unit} {j : Nat} (h : Few sd n F D j) (hD : Maps.IsMap D) {k : ByteArray} (hk : WideAt.IsKeyLit (.string k.data.toList)) {c : Nat} (hc : At D k c) (hcj : c ≤ j) (hr : ∀ r, r < 4 → min 15 c ≤ F r (pl4 (sumN sd k) n r)) :
    Few sd n (addF F (sumN sd k) n) (D.put (.string k.data.toList) (.lit (.int .i64 ((c : Int) + 1)))) (j + 1) := fun k' hk' => by
  by_cases e : k' = k
  · subst e
    refine ⟨c + 1, by omega, ?_, fun r h4 => ?_⟩
    · unfold At; rw [Maps.atKey_put_same hD hk]; rfl
    · have := hr r h4; unfold addF; rw [if_pos rfl]; omega
  · obtain ⟨c', h1, h2, h3⟩ := h k' hk'
    refine ⟨c', by omega, ?_, fun r h4 => ?_⟩
    · unfold At; rw [Maps.atKey_put_other (key_ne e)]; exact h2
    · have := h3 r h4; unfold addF; split <;> omega
theorem Few.count {sd : Int} {n : Nat} {F : Nat → Nat → Nat} {k : ByteArray} {c : Nat} (hr : ∀ r, r < 4 → min 15 c ≤ F r (pl4 (sumN sd k) n r)) : min 15 c ≤ cK (sumN sd k) n F := by
  have h0 := hr 0 (by decide)
  have h1 := hr 1 (by decide)
  have h2 := hr 2 (by decide)
  have h3 := hr 3 (by decide)
  show _ ≤ min (min (min (min 15 (F 0 (pl4 (sumN sd k) n 0))) (F 1 (pl4 (sumN sd k) n 1))) (F 2 (pl4 (sumN sd k) n 2))) (F 3 (pl4 (sumN sd k) n 3))
  omega
theorem keys : Maps.Keyed Try.prog 9 := Maps.string_keyed Try.underlying9
/-- block b is a map of at most j entries -/
def Mp (w : World) (b j : Nat) (D : DataW Unit) : Prop := w.ownsMap Try.prog 9 (plainElem Try.prog 3) b j D
theorem Mp.new (w : World) (j : Nat) : Mp (w.alloc (.map #[] 0)) w.heap.size j (.map []) := (World.ownsMap_made w Try.prog 9 _).mono (Nat.zero_le _)
theorem Mp.lt {w : World} {b j : Nat} {D : DataW Unit} (h : Mp w b j D) : b < w.heap.size := World.ownsMap.lt h
theorem Mp.of {w w' : World} {b j : Nat} {D : DataW Unit} (h : Mp w b j D) (e : w'.heap[b]? = w.heap[b]?) : Mp w' b j D := by
  obtain ⟨es, clock, hb, r⟩ := h
  exact ⟨es, clock, e.trans hb, r⟩
theorem Mp.below {w w' : World} {b j : Nat} {D : DataW Unit} (h : Mp w b j D) (hb : Below w.heap.size w w') : Mp w' b j D := h.of (hb.block b h.lt)
theorem Mp.keep {w w' : World} {lo hi b j : Nat} {D : DataW Unit} (h : Mp w b j D) (hb : Keep lo hi w w') (hne : b < lo ∨ hi ≤ b) : Mp w' b j D := h.of (hb.block b h.lt hne)
theorem Mp.mono {w : World} {b j j' : Nat} {D : DataW Unit} (h : Mp w b j D) (hj : j ≤ j') : Mp w b j' D := World.ownsMap.mono h hj
theorem zeroI (w : World) : (zeroValue 3).run Try.prog w = .ok (.int .i64 0) w := by kernel_rfl
/-- what a look-up gives -/
theorem Mp.look {w : World} {b j : Nat} {D : DataW Unit} (h : Mp w b j D) {k : ByteArray} (hkey : keyOf Try.prog 9 (.string k) = some (.string k.data.toList)) {c : Nat} (hc : At D k c) : (Instr.lookup 84 (.map (some b)) (.string k) false).run Try.prog w = .ok (.int .i64 c) w := by
  obtain ⟨d, hrun, hat, -⟩ := World.ownsMap.lookup_int h keys Try.underlying84 Try.underlying3 (zeroI w) hkey
  rw [hc.det hat] at hrun
  exact hrun
theorem hold_keep {W a b : World} {ab mb : Nat} {k : ByteArray} {c : Nat} (HL : ∀ w', Below W.heap.size W w' → (Instr.lookup 84 (.map (some mb)) (.string k) false).run Try.prog w' = .ok (.int .i64 c) w') (q : Below a.heap.size a b)
    (h : a.cell? ⟨ab, 1, none⟩ = some (.string k) ∧ (Instr.lookup 84 (.map (some mb)) (.string k) false).run Try.prog a = .ok (.int .i64 c) a ∧ ab < a.heap.size ∧ Below W.heap.size W a) :
    b.cell? ⟨ab, 1, none⟩ = some (.string k) ∧ (Instr.lookup 84 (.map (some mb)) (.string k) false).run Try.prog b = .ok (.int .i64 c) b ∧ ab < b.heap.size ∧ Below W.heap.size W b := by
  obtain ⟨c1, _, s⟩ := bcell q
  obtain ⟨h0, h1, h2, h3⟩ := h
  exact ⟨by rw [c1 _ _ h2]; exact h0, HL b (tr h3 q), by omega, tr h3 q⟩
theorem wf_c1 {c : Nat} (h : c ≤ 100) : (Lit.int .i64 ((c : Int) + 1)).wf = true := by
  simp [Lit.wf, IntKind.min, IntKind.max, IntKind.bits, IntKind.signed]; omega
theorem with_world {Q : Exit → Act → World → Prop} {x : Exit} {a : Act} {w : World} (S : World → Prop) (hS : S w) (h : ∀ v, S v → Q x a v) : Q x a w := h w hS
theorem but_grown {w w' : World} {b : Nat} (h : w.grownBy w' (some b)) : But b w w' := ⟨h.os, h.tape, h.output, h.size, fun k hk hn => h.block k hk (by simpa using hn)⟩
set_option maxRecDepth 100000 in
theorem ladds {W : World} {p lo hi n : Nat} {t sd : Int} (hs : Word sd) {q c : Nat → Nat} {F : Nat → Nat → Nat} (h : Skf W p lo hi n 0 t sd q c F) (n1 : 16 ≤ n) (n2 : n ≤ 65536) (hF : ∀ i j, F i j ≤ 15) (ht0 : 0 ≤ t) (ht1 : t < 16777216) (k : ByteArray) (hk : k.size ≤ maxLen) :
    Calls Try.prog 45 #[.pointer (some ⟨p, 0, none⟩), .string k, .bool false] W fun e w' => e = .returned (.bool true) ∧ Skf w' p lo hi n 0 (t + 1) sd q c (addF F (sumN sd k) n) ∧ Keep lo hi W w' := by
  have HA := Lib.hid (padd hs h n1 n2 hF ht0 ht1 k hk)
  have e1 : hv 0 t = false := rfl
  have e2 : tA 0 t = t + 1 := rfl
  have e3 : FA 0 t F (sumN sd k) n = addF F (sumN sd k) n := rfl
  rw [e1, e2, e3] at HA
  clear h hs hF e1 e2 e3
  go_enter Try.func45, Try.ntmps45
  go_wp2_with fail
  refine HA.out.mono ?_
  rintro e w1 ⟨rfl, h1, h2⟩
  have H1 := Lib.hid h1
  have H2 := Lib.hid h2
  clear h1 h2
  go_wp2_with fail
  go_ret
  exact ⟨rfl, H1.out, H2.out⟩
end Go.Proofs.Ytohldfhelppehaa.Skt
namespace Go.Proofs.Ytohldfhelppehaa.Skt
open Go.RowKit Kit Hash Blo
/-- three sketches, and the map -/
structure Th (W w : World) (n : Nat) (m sd : Int) (p1 l1 h1 : Nat) (q1 c1 : Nat → Nat) (t1 : Int) (F1 : Nat → Nat → Nat) (p2 l2 h2 : Nat) (q2 c2 : Nat → Nat) (t2 : Int) (F2 : Nat → Nat → Nat) (p3 l3 h3 : Nat) (q3 c3 : Nat → Nat) (t3 : Int) (F3 : Nat → Nat → Nat) (mb j : Nat) (D : DataW Unit) : Prop where
  a : Skf w p1 l1 h1 n m t1 sd q1 c1 F1
  b : Skf w p2 l2 h2 n 0 t2 sd q2 c2 F2
  c : Skf w p3 l3 h3 n 0 t3 sd q3 c3 F3
  o : Mp w mb j D
  w : Below W.heap.size W w
  g : W.heap.size ≤ l1 ∧ W.heap.size ≤ mb
  d1 : h1 ≤ l2
  d2 : h2 ≤ l3
  d3 : h3 ≤ mb
  s1 : l1 ≤ h1
  s2 : l2 ≤ h2
  s3 : l3 ≤ h3
theorem Skf.le {w : World} {p lo hi n : Nat} {m t sd : Int} {q c : Nat → Nat} {F : Nat → Nat → Nat} (h : Skf w p lo hi n m t sd q c F) : lo ≤ hi := by have h1 := h.l0; have h2 := h.pne 0 (by decide); omega
theorem Th.below {W w v : World} {n : Nat} {m sd : Int} {p1 l1 h1 : Nat} {q1 c1 : Nat → Nat} {t1 : Int} {F1 : Nat → Nat → Nat} {p2 l2 h2 : Nat} {q2 c2 : Nat → Nat} {t2 : Int} {F2 : Nat → Nat → Nat} {p3 l3 h3 : Nat} {q3 c3 : Nat → Nat} {t3 : Int} {F3 : Nat → Nat → Nat} {mb j : Nat} {D : DataW Unit} (h : Th W w n m sd p1 l1 h1 q1 c1 t1 F1 p2 l2 h2 q2 c2 t2 F2 p3 l3 h3 q3 c3 t3 F3 mb j D) (hb : Below w.heap.size w v) : Th W v n m sd p1 l1 h1 q1 c1 t1 F1 p2 l2 h2 q2 c2 t2 F2 p3 l3 h3 q3 c3 t3 F3 mb j D :=
  ⟨h.a.below hb, h.b.below hb, h.c.below hb, h.o.below hb, Kit.tr h.w hb, h.g, h.d1, h.d2, h.d3, h.s1, h.s2, h.s3⟩
theorem Th.ua {W w v : World} {n : Nat} {m sd : Int} {p1 l1 h1 : Nat} {q1 c1 : Nat → Nat} {t1 : Int} {F1 : Nat → Nat → Nat} {p2 l2 h2 : Nat} {q2 c2 : Nat → Nat} {t2 : Int} {F2 : Nat → Nat → Nat} {p3 l3 h3 : Nat} {q3 c3 : Nat → Nat} {t3 : Int} {F3 : Nat → Nat → Nat} {mb j : Nat} {D : DataW Unit} {t' : Int} {F' : Nat → Nat → Nat} (h : Th W w n m sd p1 l1 h1 q1 c1 t1 F1 p2 l2 h2 q2 c2 t2 F2 p3 l3 h3 q3 c3 t3 F3 mb j D) (hf : Skf v p1 l1 h1 n m t' sd q1 c1 F') (hb : Keep l1 h1 w v) : Th W v n m sd p1 l1 h1 q1 c1 t' F' p2 l2 h2 q2 c2 t2 F2 p3 l3 h3 q3 c3 t3 F3 mb j D := by
  have hd1 := h.d1; have hd2 := h.d2; have hd3 := h.d3; have e1 := h.s1; have e2 := h.s2; have e3 := h.s3
  exact ⟨hf, h.b.keep hb (.inr (by omega)), h.c.keep hb (.inr (by omega)), h.o.keep hb (.inr (by omega)), h.w.trans (hb.below h.g.1 h.w.size), h.g, h.d1, h.d2, h.d3, h.s1, h.s2, h.s3⟩
theorem Th.ub {W w v : World} {n : Nat} {m sd : Int} {p1 l1 h1 : Nat} {q1 c1 : Nat → Nat} {t1 : Int} {F1 : Nat → Nat → Nat} {p2 l2 h2 : Nat} {q2 c2 : Nat → Nat} {t2 : Int} {F2 : Nat → Nat → Nat} {p3 l3 h3 : Nat} {q3 c3 : Nat → Nat} {t3 : Int} {F3 : Nat → Nat → Nat} {mb j : Nat} {D : DataW Unit} {t' : Int} {F' : Nat → Nat → Nat} (h : Th W w n m sd p1 l1 h1 q1 c1 t1 F1 p2 l2 h2 q2 c2 t2 F2 p3 l3 h3 q3 c3 t3 F3 mb j D) (hf : Skf v p2 l2 h2 n 0 t' sd q2 c2 F') (hb : Keep l2 h2 w v) : Th W v n m sd p1 l1 h1 q1 c1 t1 F1 p2 l2 h2 q2 c2 t' F' p3 l3 h3 q3 c3 t3 F3 mb j D := by
  have hd1 := h.d1; have hd2 := h.d2; have hd3 := h.d3; have e1 := h.s1; have e2 := h.s2; have e3 := h.s3; have hg := h.g.1
  exact ⟨h.a.keep hb (.inl (by omega)), hf, h.c.keep hb (.inr (by omega)), h.o.keep hb (.inr (by omega)), h.w.trans (hb.below (by omega) h.w.size), h.g, h.d1, h.d2, h.d3, h.s1, h.s2, h.s3⟩
theorem Th.uc {W w v : World} {n : Nat} {m sd : Int} {p1 l1 h1 : Nat} {q1 c1 : Nat → Nat} {t1 : Int} {F1 : Nat → Nat → Nat} {p2 l2 h2 : Nat} {q2 c2 : Nat → Nat} {t2 : Int} {F2 : Nat → Nat → Nat} {p3 l3 h3 : Nat} {q3 c3 : Nat → Nat} {t3 : Int} {F3 : Nat → Nat → Nat} {mb j : Nat} {D : DataW Unit} {t' : Int} {F' : Nat → Nat → Nat} (h : Th W w n m sd p1 l1 h1 q1 c1 t1 F1 p2 l2 h2 q2 c2 t2 F2 p3 l3 h3 q3 c3 t3 F3 mb j D) (hf : Skf v p3 l3 h3 n 0 t' sd q3 c3 F') (hb : Keep l3 h3 w v) : Th W v n m sd p1 l1 h1 q1 c1 t1 F1 p2 l2 h2 q2 c2 t2 F2 p3 l3 h3 q3 c3 t' F' mb j D := by
  have hd1 := h.d1; have hd2 := h.d2; have hd3 := h.d3; have e1 := h.s1; have e2 := h.s2; have e3 := h.s3; have hg := h.g.1
  exact ⟨h.a.keep hb (.inl (by omega)), h.b.keep hb (.inl (by omega)), hf, h.o.keep hb (.inr (by omega)), h.w.trans (hb.below (by omega) h.w.size), h.g, h.d1, h.d2, h.d3, h.s1, h.s2, h.s3⟩
/-- the map is written -/
theorem Th.uo {W w v : World} {n : Nat} {m sd : Int} {p1 l1 h1 : Nat} {q1 c1 : Nat → Nat} {t1 : Int} {F1 : Nat → Nat → Nat} {p2 l2 h2 : Nat} {q2 c2 : Nat → Nat} {t2 : Int} {F2 : Nat → Nat → Nat} {p3 l3 h3 : Nat} {q3 c3 : Nat → Nat} {t3 : Int} {F3 : Nat → Nat → Nat} {mb j j' : Nat} {D D' : DataW Unit} (h : Th W w n m sd p1 l1 h1 q1 c1 t1 F1 p2 l2 h2 q2 c2 t2 F2 p3 l3 h3 q3 c3 t3 F3 mb j D) (ho : Mp v mb j' D') (hb : But mb w v) : Th W v n m sd p1 l1 h1 q1 c1 t1 F1 p2 l2 h2 q2 c2 t2 F2 p3 l3 h3 q3 c3 t3 F3 mb j' D' := by
  have hd1 := h.d1; have hd2 := h.d2; have hd3 := h.d3; have e1 := h.s1; have e2 := h.s2; have e3 := h.s3; have hg := h.g.2
  have hk : Keep mb (mb + 1) w v := ⟨hb.os, hb.tape, hb.output, hb.size, fun k hk hn => hb.block k hk (by omega)⟩
  exact ⟨h.a.keep hk (.inl (by omega)), h.b.keep hk (.inl (by omega)), h.c.keep hk (.inl (by omega)), ho, h.w.trans (hb.below hg h.w.size), h.g, h.d1, h.d2, h.d3, h.s1, h.s2, h.s3⟩
/-- another map -/
theorem Th.no {W w : World} {n : Nat} {m sd : Int} {p1 l1 h1 : Nat} {q1 c1 : Nat → Nat} {t1 : Int} {F1 : Nat → Nat → Nat} {p2 l2 h2 : Nat} {q2 c2 : Nat → Nat} {t2 : Int} {F2 : Nat → Nat → Nat} {p3 l3 h3 : Nat} {q3 c3 : Nat → Nat} {t3 : Int} {F3 : Nat → Nat → Nat} {mb j j' : Nat} {D : DataW Unit} (h : Th W w n m sd p1 l1 h1 q1 c1 t1 F1 p2 l2 h2 q2 c2 t2 F2 p3 l3 h3 q3 c3 t3 F3 mb j D) : Th W (w.alloc (.map #[] 0)) n m sd p1 l1 h1 q1 c1 t1 F1 p2 l2 h2 q2 c2 t2 F2 p3 l3 h3 q3 c3 t3 F3 w.heap.size j' (.map []) := by
  have hb : Below w.heap.size w (w.alloc (.map #[] 0)) := by go_grown
  have hz := h.c.sz
  exact ⟨h.a.below hb, h.b.below hb, h.c.below hb, Mp.new w j', Kit.tr h.w hb, ⟨h.g.1, h.w.size⟩, h.d1, h.d2, hz, h.s1, h.s2, h.s3⟩
theorem Th.more {W w : World} {n : Nat} {m sd : Int} {p1 l1 h1 : Nat} {q1 c1 : Nat → Nat} {t1 : Int} {F1 : Nat → Nat → Nat} {p2 l2 h2 : Nat} {q2 c2 : Nat → Nat} {t2 : Int} {F2 : Nat → Nat → Nat} {p3 l3 h3 : Nat} {q3 c3 : Nat → Nat} {t3 : Int} {F3 : Nat → Nat → Nat} {mb j j' : Nat} {D : DataW Unit} (h : Th W w n m sd p1 l1 h1 q1 c1 t1 F1 p2 l2 h2 q2 c2 t2 F2 p3 l3 h3 q3 c3 t3 F3 mb j D) (hj : j ≤ j') : Th W w n m sd p1 l1 h1 q1 c1 t1 F1 p2 l2 h2 q2 c2 t2 F2 p3 l3 h3 q3 c3 t3 F3 mb j' D :=
  ⟨h.a, h.b, h.c, h.o.mono hj, h.w, h.g, h.d1, h.d2, h.d3, h.s1, h.s2, h.s3⟩
set_option maxRecDepth 100000 in
set_option maxHeartbeats 8000000 in
theorem lholds_ok {W : World} {b m sd : Int} {n : Nat} (hin : In b m) (ha : als b m = true) (hbn : b = n) (n1 : 16 ≤ n) (n2 : n ≤ 65536) (hsd : Word sd) {a : Option Addr} {len cap : Nat} {f0 : Nat → Int} {f1 : Nat → ByteArray} (hacts : Acts W a len f0 f1)
    (hb1 : b ≤ 64) (hm0 : 0 ≤ m) (hm1 : m ≤ 100) (hfew : fewB len 60 f1 = true) (hk : Kns W) :
    Calls Try.prog 11 #[.int .i64 b, .int .u64 sd, .int .i64 m, .slice a len cap] W fun e w' => e = .returned (.bool true) ∧ Below W.heap.size W w' := by
  have HK := Lib.hid hk
  have HR := Lib.hid (fun w => rnew (W := w) (sd := sd) hin ha hbn)
  have HN := Lib.hid (fun w => new_skf (sd := sd) ha hbn w)
  have ha0 : als b 0 = true := by
    unfold als at ha ⊢
    simp only [Bool.and_eq_true, decide_eq_true_eq] at ha ⊢
    exact ⟨⟨ha.1.1, Int.le_refl 0⟩, by decide⟩
  have HN0 := Lib.hid (fun w => new_skf (sd := sd) ha0 hbn w)
  have HFEW := Lib.hid (fun (w : World) (hb : Below W.heap.size W w) => few_any (cap := cap) (hacts.below hb))
  rw [hfew] at HFEW
  obtain ⟨hlen, hkeys⟩ := fewB_spec hfew
  have HA := Lib.hid hacts
  have HKEYS := Lib.hid hkeys
  clear hk ha ha0 hin hacts hfew hkeys
  subst hbn
  unfold skv sk at HR
  have hmm := @run_makeMap Try.prog
  go_enter Try.func11, Try.ntmps11
  go_wp2_with fail
  refine (HR.out _).mono ?_
  rintro e w1 ⟨r, rc, rfl, -, -, b1⟩
  have B1 := Lib.hid b1
  clear b1
  go_wp2_with fail
  refine (HFEW.out _ (by first | exact B1.out | exact tr B1.out (by go_grown))).mono ?_
  rintro e w2 ⟨rfl, b2⟩
  have B2 := Lib.hid (by first | exact tr B1.out b2 | exact tr (tr B1.out (by go_grown)) b2 : Below W.heap.size W w2)
  clear b2 B1
  go_wp2_with fail
  refine (HN.out _).mono ?_
  rintro e w3 ⟨p1, q1, c1, rfl, hf1, b3⟩
  have F1 := Lib.hid hf1
  have B3 := Lib.hid (tr B2.out b3)
  have hs3 := b3.size
  clear hf1 b3
  go_wp2_with fail
  refine (HN0.out _).mono ?_
  rintro e w4 ⟨p2, q2, c2, rfl, hf2, b4⟩
  have F2 := Lib.hid hf2
  have F1' := Lib.hid (F1.out.below b4)
  have B4 := Lib.hid (tr B3.out b4)
  have hs4 := b4.size
  clear hf2 b4 F1
  go_wp2_with fail
  refine (HN0.out _).mono ?_
  rintro e w5 ⟨p3, q3, c3, rfl, hf3, b5⟩
  have hs5 := b5.size
  have hW := B2.out.size
  have T5 := Lib.hid (show Th W (w5.alloc (.map #[] 0)) n m sd p1 w2.heap.size w3.heap.size q1 c1 0 (fun _ _ => 0) p2 w3.heap.size w4.heap.size q2 c2 0 (fun _ _ => 0) p3 w4.heap.size w5.heap.size q3 c3 0 (fun _ _ => 0) w5.heap.size 0 (.map []) from
    ⟨(F1'.out.below b5).below (by go_grown), (F2.out.below b5).below (by go_grown), hf3.below (by go_grown), Mp.new w5 0, tr (tr B4.out b5) (by go_grown), ⟨hW, by omega⟩, Nat.le_refl _, Nat.le_refl _, Nat.le_refl _, hs3, hs4, hs5⟩)
  have HS5 := Lib.hid (show w2.heap.size ≤ w5.heap.size by omega)
  clear hf3 b5 F1' F2 B2 B3 B4
  go_wp2_with fail
  have hg0 : mem (fun i => sumN sd (f1 i)) n 0 = (fun _ _ => 0) := mem_zero _ _
  have hg1 : mem (fun i => sumN sd (f1 (len - 1 - i))) n 0 = (fun _ _ => 0) := mem_zero _ _
  have T6 := Lib.hid (show Th W (w5.alloc (.map #[] 0)) n m sd p1 w2.heap.size w3.heap.size q1 c1 0 (fun _ _ => 0) p2 w3.heap.size w4.heap.size q2 c2 0 (mem (fun i => sumN sd (f1 i)) n 0) p3 w4.heap.size w5.heap.size q3 c3 0 (mem (fun i => sumN sd (f1 (len - 1 - i))) n 0) w5.heap.size 0 (.map []) by rw [hg0, hg1]; exact T5.out)
  clear hg0 hg1 T5 HS5 hs3 hs4 hs5 hW
  have HMS := Lib.hid (fun j => mem_step (fun i => sumN sd (f1 i)) n j)
  have HMT := Lib.hid (fun j => mem_step (fun i => sumN sd (f1 (len - 1 - i))) n j)
  have HML := Lib.hid (mem_le (fun i => sumN sd (f1 i)) n)
  have HMM := Lib.hid (mem_le (fun i => sumN sd (f1 (len - 1 - i))) n)
  have HMR := Lib.hid (mem_rev (fun i => sumN sd (f1 i)) n len)
  have HMA := Lib.hid (show ∀ j, mem (fun i => sumN sd (f1 i)) n j = mem (fun i => sumN sd (f1 i)) n j from fun _ => rfl)
  have HMV := Lib.hid (show ∀ k, k = len → mem (fun i => sumN sd (f1 (len - 1 - i))) n k = mem (fun i => sumN sd (f1 i)) n k from fun k hk => by subst hk; exact mem_rev (fun i => sumN sd (f1 i)) n k)
  clear HMR HMA
  generalize w2.heap.size = l1 at *
  generalize w3.heap.size = l2 at *
  generalize w4.heap.size = l3 at *
  generalize w5.heap.size = h3 at *
  go_loopw [17, 18, 19] (fun o ad i wr => ∃ (j : Nat) (t : Int) (F : Nat → Nat → Nat) (mb : Nat) (D : DataW Unit), j ≤ len ∧ o = .map (some mb) ∧ ad = .int .i64 t ∧ i = .int .i64 j ∧ Th W wr n m sd p1 l1 l2 q1 c1 t F p2 l2 l3 q2 c2 j (mem (fun i => sumN sd (f1 i)) n j) p3 l3 h3 q3 c3 j (mem (fun i => sumN sd (f1 (len - 1 - i))) n j) mb j D ∧ (0 ≤ t ∧ t ≤ j) ∧ (∀ i j, F i j ≤ 15) ∧ Few sd n F D j) (fun _ _ i _ => len - (intOf i).toNat)
  case atStart => exact ⟨0, 0, _, _, _, by omega, rfl, rfl, rfl, T6.out, ⟨Int.le_refl _, Int.le_refl _⟩, fun _ _ => Nat.zero_le _, Few.none _ _ _ _⟩
  case round =>
    clear T6
    obtain ⟨j, t, F, mb, D, hj, rfl, rfl, rfl, hT, ⟨ht0, htj⟩, hF, hfw⟩ := hrel
    have T := Lib.hid hT
    have HF := Lib.hid hF
    have HW := Lib.hid hfw
    clear hT hF hfw
    by_cases hlt : j < len
    · obtain ⟨x, rfl, hxb, y0, y1, y2⟩ := HA.out.below T.out.w j hlt
      have hk3 := HKEYS.out j hlt
      have HSJ := Lib.hid (show addF (mem (fun i => sumN sd (f1 i)) n j) (sumN sd (f1 j)) n = mem (fun i => sumN sd (f1 i)) n (j + 1) from HMS.out j)
      have hkm : (f1 j).size ≤ maxLen := by unfold maxLen; omega
      generalize hkk : f1 j = k at *
      have HKK := Lib.hid hkk
      clear hkk
      generalize f0 j = what at *
      have A := Lib.hid (show Bk3 (wr.alloc (.cells #[.int .i64 what, .string k] 76)) wr.heap.size what k from (MapKept.heap_alloc wr _).1)
      have hb6 : Below wr.heap.size wr (wr.alloc (.cells #[.int .i64 what, .string k] 76)) := by go_grown
      have T6 := Lib.hid (T.out.below hb6)
      have hkey : keyOf Try.prog 9 (.string k) = some (.string k.data.toList) := Go.WideMaps.keyOf_string_mk Try.underlying9 hkm
      have HKEY := Lib.hid hkey
      have hmbl := T.out.o.lt
      have hl2s := T.out.a.sz
      have hl3s := T.out.b.sz
      have hh3s := T.out.c.sz
      have hd3 := T.out.d3
      obtain ⟨c, hcj, hcat, hcr⟩ := HW.out k hk3
      have HC := Lib.hid hcat
      have HCR := Lib.hid hcr
      clear hb6 hcat hcr hkey
      by_cases c0 : what = 0
      · subst c0
        have hwt : IntKind.i64.wrap (t + 1) = t + 1 := IntWalk.i64_in _ (by omega)
        go_wp2_with fail
        refine (padd hsd T6.out.a n1 n2 HF.out ht0 (by omega) k hkm).mono ?_
        rintro e w7 ⟨rfl, f7, k7⟩
        have A7 := Lib.hid (A.out.keep k7 (.inr (by omega)))
        have hs7 := k7.size
        simp only [World.size_alloc] at hs7
        cases hhv : hv m t
        · have hTA : tA m t = t + 1 := by unfold tA; rw [hhv]; rfl
          have hFA : FA m t F (sumN sd k) n = addF F (sumN sd k) n := by unfold FA; rw [hhv]; rfl
          rw [hTA, hFA] at f7
          have T7 := Lib.hid (T6.out.ua f7 k7)
          have hmap := World.ownsMap.isMap T7.out.o
          clear f7 k7 T6 A T hTA hFA
          by_cases h0 : 0 < m
          · have h0d : decide (0 < m) = true := decide_eq_true h0
            have h2 : (t + 1 == m) = false := by
              unfold hv at hhv
              cases h3 : (t + 1 == m)
              · rfl
              · rw [h3, show (m == 0) = false from beq_eq_false_iff_ne.2 (by omega)] at hhv; cases hhv
            clear hhv
            have hlk := Mp.look T7.out.o HKEY.out HC.out
            have a1 := A7.out.c1
            have hcw : IntKind.i64.wrap ((c : Int) + 1) = (c : Int) + 1 := IntWalk.i64_in _ (by omega)
            go_wp2_with (at_mapUpdate; refine wpList_mapUpdate_own _ rfl _ _ _ 84 rfl 9 3 keys Try.underlying84 (plainElem Try.prog 3) mb j D rfl T7.out.o (by unfold maxLen; omega) _ _ _ rfl rfl HKEY.out _ [] (plainElem_int Try.underlying3 (wf_c1 (by omega))) ?_)
            intro w8 hown8 hgrow8
            have hb8 := but_grown hgrow8
            have T8 := Lib.hid (T7.out.uo hown8 hb8)
            have A8 := Lib.hid (A7.out.but hb8 (by omega))
            have hs8 := hb8.size
            clear hown8 hgrow8 hb8 hlk a1 T7 A7
            have TX := Lib.hid T8.out
            have AX := Lib.hid A8.out
            have HT' := Lib.hid (show 0 ≤ t + 1 ∧ t + 1 ≤ ((j + 1 : Nat) : Int) by omega)
            have HF' := Lib.hid (addF_le HF.out (sumN sd k) n)
            have HW' := Lib.hid (HW.out.add hmap (keys.key HKEY.out) HC.out hcj HCR.out)
            clear T8 A8
            go_wp2_with fail
            generalize addF F (sumN sd k) n = F' at *
            generalize t + 1 = t' at *
            generalize DataW.put D (.string k.data.toList) (.lit (.int .i64 ((c : Int) + 1))) = D' at *
            generalize w8 = VX at *
            obtain ⟨cc, hccj, hcc1, hcc2⟩ := HW'.out k hk3
            have HCX := Lib.hid hcc1
            have HRCX := Lib.hid hcc2
            clear hcc1 hcc2
            have hsx := AX.out.lt
            have HLK := Lib.hid (fun (w' : World) (hb : Below VX.heap.size VX w') => Mp.look (TX.out.o.below hb) HKEY.out HCX.out)
            have HPA := Lib.hid (fun (w' : World) (hb : Below VX.heap.size VX w') => padds (TX.out.a.below hb).s n1)
            have HPC := Lib.hid (fun (w' : World) (hb : Below VX.heap.size VX w') => pcount hsd (TX.out.a.below hb).s n1 n2 (Row.below (TX.out.a.r 0 (by decide)) hb) (Row.below (TX.out.a.r 1 (by decide)) hb) (Row.below (TX.out.a.r 2 (by decide)) hb) (Row.below (TX.out.a.r 3 (by decide)) hb) k hkm)
            simp only [cn_cK] at HPC
            have hle := Few.count HRCX.out
            generalize cK (sumN sd k) n F' = kc at *
            have hmin : (if ((cc : Nat) : Int) < 15 then ((cc : Nat) : Int) else 15) = ((min 15 cc : Nat) : Int) := by split <;> omega
            have hmin2 : min (15 : Int) ((cc : Nat) : Int) = ((min 15 cc : Nat) : Int) := by omega
            generalize hvv : min 15 cc = vv at *
            have hnlt : decide (((kc : Nat) : Int) < ((vv : Nat) : Int)) = false := decide_eq_false (by omega)
            have hnlt2 : ¬ ((kc : Nat) : Int) < ((vv : Nat) : Int) := by omega
            clear hvv
            have q0 : VX.drew.cell? ⟨wr.heap.size, 1, none⟩ = some (.string k) ∧ (Instr.lookup 84 (.map (some mb)) (.string k) false).run Try.prog VX.drew = .ok (.int .i64 cc) VX.drew ∧ wr.heap.size < VX.drew.heap.size ∧ Below VX.heap.size VX VX.drew := ⟨AX.out.c1, HLK.out _ ((Below.refl _ VX).drew), hsx, (Below.refl _ VX).drew⟩
            go_region_held3 (fun w' => w'.cell? ⟨wr.heap.size, 1, none⟩ = some (.string k) ∧ (Instr.lookup 84 (.map (some mb)) (.string k) false).run Try.prog w' = .ok (.int .i64 cc) w' ∧ wr.heap.size < w'.heap.size ∧ Below VX.heap.size VX w')
              (first
                | (exact hold_keep HLK.out o1 (by assumption))
                | (exact q0)
                | assumption
                | (trace_state; fail))
              (first
                | (go_at_call 43; refine (HPA.out _ (by assumption : _ ∧ _ ∧ _ ∧ Below _ _ _).2.2.2).mono ?_; rintro e w' ⟨rfl, o1⟩; replace o1 := Below.of_eq2 o1)
                | (go_at_call 44; refine (HPC.out _ (by assumption : _ ∧ _ ∧ _ ∧ Below _ _ _).2.2.2).mono ?_; rintro e w' ⟨rfl, o1⟩))
            all_goals
              refine with_world (fun w' => w'.cell? ⟨wr.heap.size, 1, none⟩ = some (.string k) ∧ (Instr.lookup 84 (.map (some mb)) (.string k) false).run Try.prog w' = .ok (.int .i64 cc) w' ∧ wr.heap.size < w'.heap.size ∧ Below VX.heap.size VX w') (by assumption) ?_
              intro VY hSx
              have ha1 := hSx.1
              have hab := hSx.2.2.1
              have BX := Lib.hid hSx.2.2.2
              clear q0
              obtain ⟨x', hx', hxb', y0', y1', y2'⟩ := HA.out.below (tr TX.out.w BX.out) (len - 1 - j) (by omega)
              obtain rfl : x = x' := by injection hx'
              have hkm' : (f1 (len - 1 - j)).size ≤ maxLen := y2'
              have HSJ' := Lib.hid (show addF (mem (fun i => sumN sd (f1 (len - 1 - i))) n j) (sumN sd (f1 (len - 1 - j))) n = mem (fun i => sumN sd (f1 (len - 1 - i))) n (j + 1) from HMT.out j)
              clear hx' y2' hSx
              generalize hkk' : f1 (len - 1 - j) = k' at *
              generalize f0 (len - 1 - j) = what' at *
              clear hkk'
              go_wp2_with fail
              have HYB := Lib.hid (show Below VY.heap.size VY (VY.alloc (.cells #[.int .i64 what', .string k'] 76)) by go_grown)
              have TY := Lib.hid (TX.out.below (BX.out.trans (HYB.out.mono BX.out.size)))
              have AY := Lib.hid (AX.out.below (BX.out.trans (HYB.out.mono BX.out.size)))
              have KY := Lib.hid (show Bk3 (VY.alloc (.cells #[.int .i64 what', .string k'] 76)) VY.heap.size what' k' from (MapKept.heap_alloc VY _).1)
              have hj0 : (0 : Int) ≤ (j : Int) := by omega
              have hj1 : (j : Int) < 16777216 := by omega
              have hh3y := TX.out.c.sz
              have hszy := BX.out.size
              clear BX HLK HPA HPC
              refine (ladds hsd TY.out.b n1 n2 (HML.out j) hj0 hj1 k hkm).mono ?_
              rintro e w7 ⟨rfl, f7, k7⟩
              rw [HSJ.out] at f7
              have T7 := Lib.hid (TY.out.ub f7 k7)
              have K7 := Lib.hid (KY.out.keep k7 (.inr (by omega)))
              have hs7 := k7.size
              simp only [World.size_alloc] at hs7
              clear f7 k7 TY KY
              have kc1 := K7.out.c1
              go_wp2_with fail
              refine (ladds hsd T7.out.c n1 n2 (HMM.out j) hj0 hj1 k' hkm').mono ?_
              rintro e w8 ⟨rfl, f8, k8⟩
              rw [HSJ'.out] at f8
              have T8 := Lib.hid (T7.out.uc f8 k8)
              clear f8 k8 T7 K7 kc1
              go_wp2_with fail
              go_roundw
              case rel => exact ⟨j + 1, _, _, _, _, by omega, rfl, rfl, by go_num, T8.out, HT'.out, HF'.out, HW'.out⟩
              case measure => simp [intOf] <;> omega
          · have h0d : decide (0 < m) = false := decide_eq_false h0
            clear hhv
            have hlk := Mp.look T7.out.o HKEY.out HC.out
            have a1 := A7.out.c1
            have hcw : IntKind.i64.wrap ((c : Int) + 1) = (c : Int) + 1 := IntWalk.i64_in _ (by omega)
            go_wp2_with (at_mapUpdate; refine wpList_mapUpdate_own _ rfl _ _ _ 84 rfl 9 3 keys Try.underlying84 (plainElem Try.prog 3) mb j D rfl T7.out.o (by unfold maxLen; omega) _ _ _ rfl rfl HKEY.out _ [] (plainElem_int Try.underlying3 (wf_c1 (by omega))) ?_)
            intro w8 hown8 hgrow8
            have hb8 := but_grown hgrow8
            have T8 := Lib.hid (T7.out.uo hown8 hb8)
            have A8 := Lib.hid (A7.out.but hb8 (by omega))
            have hs8 := hb8.size
            clear hown8 hgrow8 hb8 hlk a1 T7 A7
            have TX := Lib.hid T8.out
            have AX := Lib.hid A8.out
            have HT' := Lib.hid (show 0 ≤ t + 1 ∧ t + 1 ≤ ((j + 1 : Nat) : Int) by omega)
            have HF' := Lib.hid (addF_le HF.out (sumN sd k) n)
            have HW' := Lib.hid (HW.out.add hmap (keys.key HKEY.out) HC.out hcj HCR.out)
            clear T8 A8
            go_wp2_with fail
            generalize addF F (sumN sd k) n = F' at *
            generalize t + 1 = t' at *
            generalize DataW.put D (.string k.data.toList) (.lit (.int .i64 ((c : Int) + 1))) = D' at *
            generalize w8 = VX at *
            obtain ⟨cc, hccj, hcc1, hcc2⟩ := HW'.out k hk3
            have HCX := Lib.hid hcc1
            have HRCX := Lib.hid hcc2
            clear hcc1 hcc2
            have hsx := AX.out.lt
            have HLK := Lib.hid (fun (w' : World) (hb : Below VX.heap.size VX w') => Mp.look (TX.out.o.below hb) HKEY.out HCX.out)
            have HPA := Lib.hid (fun (w' : World) (hb : Below VX.heap.size VX w') => padds (TX.out.a.below hb).s n1)
            have HPC := Lib.hid (fun (w' : World) (hb : Below VX.heap.size VX w') => pcount hsd (TX.out.a.below hb).s n1 n2 (Row.below (TX.out.a.r 0 (by decide)) hb) (Row.below (TX.out.a.r 1 (by decide)) hb) (Row.below (TX.out.a.r 2 (by decide)) hb) (Row.below (TX.out.a.r 3 (by decide)) hb) k hkm)
            simp only [cn_cK] at HPC
            have hle := Few.count HRCX.out
            generalize cK (sumN sd k) n F' = kc at *
            have hmin : (if ((cc : Nat) : Int) < 15 then ((cc : Nat) : Int) else 15) = ((min 15 cc : Nat) : Int) := by split <;> omega
            have hmin2 : min (15 : Int) ((cc : Nat) : Int) = ((min 15 cc : Nat) : Int) := by omega
            generalize hvv : min 15 cc = vv at *
            have hnlt : decide (((kc : Nat) : Int) < ((vv : Nat) : Int)) = false := decide_eq_false (by omega)
            have hnlt2 : ¬ ((kc : Nat) : Int) < ((vv : Nat) : Int) := by omega
            clear hvv
            have q0 : VX.drew.cell? ⟨wr.heap.size, 1, none⟩ = some (.string k) ∧ (Instr.lookup 84 (.map (some mb)) (.string k) false).run Try.prog VX.drew = .ok (.int .i64 cc) VX.drew ∧ wr.heap.size < VX.drew.heap.size ∧ Below VX.heap.size VX VX.drew := ⟨AX.out.c1, HLK.out _ ((Below.refl _ VX).drew), hsx, (Below.refl _ VX).drew⟩
            go_region_held3 (fun w' => w'.cell? ⟨wr.heap.size, 1, none⟩ = some (.string k) ∧ (Instr.lookup 84 (.map (some mb)) (.string k) false).run Try.prog w' = .ok (.int .i64 cc) w' ∧ wr.heap.size < w'.heap.size ∧ Below VX.heap.size VX w')
              (first
                | (exact hold_keep HLK.out o1 (by assumption))
                | (exact q0)
                | assumption
                | (trace_state; fail))
              (first
                | (go_at_call 43; refine (HPA.out _ (by assumption : _ ∧ _ ∧ _ ∧ Below _ _ _).2.2.2).mono ?_; rintro e w' ⟨rfl, o1⟩; replace o1 := Below.of_eq2 o1)
                | (go_at_call 44; refine (HPC.out _ (by assumption : _ ∧ _ ∧ _ ∧ Below _ _ _).2.2.2).mono ?_; rintro e w' ⟨rfl, o1⟩))
            all_goals
              refine with_world (fun w' => w'.cell? ⟨wr.heap.size, 1, none⟩ = some (.string k) ∧ (Instr.lookup 84 (.map (some mb)) (.string k) false).run Try.prog w' = .ok (.int .i64 cc) w' ∧ wr.heap.size < w'.heap.size ∧ Below VX.heap.size VX w') (by assumption) ?_
              intro VY hSx
              have ha1 := hSx.1
              have hab := hSx.2.2.1
              have BX := Lib.hid hSx.2.2.2
              clear q0
              obtain ⟨x', hx', hxb', y0', y1', y2'⟩ := HA.out.below (tr TX.out.w BX.out) (len - 1 - j) (by omega)
              obtain rfl : x = x' := by injection hx'
              have hkm' : (f1 (len - 1 - j)).size ≤ maxLen := y2'
              have HSJ' := Lib.hid (show addF (mem (fun i => sumN sd (f1 (len - 1 - i))) n j) (sumN sd (f1 (len - 1 - j))) n = mem (fun i => sumN sd (f1 (len - 1 - i))) n (j + 1) from HMT.out j)
              clear hx' y2' hSx
              generalize hkk' : f1 (len - 1 - j) = k' at *
              generalize f0 (len - 1 - j) = what' at *
              clear hkk'
              go_wp2_with fail
              have HYB := Lib.hid (show Below VY.heap.size VY (VY.alloc (.cells #[.int .i64 what', .string k'] 76)) by go_grown)
              have TY := Lib.hid (TX.out.below (BX.out.trans (HYB.out.mono BX.out.size)))
              have AY := Lib.hid (AX.out.below (BX.out.trans (HYB.out.mono BX.out.size)))
              have KY := Lib.hid (show Bk3 (VY.alloc (.cells #[.int .i64 what', .string k'] 76)) VY.heap.size what' k' from (MapKept.heap_alloc VY _).1)
              have hj0 : (0 : Int) ≤ (j : Int) := by omega
              have hj1 : (j : Int) < 16777216 := by omega
              have hh3y := TX.out.c.sz
              have hszy := BX.out.size
              clear BX HLK HPA HPC
              refine (ladds hsd TY.out.b n1 n2 (HML.out j) hj0 hj1 k hkm).mono ?_
              rintro e w7 ⟨rfl, f7, k7⟩
              rw [HSJ.out] at f7
              have T7 := Lib.hid (TY.out.ub f7 k7)
              have K7 := Lib.hid (KY.out.keep k7 (.inr (by omega)))
              have hs7 := k7.size
              simp only [World.size_alloc] at hs7
              clear f7 k7 TY KY
              have kc1 := K7.out.c1
              go_wp2_with fail
              refine (ladds hsd T7.out.c n1 n2 (HMM.out j) hj0 hj1 k' hkm').mono ?_
              rintro e w8 ⟨rfl, f8, k8⟩
              rw [HSJ'.out] at f8
              have T8 := Lib.hid (T7.out.uc f8 k8)
              clear f8 k8 T7 K7 kc1
              go_wp2_with fail
              go_roundw
              case rel => exact ⟨j + 1, _, _, _, _, by omega, rfl, rfl, by go_num, T8.out, HT'.out, HF'.out, HW'.out⟩
              case measure => simp [intOf] <;> omega
        · have hTA : tA m t = (t + 1) / 2 := by unfold tA; rw [hhv]; rfl
          have hFA : FA m t F (sumN sd k) n = halF (addF F (sumN sd k) n) := by unfold FA; rw [hhv]; rfl
          rw [hTA, hFA] at f7
          have T7 := Lib.hid (T6.out.ua f7 k7)
          have h0 : 0 < m := by
            unfold hv at hhv
            simp only [Bool.and_eq_true, Bool.not_eq_true', beq_eq_false_iff_ne] at hhv
            have := hhv.1
            omega
          have h0d : decide (0 < m) = true := decide_eq_true h0
          have h2 : (t + 1 == m) = true := by
            unfold hv at hhv
            simp only [Bool.and_eq_true] at hhv
            exact hhv.2
          clear f7 k7 T6 A T hTA hFA hhv
          have hlk := Mp.look T7.out.o HKEY.out HC.out
          have a1 := A7.out.c1
          have hcw : IntKind.i64.wrap ((c : Int) + 1) = (c : Int) + 1 := IntWalk.i64_in _ (by omega)
          go_wp2_with (at_mapUpdate; refine wpList_mapUpdate_own _ rfl _ _ _ 84 rfl 9 3 keys Try.underlying84 (plainElem Try.prog 3) mb j D rfl T7.out.o (by unfold maxLen; omega) _ _ _ rfl rfl HKEY.out _ [] (plainElem_int Try.underlying3 (wf_c1 (by omega))) ?_)
          intro w8 hown8 hgrow8
          have hb8 := but_grown hgrow8
          have T8 := Lib.hid (T7.out.uo hown8 hb8)
          have A8 := Lib.hid (A7.out.but hb8 (by omega))
          have hs8 := hb8.size
          clear hown8 hgrow8 hb8 hlk a1 T7 A7
          have TX := Lib.hid (T8.out.no (j' := j + 1))
          have AX := Lib.hid (A8.out.below (by go_grown : Below w8.heap.size w8 (w8.alloc (.map #[] 0))))
          have HT' := Lib.hid (show 0 ≤ (t + 1) / 2 ∧ (t + 1) / 2 ≤ ((j + 1 : Nat) : Int) by omega)
          have HF' := Lib.hid (halF_le (addF_le HF.out (sumN sd k) n))
          have HW' := Lib.hid (Few.none sd n (halF (addF F (sumN sd k) n)) (j + 1))
          clear T8 A8
          go_wp2_with fail
          generalize halF (addF F (sumN sd k) n) = F' at *
          generalize (t + 1) / 2 = t' at *
          generalize w8.alloc (.map #[] 0) = VX at *
          generalize w8.heap.size = mb' at *
          obtain ⟨cc, hccj, hcc1, hcc2⟩ := HW'.out k hk3
          have HCX := Lib.hid hcc1
          have HRCX := Lib.hid hcc2
          clear hcc1 hcc2
          have hsx := AX.out.lt
          have HLK := Lib.hid (fun (w' : World) (hb : Below VX.heap.size VX w') => Mp.look (TX.out.o.below hb) HKEY.out HCX.out)
          have HPA := Lib.hid (fun (w' : World) (hb : Below VX.heap.size VX w') => padds (TX.out.a.below hb).s n1)
          have HPC := Lib.hid (fun (w' : World) (hb : Below VX.heap.size VX w') => pcount hsd (TX.out.a.below hb).s n1 n2 (Row.below (TX.out.a.r 0 (by decide)) hb) (Row.below (TX.out.a.r 1 (by decide)) hb) (Row.below (TX.out.a.r 2 (by decide)) hb) (Row.below (TX.out.a.r 3 (by decide)) hb) k hkm)
          simp only [cn_cK] at HPC
          have hle := Few.count HRCX.out
          generalize cK (sumN sd k) n F' = kc at *
          have hmin : (if ((cc : Nat) : Int) < 15 then ((cc : Nat) : Int) else 15) = ((min 15 cc : Nat) : Int) := by split <;> omega
          have hmin2 : min (15 : Int) ((cc : Nat) : Int) = ((min 15 cc : Nat) : Int) := by omega
          generalize hvv : min 15 cc = vv at *
          have hnlt : decide (((kc : Nat) : Int) < ((vv : Nat) : Int)) = false := decide_eq_false (by omega)
          have hnlt2 : ¬ ((kc : Nat) : Int) < ((vv : Nat) : Int) := by omega
          clear hvv
          have q0 : VX.drew.cell? ⟨wr.heap.size, 1, none⟩ = some (.string k) ∧ (Instr.lookup 84 (.map (some mb')) (.string k) false).run Try.prog VX.drew = .ok (.int .i64 cc) VX.drew ∧ wr.heap.size < VX.drew.heap.size ∧ Below VX.heap.size VX VX.drew := ⟨AX.out.c1, HLK.out _ ((Below.refl _ VX).drew), hsx, (Below.refl _ VX).drew⟩
          go_region_held3 (fun w' => w'.cell? ⟨wr.heap.size, 1, none⟩ = some (.string k) ∧ (Instr.lookup 84 (.map (some mb')) (.string k) false).run Try.prog w' = .ok (.int .i64 cc) w' ∧ wr.heap.size < w'.heap.size ∧ Below VX.heap.size VX w')
            (first
              | (exact hold_keep HLK.out o1 (by assumption))
              | (exact q0)
              | assumption
              | (trace_state; fail))
            (first
              | (go_at_call 43; refine (HPA.out _ (by assumption : _ ∧ _ ∧ _ ∧ Below _ _ _).2.2.2).mono ?_; rintro e w' ⟨rfl, o1⟩; replace o1 := Below.of_eq2 o1)
              | (go_at_call 44; refine (HPC.out _ (by assumption : _ ∧ _ ∧ _ ∧ Below _ _ _).2.2.2).mono ?_; rintro e w' ⟨rfl, o1⟩))
          all_goals
            refine with_world (fun w' => w'.cell? ⟨wr.heap.size, 1, none⟩ = some (.string k) ∧ (Instr.lookup 84 (.map (some mb')) (.string k) false).run Try.prog w' = .ok (.int .i64 cc) w' ∧ wr.heap.size < w'.heap.size ∧ Below VX.heap.size VX w') (by assumption) ?_
            intro VY hSx
            have ha1 := hSx.1
            have hab := hSx.2.2.1
            have BX := Lib.hid hSx.2.2.2
            clear q0
            obtain ⟨x', hx', hxb', y0', y1', y2'⟩ := HA.out.below (tr TX.out.w BX.out) (len - 1 - j) (by omega)
            obtain rfl : x = x' := by injection hx'
            have hkm' : (f1 (len - 1 - j)).size ≤ maxLen := y2'
            have HSJ' := Lib.hid (show addF (mem (fun i => sumN sd (f1 (len - 1 - i))) n j) (sumN sd (f1 (len - 1 - j))) n = mem (fun i => sumN sd (f1 (len - 1 - i))) n (j + 1) from HMT.out j)
            clear hx' y2' hSx
            generalize hkk' : f1 (len - 1 - j) = k' at *
            generalize f0 (len - 1 - j) = what' at *
            clear hkk'
            go_wp2_with fail
            have HYB := Lib.hid (show Below VY.heap.size VY (VY.alloc (.cells #[.int .i64 what', .string k'] 76)) by go_grown)
            have TY := Lib.hid (TX.out.below (BX.out.trans (HYB.out.mono BX.out.size)))
            have AY := Lib.hid (AX.out.below (BX.out.trans (HYB.out.mono BX.out.size)))
            have KY := Lib.hid (show Bk3 (VY.alloc (.cells #[.int .i64 what', .string k'] 76)) VY.heap.size what' k' from (MapKept.heap_alloc VY _).1)
            have hj0 : (0 : Int) ≤ (j : Int) := by omega
            have hj1 : (j : Int) < 16777216 := by omega
            have hh3y := TX.out.c.sz
            have hszy := BX.out.size
            clear BX HLK HPA HPC
            refine (ladds hsd TY.out.b n1 n2 (HML.out j) hj0 hj1 k hkm).mono ?_
            rintro e w7 ⟨rfl, f7, k7⟩
            rw [HSJ.out] at f7
            have T7 := Lib.hid (TY.out.ub f7 k7)
            have K7 := Lib.hid (KY.out.keep k7 (.inr (by omega)))
            have hs7 := k7.size
            simp only [World.size_alloc] at hs7
            clear f7 k7 TY KY
            have kc1 := K7.out.c1
            go_wp2_with fail
            refine (ladds hsd T7.out.c n1 n2 (HMM.out j) hj0 hj1 k' hkm').mono ?_
            rintro e w8 ⟨rfl, f8, k8⟩
            rw [HSJ'.out] at f8
            have T8 := Lib.hid (T7.out.uc f8 k8)
            clear f8 k8 T7 K7 kc1
            go_wp2_with fail
            go_roundw
            case rel => exact ⟨j + 1, _, _, _, _, by omega, rfl, rfl, by go_num, T8.out, HT'.out, HF'.out, HW'.out⟩
            case measure => simp [intOf] <;> omega
      by_cases c1 : what = 1
      · subst c1
        have htb : t ≤ 16777216 := by omega
        go_wp2_with fail
        refine (phalve T6.out.a n1 n2 HF.out ht0 htb).mono ?_
        rintro e w7 ⟨rfl, f7, k7⟩
        have T7 := Lib.hid (T6.out.ua f7 k7)
        have A7 := Lib.hid (A.out.keep k7 (.inr (by omega)))
        have hs7 := k7.size
        simp only [World.size_alloc] at hs7
        clear f7 k7 T6 A T
        have TX := Lib.hid (T7.out.no (j' := j + 1))
        have AX := Lib.hid (A7.out.below (by go_grown : Below w7.heap.size w7 (w7.alloc (.map #[] 0))))
        have HT' := Lib.hid (show 0 ≤ t / 2 ∧ t / 2 ≤ ((j + 1 : Nat) : Int) by omega)
        have HF' := Lib.hid (halF_le HF.out)
        have HW' := Lib.hid (Few.none sd n (halF F) (j + 1))
        clear T7 A7
        go_wp2_with fail
        generalize halF F = F' at *
        generalize t / 2 = t' at *
        generalize w7.alloc (.map #[] 0) = VX at *
        generalize w7.heap.size = mb' at *
        obtain ⟨cc, hccj, hcc1, hcc2⟩ := HW'.out k hk3
        have HCX := Lib.hid hcc1
        have HRCX := Lib.hid hcc2
        clear hcc1 hcc2
        have hsx := AX.out.lt
        have HLK := Lib.hid (fun (w' : World) (hb : Below VX.heap.size VX w') => Mp.look (TX.out.o.below hb) HKEY.out HCX.out)
        have HPA := Lib.hid (fun (w' : World) (hb : Below VX.heap.size VX w') => padds (TX.out.a.below hb).s n1)
        have HPC := Lib.hid (fun (w' : World) (hb : Below VX.heap.size VX w') => pcount hsd (TX.out.a.below hb).s n1 n2 (Row.below (TX.out.a.r 0 (by decide)) hb) (Row.below (TX.out.a.r 1 (by decide)) hb) (Row.below (TX.out.a.r 2 (by decide)) hb) (Row.below (TX.out.a.r 3 (by decide)) hb) k hkm)
        simp only [cn_cK] at HPC
        have hle := Few.count HRCX.out
        generalize cK (sumN sd k) n F' = kc at *
        have hmin : (if ((cc : Nat) : Int) < 15 then ((cc : Nat) : Int) else 15) = ((min 15 cc : Nat) : Int) := by split <;> omega
        have hmin2 : min (15 : Int) ((cc : Nat) : Int) = ((min 15 cc : Nat) : Int) := by omega
        generalize hvv : min 15 cc = vv at *
        have hnlt : decide (((kc : Nat) : Int) < ((vv : Nat) : Int)) = false := decide_eq_false (by omega)
        have hnlt2 : ¬ ((kc : Nat) : Int) < ((vv : Nat) : Int) := by omega
        clear hvv
        have q0 : VX.drew.cell? ⟨wr.heap.size, 1, none⟩ = some (.string k) ∧ (Instr.lookup 84 (.map (some mb')) (.string k) false).run Try.prog VX.drew = .ok (.int .i64 cc) VX.drew ∧ wr.heap.size < VX.drew.heap.size ∧ Below VX.heap.size VX VX.drew := ⟨AX.out.c1, HLK.out _ ((Below.refl _ VX).drew), hsx, (Below.refl _ VX).drew⟩
        go_region_held3 (fun w' => w'.cell? ⟨wr.heap.size, 1, none⟩ = some (.string k) ∧ (Instr.lookup 84 (.map (some mb')) (.string k) false).run Try.prog w' = .ok (.int .i64 cc) w' ∧ wr.heap.size < w'.heap.size ∧ Below VX.heap.size VX w')
          (first
            | (exact hold_keep HLK.out o1 (by assumption))
            | (exact q0)
            | assumption
            | (trace_state; fail))
          (first
            | (go_at_call 43; refine (HPA.out _ (by assumption : _ ∧ _ ∧ _ ∧ Below _ _ _).2.2.2).mono ?_; rintro e w' ⟨rfl, o1⟩; replace o1 := Below.of_eq2 o1)
            | (go_at_call 44; refine (HPC.out _ (by assumption : _ ∧ _ ∧ _ ∧ Below _ _ _).2.2.2).mono ?_; rintro e w' ⟨rfl, o1⟩))
        all_goals
          refine with_world (fun w' => w'.cell? ⟨wr.heap.size, 1, none⟩ = some (.string k) ∧ (Instr.lookup 84 (.map (some mb')) (.string k) false).run Try.prog w' = .ok (.int .i64 cc) w' ∧ wr.heap.size < w'.heap.size ∧ Below VX.heap.size VX w') (by assumption) ?_
          intro VY hSx
          have ha1 := hSx.1
          have hab := hSx.2.2.1
          have BX := Lib.hid hSx.2.2.2
          clear q0
          obtain ⟨x', hx', hxb', y0', y1', y2'⟩ := HA.out.below (tr TX.out.w BX.out) (len - 1 - j) (by omega)
          obtain rfl : x = x' := by injection hx'
          have hkm' : (f1 (len - 1 - j)).size ≤ maxLen := y2'
          have HSJ' := Lib.hid (show addF (mem (fun i => sumN sd (f1 (len - 1 - i))) n j) (sumN sd (f1 (len - 1 - j))) n = mem (fun i => sumN sd (f1 (len - 1 - i))) n (j + 1) from HMT.out j)
          clear hx' y2' hSx
          generalize hkk' : f1 (len - 1 - j) = k' at *
          generalize f0 (len - 1 - j) = what' at *
          clear hkk'
          go_wp2_with fail
          have HYB := Lib.hid (show Below VY.heap.size VY (VY.alloc (.cells #[.int .i64 what', .string k'] 76)) by go_grown)
          have TY := Lib.hid (TX.out.below (BX.out.trans (HYB.out.mono BX.out.size)))
          have AY := Lib.hid (AX.out.below (BX.out.trans (HYB.out.mono BX.out.size)))
          have KY := Lib.hid (show Bk3 (VY.alloc (.cells #[.int .i64 what', .string k'] 76)) VY.heap.size what' k' from (MapKept.heap_alloc VY _).1)
          have hj0 : (0 : Int) ≤ (j : Int) := by omega
          have hj1 : (j : Int) < 16777216 := by omega
          have hh3y := TX.out.c.sz
          have hszy := BX.out.size
          clear BX HLK HPA HPC
          refine (ladds hsd TY.out.b n1 n2 (HML.out j) hj0 hj1 k hkm).mono ?_
          rintro e w7 ⟨rfl, f7, k7⟩
          rw [HSJ.out] at f7
          have T7 := Lib.hid (TY.out.ub f7 k7)
          have K7 := Lib.hid (KY.out.keep k7 (.inr (by omega)))
          have hs7 := k7.size
          simp only [World.size_alloc] at hs7
          clear f7 k7 TY KY
          have kc1 := K7.out.c1
          go_wp2_with fail
          refine (ladds hsd T7.out.c n1 n2 (HMM.out j) hj0 hj1 k' hkm').mono ?_
          rintro e w8 ⟨rfl, f8, k8⟩
          rw [HSJ'.out] at f8
          have T8 := Lib.hid (T7.out.uc f8 k8)
          clear f8 k8 T7 K7 kc1
          go_wp2_with fail
          go_roundw
          case rel => exact ⟨j + 1, _, _, _, _, by omega, rfl, rfl, by go_num, T8.out, HT'.out, HF'.out, HW'.out⟩
          case measure => simp [intOf] <;> omega
      · have TX := Lib.hid (T6.out.more (Nat.le_succ j))
        have AX := Lib.hid A.out
        have HF' := Lib.hid HF.out
        have HT' := Lib.hid (show 0 ≤ t ∧ t ≤ ((j + 1 : Nat) : Int) by omega)
        have HW' := Lib.hid (show Few sd n F D (j + 1) from fun k' hk' => by obtain ⟨c', h1, h2, h3⟩ := HW.out k' hk'; exact ⟨c', by omega, h2, h3⟩)
        go_wp2_with fail
        generalize wr.alloc (.cells #[.int .i64 what, .string k] 76) = VX at *
        obtain ⟨cc, hccj, hcc1, hcc2⟩ := HW'.out k hk3
        have HCX := Lib.hid hcc1
        have HRCX := Lib.hid hcc2
        clear hcc1 hcc2
        have hsx := AX.out.lt
        have HLK := Lib.hid (fun (w' : World) (hb : Below VX.heap.size VX w') => Mp.look (TX.out.o.below hb) HKEY.out HCX.out)
        have HPA := Lib.hid (fun (w' : World) (hb : Below VX.heap.size VX w') => padds (TX.out.a.below hb).s n1)
        have HPC := Lib.hid (fun (w' : World) (hb : Below VX.heap.size VX w') => pcount hsd (TX.out.a.below hb).s n1 n2 (Row.below (TX.out.a.r 0 (by decide)) hb) (Row.below (TX.out.a.r 1 (by decide)) hb) (Row.below (TX.out.a.r 2 (by decide)) hb) (Row.below (TX.out.a.r 3 (by decide)) hb) k hkm)
        simp only [cn_cK] at HPC
        have hle := Few.count HRCX.out
        generalize cK (sumN sd k) n F = kc at *
        have hmin : (if ((cc : Nat) : Int) < 15 then ((cc : Nat) : Int) else 15) = ((min 15 cc : Nat) : Int) := by split <;> omega
        have hmin2 : min (15 : Int) ((cc : Nat) : Int) = ((min 15 cc : Nat) : Int) := by omega
        generalize hvv : min 15 cc = vv at *
        have hnlt : decide (((kc : Nat) : Int) < ((vv : Nat) : Int)) = false := decide_eq_false (by omega)
        have hnlt2 : ¬ ((kc : Nat) : Int) < ((vv : Nat) : Int) := by omega
        clear hvv
        have q0 : VX.drew.cell? ⟨wr.heap.size, 1, none⟩ = some (.string k) ∧ (Instr.lookup 84 (.map (some mb)) (.string k) false).run Try.prog VX.drew = .ok (.int .i64 cc) VX.drew ∧ wr.heap.size < VX.drew.heap.size ∧ Below VX.heap.size VX VX.drew := ⟨AX.out.c1, HLK.out _ ((Below.refl _ VX).drew), hsx, (Below.refl _ VX).drew⟩
        go_region_held3 (fun w' => w'.cell? ⟨wr.heap.size, 1, none⟩ = some (.string k) ∧ (Instr.lookup 84 (.map (some mb)) (.string k) false).run Try.prog w' = .ok (.int .i64 cc) w' ∧ wr.heap.size < w'.heap.size ∧ Below VX.heap.size VX w')
          (first
            | (exact hold_keep HLK.out o1 (by assumption))
            | (exact q0)
            | assumption
            | (trace_state; fail))
          (first
            | (go_at_call 43; refine (HPA.out _ (by assumption : _ ∧ _ ∧ _ ∧ Below _ _ _).2.2.2).mono ?_; rintro e w' ⟨rfl, o1⟩; replace o1 := Below.of_eq2 o1)
            | (go_at_call 44; refine (HPC.out _ (by assumption : _ ∧ _ ∧ _ ∧ Below _ _ _).2.2.2).mono ?_; rintro e w' ⟨rfl, o1⟩))
        all_goals
          refine with_world (fun w' => w'.cell? ⟨wr.heap.size, 1, none⟩ = some (.string k) ∧ (Instr.lookup 84 (.map (some mb)) (.string k) false).run Try.prog w' = .ok (.int .i64 cc) w' ∧ wr.heap.size < w'.heap.size ∧ Below VX.heap.size VX w') (by assumption) ?_
          intro VY hSx
          have ha1 := hSx.1
          have hab := hSx.2.2.1
          have BX := Lib.hid hSx.2.2.2
          clear q0
          obtain ⟨x', hx', hxb', y0', y1', y2'⟩ := HA.out.below (tr TX.out.w BX.out) (len - 1 - j) (by omega)
          obtain rfl : x = x' := by injection hx'
          have hkm' : (f1 (len - 1 - j)).size ≤ maxLen := y2'
          have HSJ' := Lib.hid (show addF (mem (fun i => sumN sd (f1 (len - 1 - i))) n j) (sumN sd (f1 (len - 1 - j))) n = mem (fun i => sumN sd (f1 (len - 1 - i))) n (j + 1) from HMT.out j)
          clear hx' y2' hSx
          generalize hkk' : f1 (len - 1 - j) = k' at *
          generalize f0 (len - 1 - j) = what' at *
          clear hkk'
          go_wp2_with fail
          have HYB := Lib.hid (show Below VY.heap.size VY (VY.alloc (.cells #[.int .i64 what', .string k'] 76)) by go_grown)
          have TY := Lib.hid (TX.out.below (BX.out.trans (HYB.out.mono BX.out.size)))
          have AY := Lib.hid (AX.out.below (BX.out.trans (HYB.out.mono BX.out.size)))
          have KY := Lib.hid (show Bk3 (VY.alloc (.cells #[.int .i64 what', .string k'] 76)) VY.heap.size what' k' from (MapKept.heap_alloc VY _).1)
          have hj0 : (0 : Int) ≤ (j : Int) := by omega
          have hj1 : (j : Int) < 16777216 := by omega
          have hh3y := TX.out.c.sz
          have hszy := BX.out.size
          clear BX HLK HPA HPC
          refine (ladds hsd TY.out.b n1 n2 (HML.out j) hj0 hj1 k hkm).mono ?_
          rintro e w7 ⟨rfl, f7, k7⟩
          rw [HSJ.out] at f7
          have T7 := Lib.hid (TY.out.ub f7 k7)
          have K7 := Lib.hid (KY.out.keep k7 (.inr (by omega)))
          have hs7 := k7.size
          simp only [World.size_alloc] at hs7
          clear f7 k7 TY KY
          have kc1 := K7.out.c1
          go_wp2_with fail
          refine (ladds hsd T7.out.c n1 n2 (HMM.out j) hj0 hj1 k' hkm').mono ?_
          rintro e w8 ⟨rfl, f8, k8⟩
          rw [HSJ'.out] at f8
          have T8 := Lib.hid (T7.out.uc f8 k8)
          clear f8 k8 T7 K7 kc1
          go_wp2_with fail
          go_roundw
          case rel => exact ⟨j + 1, _, _, _, _, by omega, rfl, rfl, by go_num, T8.out, HT'.out, HF'.out, HW'.out⟩
          case measure => simp [intOf] <;> omega
    · obtain rfl : j = len := by omega
      have hmv := HMV.out j rfl
      rw [hmv] at T
      have HM := Lib.hid (HML.out j)
      generalize mem (fun i => sumN sd (f1 i)) n j = M at *
      clear hmv
      go_wp2_with fail
      go_loopw [25] (fun i wt => ∃ mm : Nat, mm ≤ 4 ∧ i = .int .i64 mm ∧ Th W wt n m sd p1 l1 l2 q1 c1 t F p2 l2 l3 q2 c2 j M p3 l3 h3 q3 c3 j M mb j D) (fun i _ => 4 - (intOf i).toNat)
      case atStart => exact ⟨0, by omega, rfl, T.out⟩
      case round =>
        clear T
        obtain ⟨mm, hmm, rfl, hTm⟩ := hrel
        have TM := Lib.hid hTm
        clear hTm
        by_cases hm4 : mm < 4
        · have hd : decide ((mm : Int) < 4) = true := decide_eq_true (by omega)
          go_wp2_with fail
          refine (prow TM.out.b.s n1 n2 hm4 (TM.out.b.cr hm4) (fun i => by have := HM.out mm i; omega) (TM.out.b.r _ hm4)).mono ?_
          rintro e w7 ⟨g1, rfl, hg1, -, b7⟩
          have TN := Lib.hid (TM.out.below b7)
          have G1 := Lib.hid hg1
          clear b7 hg1 TM
          go_wp2_with fail
          refine (prow TN.out.c.s n1 n2 hm4 (TN.out.c.cr hm4) (fun i => by have := HM.out mm i; omega) (TN.out.c.r _ hm4)).mono ?_
          rintro e w8 ⟨g2, rfl, hg2, -, b8⟩
          have TO := Lib.hid (TN.out.below b8)
          have G2 := Lib.hid hg2
          have G3 := Lib.hid (Row.below G1.out b8)
          clear b8 hg2 TN G1
          go_wp2_with fail
          refine (same33 (f := fun i => ((M mm i : Nat) : Int)) G3.out G2.out n2).mono ?_
          rintro e w9 ⟨rfl, b9⟩
          have TP := Lib.hid (TO.out.below b9)
          clear b9 TO G2 G3
          go_wp2_with fail
          go_roundw
          case rel => exact ⟨mm + 1, by omega, by go_num, TP.out⟩
          case measure => simp [intOf] <;> omega
        · obtain rfl : mm = 4 := by omega
          have hd4 : decide (((4 : Nat) : Int) < 4) = false := by decide
          go_wp2_with fail
          refine (HK.out _ TM.out.w).mono ?_
          rintro e w18 ⟨rfl, b18⟩
          go_wp2_with fail
          go_ret
          exact ⟨rfl, tr TM.out.w b18⟩
set_option maxRecDepth 100000 in
set_option maxHeartbeats 2000000 in
theorem lholds_a {W : World} {b m sd : Int} (hin : In b m) (ha : als b m = false) {a : Option Addr} {len cap : Nat} (hk : Kns W) :
    Calls Try.prog 11 #[.int .i64 b, .int .u64 sd, .int .i64 m, .slice a len cap] W fun e w' => e = .returned (.bool true) ∧ Below W.heap.size W w' := by
  have HK := Lib.hid hk
  have HR := Lib.hid (fun w => snew_bad (W := w) (sd := sd) hin ha)
  clear hk ha hin
  unfold sk0 at HR
  go_enter Try.func11, Try.ntmps11
  go_wp2_with fail
  refine (HR.out _).mono ?_
  rintro e w1 ⟨rfl, b1⟩
  have B1 := Lib.hid b1
  clear b1
  go_wp2_with fail
  refine (HK.out _ (by first | exact B1.out | exact tr B1.out (by go_grown))).mono ?_
  rintro e w3 ⟨rfl, b3⟩
  go_wp2_with fail
  go_ret
  exact ⟨rfl, by first | exact tr B1.out b3 | exact tr (tr B1.out (by go_grown)) b3⟩
set_option maxRecDepth 100000 in
set_option maxHeartbeats 2000000 in
theorem lholds_c {W : World} {b m sd : Int} {n : Nat} (hin : In b m) (ha : als b m = true) (hbn : b = n) {a : Option Addr} {len cap : Nat} {f0 : Nat → Int} {f1 : Nat → ByteArray} (hacts : Acts W a len f0 f1) (hbig : ¬ (b ≤ 64 ∧ m ≤ 100 ∧ fewB len 60 f1 = true)) (hk : Kns W) :
    Calls Try.prog 11 #[.int .i64 b, .int .u64 sd, .int .i64 m, .slice a len cap] W fun e w' => e = .returned (.bool true) ∧ Below W.heap.size W w' := by
  have HK := Lib.hid hk
  have HR := Lib.hid (fun w => rnew (W := w) (sd := sd) hin ha hbn)
  have HFEW := Lib.hid (fun (w : World) (hb : Below W.heap.size W w) => few_any (cap := cap) (hacts.below hb))
  clear hk ha hin hacts
  subst hbn
  unfold skv sk at HR
  go_enter Try.func11, Try.ntmps11
  go_wp2_with fail
  refine (HR.out _).mono ?_
  rintro e w1 ⟨r, rc, rfl, hr1, hg1, b1⟩
  have C2 := Lib.hid (tr b1 (by go_grown : Below w1.heap.size w1 (w1.alloc (hO n m 0 sd r rc))))
  unfold hO at C2
  clear hr1 hg1 b1
  by_cases x1 : 64 < (n : Int)
  · clear hbig
    go_wp2_with fail
    refine (HK.out _ C2.out).mono ?_
    rintro e w3 ⟨rfl, b3⟩
    go_wp2_with fail
    go_ret
    exact ⟨rfl, tr C2.out b3⟩
  · by_cases x2 : 100 < m
    · clear hbig
      go_wp2_with fail
      refine (HK.out _ C2.out).mono ?_
      rintro e w3 ⟨rfl, b3⟩
      go_wp2_with fail
      go_ret
      exact ⟨rfl, tr C2.out b3⟩
    · have hf : fewB len 60 f1 = false := by
        cases hh : fewB len 60 f1
        · rfl
        · exact absurd ⟨by omega, by omega, hh⟩ hbig
      rw [hf] at HFEW
      clear hbig hf
      go_wp2_with fail
      refine (HFEW.out _ C2.out).mono ?_
      rintro e w2 ⟨rfl, b2⟩
      have C3 := Lib.hid (tr C2.out b2)
      clear b2
      go_wp2_with fail
      refine (HK.out _ C3.out).mono ?_
      rintro e w3 ⟨rfl, b3⟩
      go_wp2_with fail
      go_ret
      exact ⟨rfl, tr C3.out b3⟩
theorem lholds_any {W : World} {b m sd : Int} (hin : In b m) (hsd : Word sd) {a : Option Addr} {len cap : Nat} {f0 : Nat → Int} {f1 : Nat → ByteArray} (hacts : Acts W a len f0 f1) (hk : Kns W) :
    Calls Try.prog 11 #[.int .i64 b, .int .u64 sd, .int .i64 m, .slice a len cap] W fun e w' => e = .returned (.bool true) ∧ Below W.heap.size W w' := by
  cases ha : als b m
  · exact lholds_a hin ha hk
  · obtain ⟨n, hbn, n1, n2⟩ := als_n ha
    have hm0 : 0 ≤ m := by
      unfold als at ha
      simp only [Bool.and_eq_true, decide_eq_true_eq] at ha
      exact ha.1.2
    by_cases hbig : b ≤ 64 ∧ m ≤ 100 ∧ fewB len 60 f1 = true
    · exact lholds_ok hin ha hbn n1 n2 hsd hacts hbig.1 hm0 hbig.2.1 hbig.2.2 hk
    · exact lholds_c hin ha hbn hacts hbig hk
end Go.Proofs.Ytohldfhelppehaa.Skt
