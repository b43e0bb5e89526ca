/-
  Ghost lists (layer 28): Len, Most, Has, move.
-/
import Derived.Test.YtggimkfepcgaoaaGhoA
set_option linter.unusedVariables false
set_option linter.unusedSimpArgs false
namespace Go.Proofs.Ytggimkfepcgaoaa.Gho
open Go Go.RowKit Kit Go.Maps Lnk
section
variable {w w' : World} {b c q r cq cr N : Nat} {F : Lnk.Fd} {g kc m nm : Nat} {D : DataW Unit} {most : Int} {L fr KL : List Nat}
set_option maxRecDepth 100000
theorem gzero_any (H : Gh w b c q r cq cr N F g kc m nm D most L fr KL) :
    Calls Try.prog 115 #[.pointer (some ⟨b, 0, none⟩)] w fun e w' => e = .returned (.bool false) ∧ w = w' := by
  obtain ⟨c0, c1, c2, c3, -⟩ := H.cells
  clear H
  go_enter Try.func115, Try.ntmps115
  go_wp2_with fail
  go_ret
  exact ⟨rfl, rfl⟩
theorem glen_any (H : Gh w b c q r cq cr N F g kc m nm D most L fr KL) :
    Calls Try.prog 42 #[.pointer (some ⟨b, 0, none⟩)] w fun e w' => e = .returned (.int .i64 (L.length : Int)) ∧ w = w' := by
  have HZ := Lib.hid (gzero_any H)
  obtain ⟨c0, c1, c2, c3, -⟩ := H.cells
  have hlm : (Builtin.len_ #[153] 3 #[.map (some m)]).run Try.prog w = .ok (.int .i64 (L.length : Int)) w := by
    rw [H.mp.len und_map, H.mf.size]
    unfold ent
    rw [List.length_map]
  clear H
  go_enter Try.func42, Try.ntmps42
  go_wp2_with fail
  refine HZ.out.mono ?_
  rintro e w1 ⟨rfl, rfl⟩
  go_wp2_with fail
  go_ret
  exact ⟨rfl, rfl⟩
theorem gmost_any (H : Gh w b c q r cq cr N F g kc m nm D most L fr KL) :
    Calls Try.prog 41 #[.pointer (some ⟨b, 0, none⟩)] w fun e w' => e = .returned (.int .i64 most) ∧ w = w' := by
  have HZ := Lib.hid (gzero_any H)
  obtain ⟨c0, c1, c2, c3, -⟩ := H.cells
  clear H
  go_enter Try.func41, Try.ntmps41
  go_wp2_with fail
  refine HZ.out.mono ?_
  rintro e w1 ⟨rfl, rfl⟩
  go_wp2_with fail
  go_ret
  exact ⟨rfl, rfl⟩
theorem kys_ent {KL L : List Nat} {k : Nat} (h : k ∉ kys KL L) : ∀ n, (k, n) ∉ ent KL L := fun n hn => by
  obtain ⟨h1, h2⟩ := ent_mem.1 hn
  exact h (List.mem_map.2 ⟨n, h1, h2⟩)
theorem ghas_any (H : Gh w b c q r cq cr N F g kc m nm D most L fr KL) (k : Nat) (hk : k < 4294967296) :
    Calls Try.prog 47 #[.pointer (some ⟨b, 0, none⟩), .int .u32 (k : Int)] w fun e w' => e = .returned (.bool (decide (k ∈ kys KL L))) ∧ w = w' := by
  have HZ := Lib.hid (gzero_any H)
  obtain ⟨c0, c1, c2, c3, -⟩ := H.cells
  have hlk : ∃ v : Int, (Instr.lookup 153 (.map (some m)) (.int .u32 (k : Int)) true).run Try.prog w = .ok (.tuple #[.int .u32 v, .bool (decide (k ∈ kys KL L))]) w := by
    by_cases h : k ∈ kys KL L
    · obtain ⟨n, L1, L2, -, -, he⟩ := H.node h
      exact ⟨_, by rw [look_in H.mp H.mf hk he, decide_eq_true h]⟩
    · obtain ⟨v, hv⟩ := look_no H.mp H.mf hk (kys_ent h)
      exact ⟨v, by rw [hv, decide_eq_false h]⟩
  obtain ⟨v, hlk⟩ := hlk
  generalize decide (k ∈ kys KL L) = d at *
  obtain ⟨z, hz⟩ : ∃ z : Int, (k : Int) = z := ⟨_, rfl⟩
  rw [hz] at hlk ⊢
  clear H hz hk
  go_enter Try.func47, Try.ntmps47
  go_wp2_with fail
  refine HZ.out.mono ?_
  rintro e w1 ⟨rfl, rfl⟩
  go_wp2_with fail
  go_ret
  exact ⟨rfl, rfl⟩
/-- a node goes to the front of a list -/
theorem gmove_raw {w : World} {b c q r cq cr N : Nat} {F : Lnk.Fd} {Ls : List (List Nat)} {v0 v2 v3 : Value} (LO : Lo w c q r cq cr N F Ls) (ob : w.heap[b]? = some (.cells #[v0, .pointer (some ⟨c, 0, none⟩), v2, v3] 155 (0, 0))) (db : b ≠ c ∧ b ≠ q ∧ b ≠ r) {h j x : Nat} {l1 l2 l : List Nat} (hh : Ls[h]? = some (l1 ++ x :: l2)) (hj : (Ls.set h (l1 ++ l2))[j]? = some l) :
    Calls Try.prog 116 #[.pointer (some ⟨b, 0, none⟩), .int .u32 (x : Int), .int .i64 (j : Int)] w fun e w' => e = .returned (.int .i64 0) ∧ (∃ F', Lo w' c q r cq cr N F' ((Ls.set h (l1 ++ l2)).set j (x :: l))) ∧ Kp (Ob c q r) w w' := by
  have hring := LO.ring
  have hxN : x < N := (hring.mem h _ x hh (by simp)).1
  have HR := Lib.hid (Remove_ok LO hh)
  have c1 : w.cell? ⟨b, 1, none⟩ = some (.pointer (some ⟨c, 0, none⟩)) := by simp [World.cell?, ob]
  have HB := Lib.hid ob
  have HD := Lib.hid db
  have HX := Lib.hid hxN
  have HJ := Lib.hid hj
  clear LO ob db hring hh hj hxN
  obtain ⟨z, hz⟩ : ∃ z : Int, (x : Int) = z := ⟨_, rfl⟩
  have HZ := Lib.hid hz
  obtain ⟨y, hy⟩ : ∃ y : Int, (j : Int) = y := ⟨_, rfl⟩
  have HY := Lib.hid hy
  rw [hz] at HR
  rw [hz, hy]
  clear hz hy
  go_enter Try.func116, Try.ntmps116
  go_wp2_with fail
  refine HR.out.mono ?_
  rintro e w1 ⟨rfl, lo1, kp1⟩
  have HF := Lib.hid (Front_ok lo1 HJ.out HX.out ((lo1.ring.free_iff HX.out).1 (by simp [unlinkF])))
  have KP1 := Lib.hid kp1
  have c1' : w1.cell? ⟨b, 1, none⟩ = some (.pointer (some ⟨c, 0, none⟩)) := by
    have hb := (kp1.block b (Array.getElem?_eq_some_iff.1 HB.out).1 (fun h => by rcases h with h | h | h; exact HD.out.1 h; exact HD.out.2.1 h; exact HD.out.2.2 h)).trans HB.out
    simp [World.cell?, hb]
  rw [HZ.out, HY.out] at HF
  clear c1 lo1 kp1
  go_wp2_with fail
  refine HF.out.mono ?_
  rintro e w2 ⟨rfl, lo2, kp2⟩
  have LO2 := Lib.hid lo2
  have KP2 := Lib.hid (KP1.out.trans kp2)
  clear lo2 kp2
  go_wp2_with fail
  go_ret
  exact ⟨rfl, ⟨_, LO2.out⟩, KP2.out⟩
end
end Go.Proofs.Ytggimkfepcgaoaa.Gho
