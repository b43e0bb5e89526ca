/-
  EntryTexts (layer 4): the text of an entry.
-/
import Derived.Test.YtlpepmhpnmnpkaaDoorEntS
import Derived.Test.YtlpepmhpnmnpkaaDoorNumQ
set_option linter.unusedVariables false
set_option linter.unusedSimpArgs false
namespace Go.Proofs.YtlpepmhpnmnpkaaDoor.Ent
open Go Go.RowKit Kit
def nums (s : ByteArray) : List Int := s.data.toList.map fun b => (b.toNat : Int)
theorem nums_byte (s : ByteArray) : ∀ n ∈ nums s, 0 ≤ n ∧ n < 256 := by
  intro n hn
  obtain ⟨b, _, rfl⟩ := List.mem_map.1 hn
  have := b.toNat_lt
  omega
theorem nums_length (s : ByteArray) : (nums s).length = s.size := by
  unfold nums; rw [List.length_map, Array.length_toList]; rfl
theorem strCells_nums (s : ByteArray) : Lib.strCells s = (nums s).map (Value.int .u8) := by
  simp [Lib.strCells, nums]
theorem byteCells_nums (u : Nat) : Lib.byteCells (Lib.decDigits u) = (nums (Num.dec u)).map (Value.int .u8) := by
  simp [Lib.byteCells, nums, Num.dec]
theorem dec_size (u : Nat) (hu : u < 18446744073709551616) : (Num.dec u).size ≤ 20 := by
  have h1 : (Num.dec u).size = (Lib.decDigits u).length := by simp [Num.dec, ByteArray.size]
  rw [h1, Lib.decDigits_length]
  by_cases h0 : u = 0
  · subst h0; rw [Lib.nDigits_small (by decide)]; decide
  · have := Lib.numDigits_eq u (by omega) hu; split at this <;> omega
theorem appU (B : Nat) (u : Nat) (hu : u < 18446744073709551616) (w : World) (hB : B ≤ w.heap.size) (htab : Num.Tabs w) :
    Calls Tryd.prog 46 #[.slice none 0 0, .int .u64 (u : Int), .int .i64 10] w fun e w' => ∃ v', e = .returned v' ∧ w'.ownsRow B 5 1 v' (nums (Num.dec u)).length ((nums (Num.dec u)).map (Value.int .u8)) ∧ Below B w w' := by
  have HA := Lib.hid (Tryd.internal_strconv_AppendUint_10 B 0 u hu (.slice none 0 0) [] w (World.ownsRow_nil _ _ _ _) hB (by decide) htab)
  go_enter Tryd.func46, Tryd.ntmps46
  go_wp2_with fail
  refine HA.out.mono ?_
  rintro e w1 ⟨v', rfl, ho, hb, -⟩
  go_wp2_with fail
  go_ret
  refine ⟨v', rfl, ?_, hb⟩
  rw [byteCells_nums, List.nil_append, Nat.zero_add] at ho
  have := ho.1
  rw [Nat.mul_one, List.length_map] at this
  rw [← this] at ho
  exact ho
theorem own_below {w w' : World} {B : Nat} {e : TypeId} {v : Value} {n : Nat} {xs : List Value} (h : w.ownsRow B e 1 v n xs) (hb : Below w.heap.size w w') : w'.ownsRow B e 1 v n xs := by
  refine ⟨h.1, ?_⟩
  rcases h.2 with h | ⟨g, cap, cur, hv, hg, hh, rest⟩
  · exact .inl h
  · exact .inr ⟨g, cap, cur, hv, hg, (hb.block g (Array.getElem?_eq_some_iff.1 hh).1).trans hh, rest⟩
def rowT (k : ByteArray) (zs : List Int) (d b : Int) : List Int := nums (Num.dec b.toNat) ++ [32] ++ nums (Num.txt d) ++ [32] ++ hexT (nums k) ++ [32] ++ hexT zs
set_option maxRecDepth 100000 in
theorem etext_ok (k : ByteArray) (p : Option Addr) (l c : Nat) (zs : List Int) (d b : Int) (d0 : 0 ≤ d) (d1 : d ≤ 18446744073709551615) (b0 : 0 ≤ b) (b1 : b ≤ 18446744073709551615) (w : World) (hbs : Ev.BytesOf w p l zs) (htab : Num.Tabs w) (hc : chk k l b = 0) (hk : k.size ≤ 250) (hl : l ≤ 65536) :
    Calls Tryd.prog 25 #[ent k p l c d b] w fun e w' => e = .returned (.tuple #[.string (strOfNums (rowT k zs d b)), .int .i64 0]) ∧ Below w.heap.size w w' := by
  obtain ⟨i0, hi, hz0, hz1, hz2⟩ := info_parts' info_u8'
  have HC := Lib.hid (echeck_any k p l c d b)
  rw [hc] at HC
  have s1 : (nums (Num.dec b.toNat)).length ≤ 20 := by rw [nums_length]; exact dec_size _ (by omega)
  have s2 : (Num.txt d).size ≤ 20 := by
    unfold Num.txt
    split
    · decide
    · exact dec_size _ (by omega)
  obtain ⟨V, hV⟩ : ∃ V, w.alloc (.cells #[.string k, .slice p l c, .int .u64 d, .int .u64 b] 33) = V := ⟨_, rfl⟩
  have hwV : Below w.heap.size w V := by rw [← hV]; go_grown
  have hq : w.heap.size < V.heap.size := by rw [← hV]; simp
  have hcell : ∀ w1, Below V.heap.size V w1 → w1.cell? ⟨w.heap.size, 0, none⟩ = some (.string k) ∧ w1.cell? ⟨w.heap.size, 1, none⟩ = some (.slice p l c) ∧ w1.cell? ⟨w.heap.size, 2, none⟩ = some (.int .u64 d) ∧ w1.cell? ⟨w.heap.size, 3, none⟩ = some (.int .u64 b) := by
    intro w1 h
    have hh : w1.heap[w.heap.size]? = some (.cells #[.string k, .slice p l c, .int .u64 d, .int .u64 b] 33) := by rw [h.block _ hq, ← hV]; exact (MapKept.heap_alloc w _).1
    refine ⟨?_, ?_, ?_, ?_⟩ <;> simp [World.cell?, hh]
  have htV := htab.below hwV
  have hbV := hbs.below hwV
  have HA := Lib.hid (fun (w1 : World) (h : Below V.heap.size V w1) => appU V.heap.size b.toNat (by omega) w1 h.size (htV.below h))
  rw [show ((b.toNat : Nat) : Int) = b from by omega] at HA
  have HT := Lib.hid (fun (w1 : World) (h : Below V.heap.size V w1) => Num.text_any d d0 d1 w1 (htV.below h))
  have HB := Lib.hid hbV
  have HCL := Lib.hid hcell
  have HWV := Lib.hid hwV
  have HV := Lib.hid hV
  have x7 : (hexT (k.data.toList.map fun b => (b.toNat : Int))).length ≤ 501 := by
    have h1 := hexT_length (nums k)
    rw [nums_length] at h1
    exact Nat.le_trans h1 (by omega)
  have s7 : (Lib.strCells (Num.txt d)).length ≤ 20 := by rw [Lib.strCells_length]; exact s2
  unfold rowT
  clear hc htab hbs htV hbV hcell hwV hq hV
  have HM1 := Lib.hid (nums_byte (Num.dec b.toNat))
  generalize nums (Num.dec b.toNat) = m1 at *
  generalize Num.txt d = t at *
  go_enter Tryd.func25, Tryd.ntmps25
  go_wp2_with fail
  rw [HV.out]
  refine (HC.out _).mono ?_
  rintro e w1 ⟨rfl, f1⟩
  obtain ⟨-, -, -, k1⟩ := HCL.out _ f1
  go_wp2_with fail
  refine (HA.out _ f1).mono ?_
  rintro e w2 ⟨v2, rfl, o2, e2⟩
  have f2 := f1.trans e2
  clear k1 f1 e2
  go_wp2_with (at_builtin; refine wpList_app1 rfl (.tmp 14) (.tmp 15) 31 rfl V.heap.size 5 i0 (.int .u8 0) 1 Tryd.underlying31 hi hz0 hz1 hz2 rfl _ _ _ _ rfl o2 rfl rfl (by omega) (by omega) f2.size ?_)
  intro v3 w3 o3 e3 _
  have f3 := f2.trans e3
  clear f2 e3 o2
  obtain ⟨-, -, k1, -⟩ := HCL.out _ f3
  go_wp2_with fail
  refine (HT.out _ f3).mono ?_
  rintro e w4 ⟨rfl, e4⟩
  have o4 := own_below o3 e4
  have f4 := tr f3 e4
  clear o3 f3 e4 k1
  go_wp2_with (at_builtin; refine Lib.wpList_append_own_string _ rfl (.tmp 17) (.tmp 20) 31 9 rfl V.heap.size 5 i0 Tryd.underlying31 Tryd.underlying9 hi hz0 hz1 hz2 _ _ _ rfl o4 t rfl (by unfold maxLen; omega) (by omega) f4.size ?_)
  intro v5 w5 o5 hg5 _
  have f5 := f4.trans ((Below.refl _ _).grown hg5 f4.size (fun k hk => (o4.lt k hk).1))
  clear hg5 o4 f4
  go_wp2_with (at_builtin; refine wpList_app1 rfl (.tmp 22) (.tmp 23) 31 rfl V.heap.size 5 i0 (.int .u8 0) 1 Tryd.underlying31 hi hz0 hz1 hz2 rfl _ _ _ _ rfl o5 rfl rfl (by omega) (by omega) f5.size ?_)
  intro v6 w6 o6 e6 _
  have f6 := f5.trans e6
  clear f5 e6 o5
  obtain ⟨k1, -, -, -⟩ := HCL.out _ f6
  go_wp2_with fail
  refine (hexS_any v6 _ V.heap.size _ k (by omega) (by omega) w6 o6 f6.size).mono ?_
  rintro e w7 ⟨v7, rfl, ⟨m7, hm7, o7⟩, e7⟩
  have f7 := f6.trans e7
  have l7 : m7.length ≤ 600 := by
    rw [hm7]
    simp only [List.length_append, List.length_map, List.length_cons, List.length_nil]
    omega
  clear f6 e7 o6 k1
  go_wp2_with (at_builtin; refine wpList_app1 rfl (.tmp 29) (.tmp 30) 31 rfl V.heap.size 5 i0 (.int .u8 0) 1 Tryd.underlying31 hi hz0 hz1 hz2 rfl _ _ _ _ rfl o7 rfl rfl (by omega) (by omega) f7.size ?_)
  intro v8 w8 o8 e8 _
  have f8 := f7.trans e8
  clear f7 e8 o7
  obtain ⟨-, k1, -, -⟩ := HCL.out _ f8
  go_wp2_with fail
  refine (hexB_any v8 _ _ V p l c zs HB.out hl (by omega) w8 f8 o8).mono ?_
  rintro e w9 ⟨v9, rfl, ⟨m9, hm9, o9⟩, e9⟩
  have f9 := f8.trans e9
  clear f8 e9 o8 k1
  have hm : m9 = (m1 ++ [32] ++ nums t ++ [32] ++ hexT (nums k) ++ [32] ++ hexT zs).map (Value.int .u8) := by
    rw [hm9]
    simp [nums, strCells_nums]
  have hby : ∀ n ∈ (m1 ++ [32] ++ nums t ++ [32] ++ hexT (nums k) ++ [32] ++ hexT zs), 0 ≤ n ∧ n < 256 := by
    intro n hn
    simp only [List.mem_append, List.mem_singleton] at hn
    rcases hn with (((((hn | hn) | hn) | hn) | hn) | hn) | hn
    · exact HM1.out n hn
    · omega
    · exact nums_byte t n hn
    · omega
    · exact hexT_bytes _ (nums_byte k) n hn
    · omega
    · exact hexT_bytes _ HB.out.2.1 n hn
  have hlen : (m1 ++ [32] ++ nums t ++ [32] ++ hexT (nums k) ++ [32] ++ hexT zs).length ≤ maxLen := by
    have h1 := hexT_length zs
    rw [HB.out.1] at h1
    have h2 : (nums t).length ≤ 20 := by rw [nums_length]; exact s2
    have h3 : (hexT (nums k)).length ≤ 501 := x7
    simp only [List.length_append, List.length_cons, List.length_nil]
    unfold maxLen
    omega
  rw [hm] at o9
  clear hm9 hm7 hm
  generalize hM : m1 ++ [32] ++ nums t ++ [32] ++ hexT (nums k) ++ [32] ++ hexT zs = M at hby hlen o9
  have HMM := Lib.hid hM
  clear hM
  rw [List.length_map] at o9
  have hcv := own_str hby hlen o9
  clear hby hlen o9
  go_wp2_with fail
  go_ret2
  exact ⟨by rw [HMM.out]; rfl, HWV.out.trans (f9.mono HWV.out.size)⟩
end Go.Proofs.YtlpepmhpnmnpkaaDoor.Ent
