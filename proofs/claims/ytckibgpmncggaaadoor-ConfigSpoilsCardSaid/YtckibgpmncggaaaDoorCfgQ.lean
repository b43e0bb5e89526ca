/-
  Configurations (layer 23): spoilt texts.
-/
import Derived.Test.YtckibgpmncggaaaDoorCfgO
import Derived.Lib.ConvBytes
import Derived.Laws.IdiomStrings
import Derived.Laws.Closers25b
set_option linter.unusedVariables false
set_option linter.unusedSimpArgs false
namespace Go.Proofs.YtckibgpmncggaaaDoor.Cfg
open Go Go.RowKit Kit
theorem T_len (a b c d : Nat) (y : Bool) (ha : a < 18446744073709551616) (hb : b < 18446744073709551616) (hc : c < 18446744073709551616) (hd : d < 18446744073709551616) : (T a b c d y).length ≤ 200 ∧ 1 ≤ (T a b c d y).length := by
  have h1 := dig_len a ha
  have h2 := dig_len b hb
  have h3 := dig_len c hc
  have h4 := dig_len d hd
  unfold T
  simp only [List.length_append]
  simp only [Cfg.w0, Cfg.w1, Cfg.w2, Cfg.w3, Cfg.w4, List.length_cons, List.length_nil]
  cases y <;> simp [yes, no] <;> omega
theorem bw_frozen (w : World) (e : TypeId) (s : ByteArray) (j : Nat) (hj : j < s.size) : (Lib.bytesWorld w e s).frozen? ⟨w.heap.size, j, none⟩ = false := by
  have hsz : s.size ≤ (Lib.bytesCells w e s).size := by simp [Lib.bytesCells]
  simp only [World.frozen?, Lib.bytesWorld_at_new]
  have : ¬ (Lib.bytesCells w e s).size ≤ j := by omega
  simp [this]
theorem xor_byte (u : UInt8) (q : Int) : ∃ b : UInt8, bits .xor .u8 (u.toNat : Int) q = (b.toNat : Int) := by
  obtain ⟨h1, h2⟩ := bits_within .xor .u8 (u.toNat : Int) q
  generalize bits .xor .u8 (u.toNat : Int) q = v at *
  have h3 : 0 ≤ v := h1
  have h4 : v ≤ 255 := h2
  refine ⟨UInt8.ofNat v.toNat, ?_⟩
  rw [UInt8.toNat_ofNat']
  omega
theorem ext_var (l : List UInt8) {i j m : Nat} (hj : j ≤ l.length) (hm : j - i = m) : ∃ z, (str l).extract i j = z ∧ z.size = m := by
  refine ⟨_, rfl, ?_⟩
  rw [ByteArray.size_extract, str_size]
  omega
theorem set_len (s : List UInt8) (x : Nat) : ∀ b, (s.set x b).length = s.length := fun b => by simp
theorem bw_below (w : World) (e : TypeId) (s : ByteArray) : Below w.heap.size w (Lib.bytesWorld w e s) :=
  ⟨rfl, rfl, rfl, by rw [Lib.bytesWorld_size]; omega, fun k hk => Lib.bytesWorld_at_old w e s k (by omega)⟩
theorem cell_kept {w w' : World} (h : Below w.heap.size w w') (a : Addr) (ha : a.block < w.heap.size) : w'.cell? a = w.cell? a := by
  simp only [World.cell?, h.block _ ha]
theorem five_list (a b c d e : ByteArray) (ha : a.size ≤ 1000) (hb : b.size ≤ 1000) (hc : c.size ≤ 1000) (hd : d.size ≤ 1000) (he : e.size ≤ 1000) :
    ∃ L : Nat → List UInt8, (∀ j, j < 5 → (#[Value.string a, .string b, .string c, .string d, .string e] : Array Value)[j]? = some (.string (str (L j)))) ∧ ∀ j, (L j).length ≤ 1000 := by
  refine ⟨fun j => match j with | 0 => a.data.toList | 1 => b.data.toList | 2 => c.data.toList | 3 => d.data.toList | _ => e.data.toList, ?_, ?_⟩
  · intro j hj
    match j, hj with
    | 0, _ => simp [str_of]
    | 1, _ => simp [str_of]
    | 2, _ => simp [str_of]
    | 3, _ => simp [str_of]
    | 4, _ => simp [str_of]
  · intro j
    match j with
    | 0 => exact ha
    | 1 => exact hb
    | 2 => exact hc
    | 3 => exact hd
    | _ + 4 => exact he
theorem five_at (W : World) {vs : Array Value} {L : Nat → List UInt8} (h : ∀ j, j < 5 → vs[j]? = some (.string (str (L j)))) (W' : World) (hb : Below (W.alloc (.cells vs 9)).drew.heap.size (W.alloc (.cells vs 9)).drew W') (j : Nat) (hj : j < 5) : W'.cell? ⟨W.heap.size, j, none⟩ = some (.string (str (L j))) := by
  rw [(BoxA.below (show BoxA (W.alloc (.cells vs 9)).drew W.heap.size 9 vs from BoxA.new W _ vs) hb).cell j]
  exact h j hj
theorem addj (b j : Nat) : ({ block := b, off := 0, spot := none } : Addr).add j = ⟨b, j, none⟩ := by
  unfold Addr.add
  split
  · next h => rw [h]
  · simp
theorem back_conv (w : World) (s : List UInt8) (x : Nat) (b : UInt8) (hx : x < (str s).size) (cap : Nat) (W : World) (hW : Below ((Lib.bytesWorld w 5 (str s)).setCell ⟨w.heap.size, x, none⟩ (.int .u8 (b.toNat : Int))).heap.size ((Lib.bytesWorld w 5 (str s)).setCell ⟨w.heap.size, x, none⟩ (.int .u8 (b.toNat : Int))) W) :
    (convert 43 9 (.slice (some ⟨w.heap.size, 0, none⟩) s.length cap)).run Tryd.prog W = .ok (.string (str (s.set x b))) W := by
  have h := run_convert_bytes_back (P := Tryd.prog) W 43 9 5 ⟨w.heap.size, 0, none⟩ cap (s.set x b) Tryd.underlying43 Tryd.underlying5 Tryd.underlying9 (fun j hj => by
    have hj' : j < s.length := by simpa using hj
    have hs : j < (str s).size := by rw [str_size]; exact hj'
    have h1 := Lib.bytesWorld_cell w 5 (str s) j hs
    have h2 := Lib.bytesWorld_cell w 5 (str s) x hx
    rw [str_data] at h1
    have hz : ((Lib.bytesWorld w 5 (str s)).setCell ⟨w.heap.size, x, none⟩ (.int .u8 (b.toNat : Int))).heap.size = w.heap.size + 1 := by
      simp [Lib.bytesWorld_size]
    rw [addj, cell_kept hW _ (by rw [hz]; show w.heap.size < w.heap.size + 1; omega)]
    by_cases hjx : j = x
    · subst hjx
      rw [World.cell?_setCell_same _ _ _ h2]
      simp
    · rw [World.cell?_setCell_other _ _ _ _ (by simp <;> omega), h1]
      simp [List.getElem_set, List.getD, hj', Ne.symm hjx, List.getElem?_eq_getElem hj'])
  rw [List.length_set] at h
  exact h
set_option maxRecDepth 100000 in
set_option maxHeartbeats 4000000 in
theorem spoils_law (a b c d : Int) (y : Bool) (p q : Int) (d0 : 0 ≤ d) (d1 : d < 18446744073709551616) (p0 : 0 ≤ p) (p1 : p < 256) (q0 : 0 ≤ q) (q1 : q < 256) (w : World) (hv : Vars w) :
    Calls Tryd.prog 6 #[conf a b c d y, .int .u8 p, .int .u8 q] w fun e w' => e = .returned (.bool true) ∧ Below w.heap.size w w' := by
  have HRC := Lib.hid (fun w => rcheck_any a b c d y w)
  have HK := Lib.hid (fun w1 (h : Below w.heap.size w w1) => known_any w1 (hv.below h))
  by_cases hc : ck a b c = 0
  · obtain ⟨e1, e2, e3, e4, e5, e6⟩ := ck_ok hc
    have HT := Lib.hid (fun w1 => rtext_any a.toNat b.toNat c.toNat d.toNat y (by omega) (by omega) (by omega) (by omega) w1)
    rw [Int.toNat_of_nonneg (by omega), Int.toNat_of_nonneg (by omega), Int.toNat_of_nonneg (by omega), Int.toNat_of_nonneg d0] at HT
    obtain ⟨hl1, hl2⟩ := T_len a.toNat b.toNat c.toNat d.toNat y (by omega) (by omega) (by omega) (by omega)
    generalize T a.toNat b.toNat c.toNat d.toNat y = s at *
    rw [hc] at HRC
    have hss := str_size s
    obtain ⟨n, hn⟩ : ∃ n, s.length = n := ⟨_, rfl⟩
    rw [hn] at hl1 hl2 hss
    obtain ⟨p, rfl⟩ : ∃ x : Nat, p = x := ⟨p.toNat, by omega⟩
    obtain ⟨x, hx⟩ : ∃ x, p % n = x := ⟨_, rfl⟩
    have hxl : x < n := by rw [← hx]; exact Nat.mod_lt _ (by omega)
    have t1 : (p : Int).tmod n = (x : Int) := by rw [Int.tmod_eq_emod_of_nonneg (by omega), ← hx, Int.natCast_emod]
    have v1 := IntWalk.i64_in (p : Int) (by omega)
    have v2 := IntWalk.i64_in (x : Int) (by omega)
    have n0 : ¬ (n : Int) = 0 := by omega
    have n1 : ((n : Int) == 0) = false := by rw [beq_eq_false_iff_ne]; omega
    have n2 : (0 : Int) < (n : Int) := by omega
    have HV := Lib.hid hv
    clear hc hv hx
    go_enter Tryd.func6, Tryd.ntmps6
    go_wp2_with fail
    refine (HRC.out _).mono ?_
    rintro e w1 ⟨rfl, b1⟩
    obtain ⟨k0, k1, k2, k3, k4, -⟩ := (BoxA.below (BoxA.new w 32 (cells a b c d y)) b1).five
    have BW := Lib.hid (tr (show Below w.heap.size w (w.alloc (.cells (cells a b c d y) 32)) from by go_grown) b1)
    clear b1
    go_wp2_with fail
    refine (HT.out _).mono ?_
    rintro e w2 ⟨rfl, b2⟩
    have BW2 := Lib.hid (tr BW.out b2)
    clear b2 k0 k1 k2 k3 k4
    have hcv := fun W : World => Lib.run_convert_string_bytes (P := Tryd.prog) W 9 43 5 (str s) Tryd.underlying9 Tryd.underlying43 Tryd.underlying5
    have hxs : x < (str s).size := by omega
    have hcell := Lib.bytesWorld_cell w2 5 (str s) x hxs
    have hfr := bw_frozen w2 5 (str s) x hxs
    rw [str_data] at hcell
    have hld := set_len s x
    have hcb := fun (b : UInt8) cap => back_conv w2 s x b hxs cap
    generalize s.getD x 0 = u at *
    obtain ⟨b, hb⟩ := xor_byte u q
    have hB0 : Below w.heap.size w ((Lib.bytesWorld w2 5 (str s)).setCell ⟨w2.heap.size, x, none⟩ (.int .u8 (b.toNat : Int))) := set_below BW2.out.size (tr BW2.out (bw_below w2 _ _)) _
    have hcb := hcb b (grownCap w2 n 0 5)
    rw [hn] at hcb
    obtain ⟨t1, ht1⟩ : ∃ z, str (s.set x b) = z := ⟨_, rfl⟩
    rw [ht1] at hcb
    go_wp2_with fail
    generalize grownCap w2 n 0 5 = cap at *
    generalize (Lib.bytesWorld w2 5 (str s)).setCell ⟨w2.heap.size, x, none⟩ (.int .u8 (b.toNat : Int)) = W0 at *
    clear hcell hfr hcv
    have HS := Lib.hid (fun W (h : Below W0.heap.size W0 W) => (⟨hcb W h, h⟩ : _ ∧ _))
    clear hcb
    obtain ⟨x2, hx2⟩ : ∃ z, x + 1 = z := ⟨_, rfl⟩
    have v3 : IntKind.i64.wrap ((x : Int) + 1) = (x2 : Int) := by rw [IntWalk.i64_in _ (by omega)]; omega
    have b0 : (0 : Int) ≤ (x : Int) := by omega
    have b1 : (x : Int) ≤ (n : Int) := by omega
    have b2 : (0 : Int) ≤ (x2 : Int) := by omega
    have b3 : (x2 : Int) ≤ (n : Int) := by omega
    obtain ⟨e1, j1, z1⟩ := ext_var s (i := 0) (j := x) (m := x) (by omega) (by omega)
    obtain ⟨e2, j2, z2⟩ := ext_var s (i := 0) (j := x2) (m := x2) (by omega) (by omega)
    obtain ⟨e3, j3, z3⟩ := ext_var s (i := x) (j := n) (m := n - x) (by omega) (by omega)
    obtain ⟨e4, j4, z4⟩ := ext_var s (i := x2) (j := n) (m := n - x2) (by omega) (by omega)
    have g1 : ¬ 9223372036854775807 < x + (n - x2) := by omega
    have g2 : ¬ 9223372036854775807 < x2 + (n - x) := by omega
    have g3 : ¬ 9223372036854775807 < n + x := by omega
    go_region_held3 (fun w' => (convert 43 9 (.slice (some ⟨w2.heap.size, 0, none⟩) n cap)).run Tryd.prog w' = .ok (.string t1) w' ∧ Below W0.heap.size W0 w')
      (first
        | (exact HS.out _ (Below.drew (Below.refl _ _)))
        | assumption
        | (exact HS.out _ (Below.drew ((Below.refl _ _).alloc (Nat.le_refl _) _)))
        | fail)
      (first | fail)
    have ht1 : t1.size = n := by rw [← ht1, str_size, List.length_set, hn]
    obtain ⟨L, hL0, hL1⟩ := five_list t1 (e1 ++ e4) (e2 ++ e3) e1 (str s ++ e1) (by omega) (by rw [ByteArray.size_append]; omega) (by rw [ByteArray.size_append]; omega) (by omega) (by rw [ByteArray.size_append]; omega)
    have hA := five_at W0 hL0
    have hB1 := tr hB0 (Below.drew ((Below.refl W0.heap.size W0).alloc (Nat.le_refl _) (.cells #[Value.string t1, Value.string (e1 ++ e4), Value.string (e2 ++ e3), Value.string e1, Value.string (str s ++ e1)] 9)))
    generalize (W0.alloc (.cells #[Value.string t1, Value.string (e1 ++ e4), Value.string (e2 ++ e3), Value.string e1, Value.string (str s ++ e1)] 9)).drew = V at *
    generalize W0.heap.size = k at *
    have HB1 := Lib.hid hB1
    have HA := Lib.hid hA
    have HL := Lib.hid hL1
    clear hB0 hB1 hA hL0 hL1 ht1 HS j1 j2 j3 j4 z1 z2 z3 z4
    clear g1 g2 g3 b0 b1 b2 b3 v3 v1 v2 n0 n1 n2
    clear hld
    have l5 : (5 : Nat) < 9223372036854775807 := by omega
    go_wp2_with fail
    go_loopw [65] (fun i wr => ∃ j : Nat, j ≤ 5 ∧ i = .int .i64 j ∧ Below V.heap.size V wr) (fun i _ => 5 - (intOf i).toNat)
    case atStart => exact ⟨0, by omega, rfl, Below.refl _ _⟩
    case round =>
      obtain ⟨j, hj, rfl, bW⟩ := hrel
      by_cases hlt : j < 5
      · have hlt' : (j : Int) < 5 := by omega
        have j0 : (0 : Int) ≤ (j : Int) := by omega
        have hcl := HA.out wr bW j hlt
        have HR := Lib.hid (fun w => rparse_any (L j) (HL.out j) w)
        have HP := Lib.hid (fun (a b c d : Int) (y : Bool) (r : Int) (hp : pres (L j) = .tuple #[conf a b c d y, .int .i64 r]) w1 (h : Below w.heap.size w w1) => parses_true (S := str (L j)) (a := a) (b := b) (c := c) (d := d) (y := y) (r := r) ⟨L j, rfl, HL.out j, hp⟩ w1 (HV.out.below h))
        generalize L j = z at hcl HR HP
        have hW := tr HB1.out bW
        go_wp2_with fail
        refine (HR.out _).mono ?_
        rintro e w3 ⟨V3, bb, rfl, hRP, b3⟩
        have hp := pres_RP hRP
        obtain ⟨a', b', c', d', y', rfl⟩ := hRP.conf
        have B1 := Lib.hid (tr hW b3)
        have B1' := Lib.hid (tr bW b3)
        cases bb with
        | true =>
          have HQ := Lib.hid (HP.out a' b' c' d' y' 0 hp)
          clear hRP hp HP b3 hcl
          go_wp2_with fail
          refine (HQ.out _ (tr B1.out (by go_grown))).mono ?_
          rintro e w4 ⟨rfl, b4⟩
          have B2 := Lib.hid (tr (tr B1'.out (by go_grown)) b4)
          clear b4
          go_wp2_with fail
          go_roundw
          case rel => exact ⟨j + 1, by omega, by go_num, B2.out⟩
          case measure => simp [intOf]; omega
        | false =>
          have h0 : conf a' b' c' d' y' = conf 0 0 0 0 false := by
            rcases hRP with ⟨_, _, _, _, _, _, _, _, _, h⟩ | ⟨h, _, _⟩
            · cases h
            · exact h
          rw [h0] at hp
          rw [h0]
          have HQ := Lib.hid (HP.out 0 0 0 0 false 6 hp)
          clear hRP hp HP b3 hcl
          go_wp2_with fail
          refine (HQ.out _ (tr B1.out (by go_grown))).mono ?_
          rintro e w4 ⟨rfl, b4⟩
          have B2 := Lib.hid (tr (tr B1'.out (by go_grown)) b4)
          clear b4
          go_wp2_with fail
          go_roundw
          case rel => exact ⟨j + 1, by omega, by go_num, B2.out⟩
          case measure => simp [intOf]; omega
      · have hlt' : ¬ (j : Int) < 5 := by omega
        go_wp2_with fail
        refine (HK.out _ (tr HB1.out bW)).mono ?_
        rintro e w3 ⟨rfl, b3⟩
        go_wp2_with fail
        go_ret
        exact ⟨rfl, tr (tr HB1.out bW) b3⟩
  · have hr : (ck a b c == 0) = false := by rw [beq_eq_false_iff_ne]; exact hc
    have hr2 : (ck a b c != 0) = true := by rw [bne, hr]; rfl
    generalize ck a b c = r at *
    clear hc hv
    go_enter Tryd.func6, Tryd.ntmps6
    go_wp2_with fail
    refine (HRC.out _).mono ?_
    rintro e w4 ⟨rfl, o1⟩
    have hX := tr (show Below w.heap.size w (w.alloc (.cells (cells a b c d y) 32)) from by go_grown) o1
    go_wp2_with fail
    refine (HK.out _ hX).mono ?_
    rintro e w5 ⟨rfl, o2⟩
    go_wp2_with fail
    go_ret
    exact ⟨rfl, tr hX o2⟩
end Go.Proofs.YtckibgpmncggaaaDoor.Cfg
