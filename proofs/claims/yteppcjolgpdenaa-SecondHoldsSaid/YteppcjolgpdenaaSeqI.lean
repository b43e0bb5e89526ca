/-
  Second chance (layer 31): Ring.
-/
import Derived.Test.YteppcjolgpdenaaSeqH
set_option linter.unusedVariables false
set_option linter.unusedSimpArgs false
namespace Go.Proofs.Yteppcjolgpdenaa.Seq
open Go Go.RowKit Kit Go.Maps
/-- blocks of another type stay -/
abbrev Others (e : TypeId) (w w' : World) : Prop := ∀ (g : Nat) (cs : Array Value) (e' : TypeId) (fr : Nat × Nat), e' ≠ e → w.heap[g]? = some (.cells cs e' fr) → w'.heap[g]? = some (.cells cs e' fr)
theorem others_own {w w' : World} {base n : Nat} {e e' : TypeId} {v : Value} {xs : List Value} (h : Others e w w') (hne : e' ≠ e) (hu : w.ownsRow base e' 1 v n xs) : w'.ownsRow base e' 1 v n xs := by
  obtain ⟨h0, ⟨hv, hn⟩ | ⟨g', cap, cur, hv, hb, hh, hr⟩⟩ := hu
  · exact ⟨h0, .inl ⟨hv, hn⟩⟩
  · exact ⟨h0, .inr ⟨g', cap, cur, hv, hb, h _ _ _ _ hne hh, hr⟩⟩
theorem own_type {w : World} {base g : Nat} {e : TypeId} {v : Value} {n : Nat} {xs : List Value} (h : w.ownsRow base e 1 v n xs) (hg : v.ownBlock = some g) : ∃ cs fr, w.heap[g]? = some (.cells cs e fr) := by
  obtain ⟨_, ⟨hv, hn⟩ | ⟨g', cap, cur, hv, hb, hh, hc, hm, hs, ht⟩⟩ := h
  · rw [hv] at hg; cases hg
  · rw [hv] at hg
    have : g' = g := by simpa [Value.ownBlock] using hg
    subst this
    exact ⟨_, _, hh⟩
theorem wpList_app2 {P : Program} {w : World} {ops : Array Oper} {rest : List Oper} {o : Oper} {a : Act} {Q : Exit → Act → World → Prop} (hgd : o.guard = none) (s x : Operand) (t : TypeId)
    (ho : o.op = .call { callee := .builtin .append, args := #[s, x], argTypes := #[t, t] })
    (base : Nat) (e : TypeId) (i : TypeInfo) (z : Value) (bytes : Nat) (ht : P.underlying t = some (.slice e)) (hi : P.info? e = some i) (hz : i.zero = some z)
    (hsize : i.size = 1) (hby : i.bytes = bytes) (hzs : z.cells.size = 1)
    (v : Value) (n : Nat) (xs : List Value) (y : Value) (hs : a.eval s = v) (hown : w.ownsRow base e 1 v n xs)
    (hx : a.eval x = .slice (some ⟨w.heap.size, 0, none⟩) 1 1) (h1 : y.oneCell' = true)
    (hn : n + 1 ≤ 1073741824) (hbytes : bytes ≤ 100000) (hbase : base ≤ w.heap.size)
    (h : ∀ v' w', w'.ownsRow base e 1 v' (n + 1) (xs ++ [y]) → Below base w w' → w.heap.size < w'.heap.size → Others e w w' → wpList P ops Q rest (a.put o.dst v') w') :
    wpList P ops Q (o :: rest) a (w.alloc (.cells #[y] e)) := by
  have hlt := hown.lt
  refine wpList_append_own _ hgd s x t ho base e i z 1 bytes ht hi hz hsize hby hzs (by decide) v n xs hs (hown.alloc _) ⟨w.heap.size, 0, none⟩ 1 1 [y] hx rfl ?_ ?_ ?_ ?_ ?_ ?_
  · intro j u hj
    match j, hj with
    | 0, hj => simp at hj; subst hj; simp [Addr.add]
  · intro u hu; simp at hu; subst hu; exact h1
  · unfold maxLen; omega
  · have : (n + 1) * bytes ≤ 1073741824 * 100000 := Nat.mul_le_mul hn hbytes
    omega
  · simp; omega
  · intro v' w' ho' hg _
    refine h v' w' ho' (((Below.refl base w).alloc hbase _).grown hg (by simp; omega) fun k hk => (hlt k hk).1) ?_ ?_
    · have := hg.size
      simp at this; omega
    · intro g cs e' fr hne hu
      have hgl : g < w.heap.size := (Array.getElem?_eq_some_iff.1 hu).1
      have e1 : (w.alloc (.cells #[y] e)).heap[g]? = w.heap[g]? := (Below.refl w.heap.size w).alloc (Nat.le_refl _) _ |>.block g hgl
      refine (hg.block g (by simp; omega) fun hs => ?_).trans (e1.trans hu)
      obtain ⟨c2, f2, q2⟩ := own_type hown hs.symm
      rw [hu] at q2
      injection q2 with q2
      injection q2 with q3 q4 q5
      exact hne q4
def keysOf (l : List Pl) : List Int := (l.filter (·.f)).map (·.k)
def marksOf (l : List Pl) : List Bool := (l.filter (·.f)).map (·.m)
theorem keys_len (l : List Pl) : (keysOf l).length ≤ l.length := by unfold keysOf; rw [List.length_map]; exact List.length_filter_le _ _
theorem marks_len (l : List Pl) : (marksOf l).length ≤ l.length := by unfold marksOf; rw [List.length_map]; exact List.length_filter_le _ _
theorem keys_succ {l : List Pl} {j : Nat} {p : Pl} (hp : l[j]? = some p) : keysOf (l.take (j + 1)) = keysOf (l.take j) ++ (if p.f then [p.k] else []) ∧ marksOf (l.take (j + 1)) = marksOf (l.take j) ++ (if p.f then [p.m] else []) := by
  have : l.take (j + 1) = l.take j ++ [p] := by rw [List.take_add_one, hp]; rfl
  unfold keysOf marksOf
  rw [this, List.filter_append, List.map_append, List.map_append]
  cases hf : p.f <;> simp [hf]
def Ks (w : World) (B : Nat) (v : Value) (l : List Int) : Prop := w.ownsRow B 40 1 v l.length (l.map (Value.int .u32))
def Ms (w : World) (B : Nat) (v : Value) (l : List Bool) : Prop := w.ownsRow B 4 1 v l.length (l.map Value.bool)
theorem info_u32 : (Try.prog.info? 40).map (fun i => (i.size, i.bytes, i.zero)) = some (1, 4, some (.int .u32 0)) := by kernel_rfl
theorem info_bool : (Try.prog.info? 4).map (fun i => (i.size, i.bytes, i.zero)) = some (1, 1, some (.bool false)) := by kernel_rfl
theorem info_parts {t : TypeId} {b : Nat} {z : Value} (h : (Try.prog.info? t).map (fun i => (i.size, i.bytes, i.zero)) = some (1, b, some z)) : ∃ i, Try.prog.info? t = some i ∧ i.zero = some z ∧ i.size = 1 ∧ i.bytes = b := by
  cases hi : Try.prog.info? t with
  | none => rw [hi] at h; simp at h
  | some i => rw [hi] at h; simp at h; exact ⟨i, rfl, h.2.2, h.1, h.2.1⟩
set_option maxRecDepth 100000 in
set_option maxHeartbeats 1000000 in
theorem ring_any {W : World} {c lo hi : Nat} {l : List Pl} {h : Nat} (H0 : Sc W c lo hi l h) :
    Calls Try.prog 10 #[.pointer (some ⟨c, 0, none⟩)] W fun e w' => ∃ v1 v2, e = .returned (.tuple #[v1, v2]) ∧ Ks w' W.heap.size v1 (keysOf l) ∧ Ms w' W.heap.size v2 (marksOf l) ∧ Below W.heap.size W w' := by
  have HZ := Lib.hid H0.zero
  obtain ⟨q, m, cap, N, D, H, M⟩ := H0.so
  obtain ⟨c0, c1, c2, cf⟩ := H.cs
  obtain ⟨i0, hi0, hz0, hz1, hz2⟩ := info_parts info_u32
  obtain ⟨i1, hi1, ho0, ho1, ho2⟩ := info_parts info_bool
  have h2 := H.l2
  have H3 := Lib.hid H.row
  obtain ⟨n, hn⟩ : ∃ n, l.length = n := ⟨_, rfl⟩
  rw [hn] at h2 c0
  have HN := Lib.hid hn
  clear hn H H0 M
  go_enter Try.func10, Try.ntmps10
  go_wp2_with fail
  refine HZ.out.mono ?_
  rintro e w1 ⟨rfl, rfl⟩
  go_wp2_with fail
  go_loopw [2, 3, 13] (fun k u i wr => ∃ j : Nat, j ≤ n ∧ i = .int .i64 j ∧ Ks wr W.heap.size k (keysOf (l.take j)) ∧ Ms wr W.heap.size u (marksOf (l.take j)) ∧ Below W.heap.size W wr) (fun _ _ i _ => n - (intOf i).toNat)
  case atStart => exact ⟨0, by omega, rfl, World.ownsRow_nil _ _ _ _, World.ownsRow_nil _ _ _ _, by go_grown⟩
  case round =>
    obtain ⟨j, hj, rfl, hK, hM, bW⟩ := hrel
    have HB := Lib.hid bW
    have HKK := Lib.hid hK
    have HMM := Lib.hid hM
    clear bW hK hM
    by_cases hlt : j < n
    · obtain ⟨p, hp⟩ : ∃ p, l[j]? = some p := ⟨_, List.getElem?_eq_getElem (by rw [HN.out]; exact hlt)⟩
      obtain ⟨r0, r1, r2, -⟩ := (H3.out.of (HB.out.block q H3.out.lt)).at_ hp
      obtain ⟨S1, S2⟩ := keys_succ hp
      have hlt' : (j : Int) < (n : Int) := by omega
      have j0 : (0 : Int) ≤ (j : Int) := by omega
      cases hf : p.f with
      | false =>
        rw [hf] at r1
        have HS1 := Lib.hid (show keysOf (l.take (j + 1)) = keysOf (l.take j) from by rw [S1, hf]; simp)
        have HS2 := Lib.hid (show marksOf (l.take (j + 1)) = marksOf (l.take j) from by rw [S2, hf]; simp)
        clear hp hf S1 S2
        go_wp2_with fail
        go_roundw
        case rel => exact ⟨j + 1, by omega, by go_num, by rw [HS1.out]; exact HKK.out.alloc _, by rw [HS2.out]; exact HMM.out.alloc _, tr HB.out (by go_grown)⟩
        case measure => simp [intOf]; omega
      | true =>
        rw [hf] at r1
        have HS1 := Lib.hid (show keysOf (l.take (j + 1)) = keysOf (l.take j) ++ [p.k] from by rw [S1, hf]; simp)
        have HS2 := Lib.hid (show marksOf (l.take (j + 1)) = marksOf (l.take j) ++ [p.m] from by rw [S2, hf]; simp)
        clear hp hf S1 S2
        obtain ⟨V, hV⟩ : ∃ V, wr.alloc (.cells #[.int .u32 p.k, .bool true, .bool p.m] 65) = V := ⟨_, rfl⟩
        have hVs : V.heap.size = wr.heap.size + 1 := by rw [← hV, World.size_alloc]
        have HV := Lib.hid hV
        have HVS := Lib.hid hVs
        have HBV := Lib.hid (show Below W.heap.size W V from by rw [← hV]; exact tr HB.out (by go_grown))
        have HKV := Lib.hid (show Ks V W.heap.size u2 (keysOf (l.take j)) from by rw [← hV]; exact HKK.out.alloc _)
        have HMV := Lib.hid (show Ms V W.heap.size u3 (marksOf (l.take j)) from by rw [← hV]; exact HMM.out.alloc _)
        obtain ⟨v0, v1, v2, vf⟩ := BoxA.three (show BoxA V wr.heap.size 65 #[.int .u32 p.k, .bool true, .bool p.m] from by rw [← hV]; exact BoxA.new _ _ _)
        have hkl := keys_len (l.take j)
        have hml := marks_len (l.take j)
        have hbs := HBV.out.size
        rw [List.length_take] at hkl hml
        clear hV hVs
        go_wp2_with (at_builtin; rw [HV.out]; refine wpList_app2 rfl (.tmp 19) (.tmp 22) 36 rfl W.heap.size 40 i0 (.int .u32 0) 4 Try.underlying36 hi0 hz0 hz1 hz2 rfl _ _ _ (.int .u32 p.k) rfl HKV.out (by rw [HVS.out]; rfl) rfl (by omega) (by omega) hbs ?_)
        intro v5 w5 o5 e5 l5 t5
        have HK5 := Lib.hid (show Ks w5 W.heap.size v5 (keysOf (l.take (j + 1))) from by
          rw [HS1.out]; unfold Ks; rw [List.length_append, List.map_append]; exact o5)
        have HM5 := Lib.hid (show Ms w5 W.heap.size u3 (marksOf (l.take j)) from others_own t5 (by decide) HMV.out)
        obtain ⟨x0, x1, x2, xf⟩ := BoxA.three (show BoxA w5 wr.heap.size 65 #[.int .u32 p.k, .bool true, .bool p.m] from t5 _ _ _ _ (by decide) (by rw [← HV.out]; exact BoxA.new _ _ _))
        have HB5 := Lib.hid (HBV.out.trans e5)
        have hb5 := HB5.out.size
        clear o5 e5 l5 t5 v0 v1 v2 vf HKV HMV r0 r1 r2
        go_wp2_with (at_builtin; refine wpList_app2 rfl (.tmp 24) (.tmp 27) 37 rfl W.heap.size 4 i1 (.bool false) 1 Try.underlying37 hi1 ho0 ho1 ho2 rfl _ _ _ (.bool p.m) rfl HM5.out rfl rfl (by omega) (by omega) hb5 ?_)
        intro v6 w6 o6 e6 l6 t6
        have HM6 := Lib.hid (show Ms w6 W.heap.size v6 (marksOf (l.take (j + 1))) from by
          rw [HS2.out]; unfold Ms; rw [List.length_append, List.map_append]; exact o6)
        have HK6 := Lib.hid (show Ks w6 W.heap.size v5 (keysOf (l.take (j + 1))) from others_own t6 (by decide) HK5.out)
        have HB6 := Lib.hid (HB5.out.trans e6)
        clear o6 e6 l6 t6
        go_wp2_with fail
        go_roundw
        case rel => exact ⟨j + 1, by omega, by go_num, HK6.out, HM6.out, HB6.out⟩
        case measure => simp [intOf]; omega
    · obtain rfl : j = n := by omega
      have HE := Lib.hid (show l.take j = l from by rw [← HN.out, List.take_length])
      go_wp2_with fail
      go_ret2
      exact ⟨_, _, rfl, by rw [← HE.out]; exact HKK.out, by rw [← HE.out]; exact HMM.out, HB.out⟩
end Go.Proofs.Yteppcjolgpdenaa.Seq
