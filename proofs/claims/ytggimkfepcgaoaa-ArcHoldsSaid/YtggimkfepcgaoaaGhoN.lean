/-
  Maps: 'a, m[k] = x, y' with a key that is not there: the entry is made, then its value is stored.
-/
import Derived.Test.YtggimkfepcgaoaaGhoA
set_option linter.unusedVariables false
set_option linter.unusedSimpArgs false
namespace Go.Proofs.Ytggimkfepcgaoaa.Gho
open Go Go.RowKit Kit Go.Maps Lnk
open Go.ChangeMaps (setBlock)
theorem entry_new {H : Type} {P : Program} {k t e : TypeId} {R : Value → Option (DataW H × List MemPlace)} {w : World} {b n : Nat} {D : DataW H} (h : w.ownsMap P k R b n D) (K : Keyed P k) (ht : P.underlying t = some (.map k e)) (hn : n < maxLen) {key val z : Value} {kl : Lit} {d : DataW H} {ps : List MemPlace}
    (hz : ∀ w, (zeroValue e).run P w = .ok z w) (hkey : keyOf P k key = some kl) (hv : R val = some (d, ps)) (hno : has D kl = false) (hlk : ∃ v, (Instr.lookup t (.map (some b)) key true).run P w = .ok (.tuple #[v, .bool false]) w) :
    ∃ (clk : Nat) (ob : Obj) (w2 : World), (Instr.mapEntry t (.map (some b)) key).run P w = .ok (.tuple #[z, .int .i64 (clk : Int)]) (setBlock w b ob) ∧ (Instr.entryStore t (.map (some b)) (.int .i64 (clk : Int)) val).run P (setBlock w b ob) = .ok () w2 ∧ w2.ownsMap P k R b (n + 1) (D.put kl d) ∧ w.mapTurned w2 b := by
  obtain ⟨w', hrun, ho, hmt⟩ := h.store K ht hn hkey hv
  obtain ⟨es, clock, hb, F, hs, rfl⟩ := h
  obtain ⟨v0, hl⟩ := hlk
  rcases K.find w hkey es.toList F.keys with ⟨h1, h2⟩ | ⟨j, e0, h1, h2, h3⟩
  · refine ⟨clock, .map (es.push ⟨key, z, clock⟩) (clock + 1), w', ?_, ?_, ho, hmt⟩
    · simp [Instr.mapEntry, run_underlying ht, MapKept.run_getObj_map hb, K.check w false hkey, h1, hz, MapKept.run_setObj_map _ hb, Result.andThen, setBlock, goInt]
    · have hrun' := hrun
      simp [Instr.mapUpdate, run_underlying ht, MapKept.run_getObj_map hb, K.check w false hkey, h1, MapKept.run_setObj_map _ hb, Result.andThen] at hrun'
      have hb1 : (setBlock w b (.map (es.push ⟨key, z, clock⟩) (clock + 1))).heap[b]? = some (.map (es.push ⟨key, z, clock⟩) (clock + 1)) := by
        have hlt := (Array.getElem?_eq_some_iff.1 hb).1
        show (w.heap.setIfInBounds b _)[b]? = _
        rw [Array.getElem?_setIfInBounds_self_of_lt hlt]
      have hidx : (es.push ⟨key, z, clock⟩).findIdx? (fun e => (e.born : Int) == (clock : Int)) = some es.size := by
        rw [Array.findIdx?_push, Array.findIdx?_eq_none_iff.2 (fun x hx => by
          have := F.stamped.1 x (by simpa using hx)
          simp
          omega)]
        simp
      have hmod : (es.push ⟨key, z, clock⟩).modify es.size (fun e => { e with val := val }) = es.push ⟨key, val, clock⟩ := by
        apply Array.ext
        · simp
        · intro i h1 h2
          simp only [Array.size_modify, Array.size_push] at h1
          rw [Array.getElem_modify]
          by_cases hi : es.size = i
          · subst hi
            simp
          · rw [if_neg hi, Array.getElem_push_lt (by omega), Array.getElem_push_lt (by omega)]
      simp [Instr.entryStore, MapKept.run_getObj_map hb1, asInt, asIntOf, hidx, MapKept.run_setObj_map _ hb1, Result.andThen, hmod]
      rw [← hrun']
      simp [setBlock]
  · simp [Instr.lookup, run_underlying ht, MapKept.run_getObj_map hb, K.check w es.isEmpty hkey, h1, Result.andThen] at hl
end Go.Proofs.Ytggimkfepcgaoaa.Gho
