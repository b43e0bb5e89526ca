/-
  NARROWER THAN 'FOR EVERY INPUT', by the rows' own cells (each row's printed sentence says how): ControlLooks: laid · ControlSets: laid · ControlErases: laid · ControlHolds: laid · EntryCosts: laid · EntryMakes: laid · EntryOrders: laid · ConfigResizes: laid · ConfigChecks: laid · LoadNumbers: laid · ReportRatios: laid · TickHolds: laid.
  DERIVED. THE GIVEN ROWS OF THIS SEAT. 12 by the template 'for every input the law returns true; each argument reads behind the call as it read before'; 0 by the template 'total and deterministic' (their statements: YtgdpfnmmhpcleaaDoorTotals.lean).
  GIVEN WITH THE SEED: the statements are not yours to turn. If you find one false, say at which input.
  Laid BY PROGRAM, IN A SANDBOX (cutbox-rows.mjs): the forced cells as the released guide's own fill.sh prints them over the translation 5f1ceb0a29523da1… (all of the seat's roots in one cut). By AI agents, Wed Nov 11 2026. No macro, syntax, notation, axiom, sorry.
-/
import Derived.Test.YtgdpfnmmhpcleaaDoorChecked
import GoSem.Claim
import GoSem.ClaimJoined
import GoSem.ClaimMapViews
import Derived.JoinedTies
import Derived.KernelRfl
namespace Go.Proofs.YtgdpfnmmhpcleaaDoor
/- THE CELL 'sum', in the pinned program and in every row, IS THE sha256 OF THE DUMP (.gsa) THAT YtgdpfnmmhpcleaaDoorProg.lean LOADS. Nothing in Lean hashes anything: it is a label: what it is worth is what the hold of that sum in a sandbox is worth. -/
noncomputable def Tryd.pinned : Pinned := { name := "ytgdpfnmmhpcleaadoor", sum := "5f1ceb0a29523da1cf98e4bf3f5b17a1a8b262b36f021334c668a5f6d8d08258", checked := Tryd.checked }
namespace Rows
def none {H : Type} : Left H := { results := [], args := [] }

/- WHAT THE LISTED PACKAGE-LEVEL VARIABLES READ AS WHEN THE CALL BEGINS. Each datum BY PROGRAM (the guide's laid-datum.mjs) off the statement by which the dump's own 'gosem.cut.vars' lays the variable. In a bare row this is a premise. The card (YtgdpfnmmhpcleaaDoorCards.lean) ties it to the program's text. -/
def laid_math_bits_deBruijn32tab {H : Type} : DataW H := .agg [.lit (.int .u8 0), .lit (.int .u8 1), .lit (.int .u8 28), .lit (.int .u8 2), .lit (.int .u8 29), .lit (.int .u8 14), .lit (.int .u8 24), .lit (.int .u8 3), .lit (.int .u8 30), .lit (.int .u8 22), .lit (.int .u8 20), .lit (.int .u8 15), .lit (.int .u8 25), .lit (.int .u8 17), .lit (.int .u8 4), .lit (.int .u8 8), .lit (.int .u8 31), .lit (.int .u8 27), .lit (.int .u8 13), .lit (.int .u8 23), .lit (.int .u8 21), .lit (.int .u8 19), .lit (.int .u8 16), .lit (.int .u8 7), .lit (.int .u8 26), .lit (.int .u8 12), .lit (.int .u8 18), .lit (.int .u8 6), .lit (.int .u8 11), .lit (.int .u8 5), .lit (.int .u8 10), .lit (.int .u8 9)]
def laid_math_bits_deBruijn64tab {H : Type} : DataW H := .agg [.lit (.int .u8 0), .lit (.int .u8 1), .lit (.int .u8 56), .lit (.int .u8 2), .lit (.int .u8 57), .lit (.int .u8 49), .lit (.int .u8 28), .lit (.int .u8 3), .lit (.int .u8 61), .lit (.int .u8 58), .lit (.int .u8 42), .lit (.int .u8 50), .lit (.int .u8 38), .lit (.int .u8 29), .lit (.int .u8 17), .lit (.int .u8 4), .lit (.int .u8 62), .lit (.int .u8 47), .lit (.int .u8 59), .lit (.int .u8 36), .lit (.int .u8 45), .lit (.int .u8 43), .lit (.int .u8 51), .lit (.int .u8 22), .lit (.int .u8 53), .lit (.int .u8 39), .lit (.int .u8 33), .lit (.int .u8 30), .lit (.int .u8 24), .lit (.int .u8 18), .lit (.int .u8 12), .lit (.int .u8 5), .lit (.int .u8 63), .lit (.int .u8 55), .lit (.int .u8 48), .lit (.int .u8 27), .lit (.int .u8 60), .lit (.int .u8 41), .lit (.int .u8 37), .lit (.int .u8 16), .lit (.int .u8 46), .lit (.int .u8 35), .lit (.int .u8 44), .lit (.int .u8 21), .lit (.int .u8 52), .lit (.int .u8 32), .lit (.int .u8 23), .lit (.int .u8 11), .lit (.int .u8 54), .lit (.int .u8 26), .lit (.int .u8 40), .lit (.int .u8 15), .lit (.int .u8 34), .lit (.int .u8 20), .lit (.int .u8 31), .lit (.int .u8 10), .lit (.int .u8 25), .lit (.int .u8 14), .lit (.int .u8 19), .lit (.int .u8 9), .lit (.int .u8 13), .lit (.int .u8 8), .lit (.int .u8 7), .lit (.int .u8 6)]
def laid_internal_strconv_uint64pow10 {H : Type} : DataW H := .agg [.lit (.int .u64 1), .lit (.int .u64 10), .lit (.int .u64 100), .lit (.int .u64 1000), .lit (.int .u64 10000), .lit (.int .u64 100000), .lit (.int .u64 1000000), .lit (.int .u64 10000000), .lit (.int .u64 100000000), .lit (.int .u64 1000000000), .lit (.int .u64 10000000000), .lit (.int .u64 100000000000), .lit (.int .u64 1000000000000), .lit (.int .u64 10000000000000), .lit (.int .u64 100000000000000), .lit (.int .u64 1000000000000000), .lit (.int .u64 10000000000000000), .lit (.int .u64 100000000000000000), .lit (.int .u64 1000000000000000000), .lit (.int .u64 10000000000000000000)]
def laid_strconv_ErrRange {H : Type} : DataW H := .iface "*errors.errorString" (.ptr (.agg [.lit (.string [118, 97, 108, 117, 101, 32, 111, 117, 116, 32, 111, 102, 32, 114, 97, 110, 103, 101])]))
def laid_strconv_ErrSyntax {H : Type} : DataW H := .iface "*errors.errorString" (.ptr (.agg [.lit (.string [105, 110, 118, 97, 108, 105, 100, 32, 115, 121, 110, 116, 97, 120])]))
def laid_cubbyhole_entry_values {H : Type} : DataW H := .agg [.lit (.int .u8 0), .lit (.int .u8 0), .lit (.int .u8 0), .lit (.int .u8 0), .lit (.int .u8 0), .lit (.int .u8 0), .lit (.int .u8 0), .lit (.int .u8 0), .lit (.int .u8 0), .lit (.int .u8 0), .lit (.int .u8 0), .lit (.int .u8 0), .lit (.int .u8 0), .lit (.int .u8 0), .lit (.int .u8 0), .lit (.int .u8 0), .lit (.int .u8 0), .lit (.int .u8 0), .lit (.int .u8 0), .lit (.int .u8 0), .lit (.int .u8 0), .lit (.int .u8 0), .lit (.int .u8 0), .lit (.int .u8 0), .lit (.int .u8 0), .lit (.int .u8 0), .lit (.int .u8 0), .lit (.int .u8 0), .lit (.int .u8 0), .lit (.int .u8 0), .lit (.int .u8 0), .lit (.int .u8 0), .lit (.int .u8 0), .lit (.int .u8 0), .lit (.int .u8 0), .lit (.int .u8 0), .lit (.int .u8 0), .lit (.int .u8 0), .lit (.int .u8 0), .lit (.int .u8 0), .lit (.int .u8 0), .lit (.int .u8 0), .lit (.int .u8 0), .lit (.int .u8 0), .lit (.int .u8 0), .lit (.int .u8 0), .lit (.int .u8 0), .lit (.int .u8 0), .lit (.int .u8 1), .lit (.int .u8 2), .lit (.int .u8 3), .lit (.int .u8 4), .lit (.int .u8 5), .lit (.int .u8 6), .lit (.int .u8 7), .lit (.int .u8 8), .lit (.int .u8 9), .lit (.int .u8 10), .lit (.int .u8 0), .lit (.int .u8 0), .lit (.int .u8 0), .lit (.int .u8 0), .lit (.int .u8 0), .lit (.int .u8 0), .lit (.int .u8 0), .lit (.int .u8 0), .lit (.int .u8 0), .lit (.int .u8 0), .lit (.int .u8 0), .lit (.int .u8 0), .lit (.int .u8 0), .lit (.int .u8 0), .lit (.int .u8 0), .lit (.int .u8 0), .lit (.int .u8 0), .lit (.int .u8 0), .lit (.int .u8 0), .lit (.int .u8 0), .lit (.int .u8 0), .lit (.int .u8 0), .lit (.int .u8 0), .lit (.int .u8 0), .lit (.int .u8 0), .lit (.int .u8 0), .lit (.int .u8 0), .lit (.int .u8 0), .lit (.int .u8 0), .lit (.int .u8 0), .lit (.int .u8 0), .lit (.int .u8 0), .lit (.int .u8 0), .lit (.int .u8 0), .lit (.int .u8 0), .lit (.int .u8 0), .lit (.int .u8 0), .lit (.int .u8 0), .lit (.int .u8 0), .lit (.int .u8 11), .lit (.int .u8 12), .lit (.int .u8 13), .lit (.int .u8 14), .lit (.int .u8 15), .lit (.int .u8 16)]
def laid_cubbyhole_config_words {H : Type} : DataW H := .agg [.lit (.string [99, 111, 117, 110, 116, 61]), .lit (.string [32, 98, 121, 116, 101, 115, 61]), .lit (.string [32, 112, 114, 111, 116, 101, 99, 116, 101, 100, 61]), .lit (.string [32, 115, 101, 101, 100, 61]), .lit (.string [32, 115, 97, 109, 101, 61])]
def laid_cubbyhole_load_words {H : Type} : DataW H := .agg [.lit (.string []), .lit (.string [108, 111, 111, 112]), .lit (.string [115, 99, 97, 110]), .lit (.string [101, 118, 101, 110]), .lit (.string [115, 107, 101, 119]), .lit (.string [112, 104, 97, 115, 101, 115]), .lit (.string [109, 105, 120, 101, 100])]
def laid_cubbyhole_event_words {H : Type} : DataW H := .agg [.lit (.string []), .lit (.string [101, 120, 112, 105, 114, 101, 100]), .lit (.string [101, 118, 105, 99, 116, 101, 100]), .lit (.string [114, 101, 112, 108, 97, 99, 101, 100]), .lit (.string [100, 101, 108, 101, 116, 101, 100]), .lit (.string [99, 108, 101, 97, 114, 101, 100])]
def laid_cubbyhole_contest_words {H : Type} : DataW H := .agg [.lit (.string []), .lit (.string [108, 114, 117]), .lit (.string [115, 101, 103, 109, 101, 110, 116]), .lit (.string [97, 114, 99]), .lit (.string [108, 102, 117]), .lit (.string [115, 101, 99, 111, 110, 100]), .lit (.string [116, 119, 111, 113]), .lit (.string [116, 105, 110, 121]), .lit (.string [98, 101, 115, 116])]
def laid_cubbyhole_report_complaints {H : Type} : DataW H := .agg [.lit (.string []), .lit (.string [116, 105, 109, 101]), .lit (.string [101, 118, 101, 110, 116]), .lit (.string [101, 120, 112, 105, 114, 121]), .lit (.string [118, 105, 99, 116, 105, 109]), .lit (.string [98, 117, 100, 103, 101, 116]), .lit (.string [114, 101, 97, 100]), .lit (.string [99, 117, 114, 115, 111, 114]), .lit (.string [101, 114, 114, 111, 114])]

/-- 'cubbyholelaw05.ControlLooks': WHATEVER THE INPUT: true; the input reads as it did. -/
def controlLooksSpec : ChangeSpec := { name := "controlLooks", fn := fun _ => fun
  | [d1, d2] => { results := [.lit (.bool true)], args := [d1, d2] }
  | _ => none }
def controlLooksRow : OpenClaim := { program := "ytgdpfnmmhpcleaadoor", sum := "5f1ceb0a29523da1cf98e4bf3f5b17a1a8b262b36f021334c668a5f6d8d08258", func := "cubbyhole/cubbyholelaw05.ControlLooks", spec := "controlLooks", inPlace := ["internal/abi.NoEscape", "internal/bytealg.MakeNoZero"], named := ["internal/strconv.uint64pow10", "math/bits.deBruijn32tab", "math/bits.deBruijn64tab"], apart := false, laid := [("math/bits.deBruijn32tab", laid_math_bits_deBruijn32tab), ("math/bits.deBruijn64tab", laid_math_bits_deBruijn64tab), ("internal/strconv.uint64pow10", laid_internal_strconv_uint64pow10)] }
def ControlLooksSaid : Prop := controlLooksRow.holds Tryd.pinned (OpenSpec.ofChange controlLooksSpec)

/-- ITS FALSE NEIGHBOUR: 'it returns false'. Refute it at one input. -/
def controlLooksWrong : ChangeSpec := { name := "controlLooks", fn := fun _ => fun
  | [d1, d2] => { results := [.lit (.bool false)], args := [d1, d2] }
  | _ => none }
def ControlLooksWrongFalsely : Prop := controlLooksRow.holds Tryd.pinned (OpenSpec.ofChange controlLooksWrong)

/-- 'cubbyholelaw05.ControlSets': WHATEVER THE INPUT: true; the input reads as it did. -/
def controlSetsSpec : ChangeSpec := { name := "controlSets", fn := fun _ => fun
  | [d1, d2, d3] => { results := [.lit (.bool true)], args := [d1, d2, d3] }
  | _ => none }
def controlSetsRow : OpenClaim := { program := "ytgdpfnmmhpcleaadoor", sum := "5f1ceb0a29523da1cf98e4bf3f5b17a1a8b262b36f021334c668a5f6d8d08258", func := "cubbyhole/cubbyholelaw05.ControlSets", spec := "controlSets", inPlace := ["internal/abi.NoEscape", "internal/bytealg.MakeNoZero"], named := ["internal/strconv.uint64pow10", "math/bits.deBruijn32tab", "math/bits.deBruijn64tab"], apart := false, laid := [("math/bits.deBruijn32tab", laid_math_bits_deBruijn32tab), ("math/bits.deBruijn64tab", laid_math_bits_deBruijn64tab), ("internal/strconv.uint64pow10", laid_internal_strconv_uint64pow10)] }
def ControlSetsSaid : Prop := controlSetsRow.holds Tryd.pinned (OpenSpec.ofChange controlSetsSpec)

/-- ITS FALSE NEIGHBOUR: 'it returns false'. Refute it at one input. -/
def controlSetsWrong : ChangeSpec := { name := "controlSets", fn := fun _ => fun
  | [d1, d2, d3] => { results := [.lit (.bool false)], args := [d1, d2, d3] }
  | _ => none }
def ControlSetsWrongFalsely : Prop := controlSetsRow.holds Tryd.pinned (OpenSpec.ofChange controlSetsWrong)

/-- 'cubbyholelaw05.ControlErases': WHATEVER THE INPUT: true; the input reads as it did. -/
def controlErasesSpec : ChangeSpec := { name := "controlErases", fn := fun _ => fun
  | [d1, d2] => { results := [.lit (.bool true)], args := [d1, d2] }
  | _ => none }
def controlErasesRow : OpenClaim := { program := "ytgdpfnmmhpcleaadoor", sum := "5f1ceb0a29523da1cf98e4bf3f5b17a1a8b262b36f021334c668a5f6d8d08258", func := "cubbyhole/cubbyholelaw05.ControlErases", spec := "controlErases", inPlace := ["internal/abi.NoEscape", "internal/bytealg.MakeNoZero"], named := ["internal/strconv.uint64pow10", "math/bits.deBruijn32tab", "math/bits.deBruijn64tab"], apart := false, laid := [("math/bits.deBruijn32tab", laid_math_bits_deBruijn32tab), ("math/bits.deBruijn64tab", laid_math_bits_deBruijn64tab), ("internal/strconv.uint64pow10", laid_internal_strconv_uint64pow10)] }
def ControlErasesSaid : Prop := controlErasesRow.holds Tryd.pinned (OpenSpec.ofChange controlErasesSpec)

/-- ITS FALSE NEIGHBOUR: 'it returns false'. Refute it at one input. -/
def controlErasesWrong : ChangeSpec := { name := "controlErases", fn := fun _ => fun
  | [d1, d2] => { results := [.lit (.bool false)], args := [d1, d2] }
  | _ => none }
def ControlErasesWrongFalsely : Prop := controlErasesRow.holds Tryd.pinned (OpenSpec.ofChange controlErasesWrong)

/-- 'cubbyholelaw05.ControlHolds': WHATEVER THE INPUT: true; the input reads as it did. -/
def controlHoldsSpec : ChangeSpec := { name := "controlHolds", fn := fun _ => fun
  | [d1, d2, d3] => { results := [.lit (.bool true)], args := [d1, d2, d3] }
  | _ => none }
def controlHoldsRow : OpenClaim := { program := "ytgdpfnmmhpcleaadoor", sum := "5f1ceb0a29523da1cf98e4bf3f5b17a1a8b262b36f021334c668a5f6d8d08258", func := "cubbyhole/cubbyholelaw05.ControlHolds", spec := "controlHolds", inPlace := ["internal/abi.NoEscape", "internal/bytealg.MakeNoZero"], named := ["internal/strconv.uint64pow10", "math/bits.deBruijn32tab", "math/bits.deBruijn64tab"], apart := false, laid := [("math/bits.deBruijn32tab", laid_math_bits_deBruijn32tab), ("math/bits.deBruijn64tab", laid_math_bits_deBruijn64tab), ("internal/strconv.uint64pow10", laid_internal_strconv_uint64pow10)] }
def ControlHoldsSaid : Prop := controlHoldsRow.holds Tryd.pinned (OpenSpec.ofChange controlHoldsSpec)

/-- ITS FALSE NEIGHBOUR: 'it returns false'. Refute it at one input. -/
def controlHoldsWrong : ChangeSpec := { name := "controlHolds", fn := fun _ => fun
  | [d1, d2, d3] => { results := [.lit (.bool false)], args := [d1, d2, d3] }
  | _ => none }
def ControlHoldsWrongFalsely : Prop := controlHoldsRow.holds Tryd.pinned (OpenSpec.ofChange controlHoldsWrong)

/-- 'cubbyholelaw04.EntryCosts': WHATEVER THE INPUT: true; the input reads as it did. -/
def entryCostsSpec : ChangeSpec := { name := "entryCosts", fn := fun _ => fun
  | [d1, d2] => { results := [.lit (.bool true)], args := [d1, d2] }
  | _ => none }
def entryCostsRow : OpenClaim := { program := "ytgdpfnmmhpcleaadoor", sum := "5f1ceb0a29523da1cf98e4bf3f5b17a1a8b262b36f021334c668a5f6d8d08258", func := "cubbyhole/cubbyholelaw04.EntryCosts", spec := "entryCosts", inPlace := ["internal/bytealg.IndexByteString", "internal/bytealg.IndexString"], unfollowed := true, recurses := true, named := ["internal/strconv.uint64pow10", "math/bits.deBruijn32tab", "math/bits.deBruijn64tab", "internal/bytealg.MaxLen", "strconv.ErrSyntax", "strconv.ErrRange", "cubbyhole/entry.values"], apart := false, laid := [("math/bits.deBruijn32tab", laid_math_bits_deBruijn32tab), ("math/bits.deBruijn64tab", laid_math_bits_deBruijn64tab), ("internal/strconv.uint64pow10", laid_internal_strconv_uint64pow10), ("strconv.ErrRange", laid_strconv_ErrRange), ("strconv.ErrSyntax", laid_strconv_ErrSyntax), ("cubbyhole/entry.values", laid_cubbyhole_entry_values)] }
def EntryCostsSaid : Prop := entryCostsRow.holds Tryd.pinned (OpenSpec.ofChange entryCostsSpec)

/-- ITS FALSE NEIGHBOUR: 'it returns false'. Refute it at one input. -/
def entryCostsWrong : ChangeSpec := { name := "entryCosts", fn := fun _ => fun
  | [d1, d2] => { results := [.lit (.bool false)], args := [d1, d2] }
  | _ => none }
def EntryCostsWrongFalsely : Prop := entryCostsRow.holds Tryd.pinned (OpenSpec.ofChange entryCostsWrong)

/-- 'cubbyholelaw04.EntryMakes': WHATEVER THE INPUT: true; the input reads as it did. -/
def entryMakesSpec : ChangeSpec := { name := "entryMakes", fn := fun _ => fun
  | [d1, d2] => { results := [.lit (.bool true)], args := [d1, d2] }
  | _ => none }
def entryMakesRow : OpenClaim := { program := "ytgdpfnmmhpcleaadoor", sum := "5f1ceb0a29523da1cf98e4bf3f5b17a1a8b262b36f021334c668a5f6d8d08258", func := "cubbyhole/cubbyholelaw04.EntryMakes", spec := "entryMakes", inPlace := ["internal/bytealg.IndexByteString", "internal/bytealg.IndexString"], unfollowed := true, recurses := true, named := ["internal/strconv.uint64pow10", "math/bits.deBruijn32tab", "math/bits.deBruijn64tab", "internal/bytealg.MaxLen", "strconv.ErrSyntax", "strconv.ErrRange", "cubbyhole/entry.values"], apart := false, laid := [("math/bits.deBruijn32tab", laid_math_bits_deBruijn32tab), ("math/bits.deBruijn64tab", laid_math_bits_deBruijn64tab), ("internal/strconv.uint64pow10", laid_internal_strconv_uint64pow10), ("strconv.ErrRange", laid_strconv_ErrRange), ("strconv.ErrSyntax", laid_strconv_ErrSyntax), ("cubbyhole/entry.values", laid_cubbyhole_entry_values)] }
def EntryMakesSaid : Prop := entryMakesRow.holds Tryd.pinned (OpenSpec.ofChange entryMakesSpec)

/-- ITS FALSE NEIGHBOUR: 'it returns false'. Refute it at one input. -/
def entryMakesWrong : ChangeSpec := { name := "entryMakes", fn := fun _ => fun
  | [d1, d2] => { results := [.lit (.bool false)], args := [d1, d2] }
  | _ => none }
def EntryMakesWrongFalsely : Prop := entryMakesRow.holds Tryd.pinned (OpenSpec.ofChange entryMakesWrong)

/-- 'cubbyholelaw04.EntryOrders': WHATEVER THE INPUT: true; the input reads as it did. -/
def entryOrdersSpec : ChangeSpec := { name := "entryOrders", fn := fun _ => fun
  | [d1, d2] => { results := [.lit (.bool true)], args := [d1, d2] }
  | _ => none }
def entryOrdersRow : OpenClaim := { program := "ytgdpfnmmhpcleaadoor", sum := "5f1ceb0a29523da1cf98e4bf3f5b17a1a8b262b36f021334c668a5f6d8d08258", func := "cubbyhole/cubbyholelaw04.EntryOrders", spec := "entryOrders", inPlace := ["internal/bytealg.IndexByteString", "internal/bytealg.IndexString"], unfollowed := true, recurses := true, named := ["internal/strconv.uint64pow10", "math/bits.deBruijn32tab", "math/bits.deBruijn64tab", "internal/bytealg.MaxLen", "strconv.ErrSyntax", "strconv.ErrRange", "cubbyhole/entry.values"], apart := false, laid := [("math/bits.deBruijn32tab", laid_math_bits_deBruijn32tab), ("math/bits.deBruijn64tab", laid_math_bits_deBruijn64tab), ("internal/strconv.uint64pow10", laid_internal_strconv_uint64pow10), ("strconv.ErrRange", laid_strconv_ErrRange), ("strconv.ErrSyntax", laid_strconv_ErrSyntax), ("cubbyhole/entry.values", laid_cubbyhole_entry_values)] }
def EntryOrdersSaid : Prop := entryOrdersRow.holds Tryd.pinned (OpenSpec.ofChange entryOrdersSpec)

/-- ITS FALSE NEIGHBOUR: 'it returns false'. Refute it at one input. -/
def entryOrdersWrong : ChangeSpec := { name := "entryOrders", fn := fun _ => fun
  | [d1, d2] => { results := [.lit (.bool false)], args := [d1, d2] }
  | _ => none }
def EntryOrdersWrongFalsely : Prop := entryOrdersRow.holds Tryd.pinned (OpenSpec.ofChange entryOrdersWrong)

/-- 'cubbyholelaw23.ConfigResizes': WHATEVER THE INPUT: true; the input reads as it did. -/
def configResizesSpec : ChangeSpec := { name := "configResizes", fn := fun _ => fun
  | [d1, d2, d3] => { results := [.lit (.bool true)], args := [d1, d2, d3] }
  | _ => none }
def configResizesRow : OpenClaim := { program := "ytgdpfnmmhpcleaadoor", sum := "5f1ceb0a29523da1cf98e4bf3f5b17a1a8b262b36f021334c668a5f6d8d08258", func := "cubbyhole/cubbyholelaw23.ConfigResizes", spec := "configResizes", inPlace := ["internal/bytealg.IndexByteString", "internal/bytealg.IndexString"], named := ["cubbyhole/config.words", "internal/strconv.uint64pow10", "math/bits.deBruijn32tab", "math/bits.deBruijn64tab", "internal/bytealg.MaxLen", "strconv.ErrSyntax", "strconv.ErrRange"], apart := false, laid := [("math/bits.deBruijn32tab", laid_math_bits_deBruijn32tab), ("math/bits.deBruijn64tab", laid_math_bits_deBruijn64tab), ("internal/strconv.uint64pow10", laid_internal_strconv_uint64pow10), ("strconv.ErrRange", laid_strconv_ErrRange), ("strconv.ErrSyntax", laid_strconv_ErrSyntax), ("cubbyhole/config.words", laid_cubbyhole_config_words)] }
def ConfigResizesSaid : Prop := configResizesRow.holds Tryd.pinned (OpenSpec.ofChange configResizesSpec)

/-- ITS FALSE NEIGHBOUR: 'it returns false'. Refute it at one input. -/
def configResizesWrong : ChangeSpec := { name := "configResizes", fn := fun _ => fun
  | [d1, d2, d3] => { results := [.lit (.bool false)], args := [d1, d2, d3] }
  | _ => none }
def ConfigResizesWrongFalsely : Prop := configResizesRow.holds Tryd.pinned (OpenSpec.ofChange configResizesWrong)

/-- 'cubbyholelaw23.ConfigChecks': WHATEVER THE INPUT: true; the input reads as it did. -/
def configChecksSpec : ChangeSpec := { name := "configChecks", fn := fun _ => fun
  | [d] => { results := [.lit (.bool true)], args := [d] }
  | _ => none }
def configChecksRow : OpenClaim := { program := "ytgdpfnmmhpcleaadoor", sum := "5f1ceb0a29523da1cf98e4bf3f5b17a1a8b262b36f021334c668a5f6d8d08258", func := "cubbyhole/cubbyholelaw23.ConfigChecks", spec := "configChecks", inPlace := ["internal/bytealg.IndexByteString", "internal/bytealg.IndexString"], recurses := true, named := ["cubbyhole/config.words", "internal/strconv.uint64pow10", "math/bits.deBruijn32tab", "math/bits.deBruijn64tab", "internal/bytealg.MaxLen", "strconv.ErrSyntax", "strconv.ErrRange"], apart := false, laid := [("math/bits.deBruijn32tab", laid_math_bits_deBruijn32tab), ("math/bits.deBruijn64tab", laid_math_bits_deBruijn64tab), ("internal/strconv.uint64pow10", laid_internal_strconv_uint64pow10), ("strconv.ErrRange", laid_strconv_ErrRange), ("strconv.ErrSyntax", laid_strconv_ErrSyntax), ("cubbyhole/config.words", laid_cubbyhole_config_words)] }
def ConfigChecksSaid : Prop := configChecksRow.holds Tryd.pinned (OpenSpec.ofChange configChecksSpec)

/-- ITS FALSE NEIGHBOUR: 'it returns false'. Refute it at one input. -/
def configChecksWrong : ChangeSpec := { name := "configChecks", fn := fun _ => fun
  | [d] => { results := [.lit (.bool false)], args := [d] }
  | _ => none }
def ConfigChecksWrongFalsely : Prop := configChecksRow.holds Tryd.pinned (OpenSpec.ofChange configChecksWrong)

/-- 'cubbyholelaw38.LoadNumbers': WHATEVER THE INPUT: true; the input reads as it did. -/
def loadNumbersSpec : ChangeSpec := { name := "loadNumbers", fn := fun _ => fun
  | [d1, d2] => { results := [.lit (.bool true)], args := [d1, d2] }
  | _ => none }
def loadNumbersRow : OpenClaim := { program := "ytgdpfnmmhpcleaadoor", sum := "5f1ceb0a29523da1cf98e4bf3f5b17a1a8b262b36f021334c668a5f6d8d08258", func := "cubbyhole/cubbyholelaw38.LoadNumbers", spec := "loadNumbers", inPlace := ["internal/bytealg.IndexByteString", "internal/bytealg.IndexString"], unfollowed := true, recurses := true, named := ["cubbyhole/load.words", "internal/strconv.uint64pow10", "math/bits.deBruijn32tab", "math/bits.deBruijn64tab", "internal/bytealg.MaxLen", "strconv.ErrSyntax", "strconv.ErrRange"], apart := false, laid := [("math/bits.deBruijn32tab", laid_math_bits_deBruijn32tab), ("math/bits.deBruijn64tab", laid_math_bits_deBruijn64tab), ("internal/strconv.uint64pow10", laid_internal_strconv_uint64pow10), ("strconv.ErrRange", laid_strconv_ErrRange), ("strconv.ErrSyntax", laid_strconv_ErrSyntax), ("cubbyhole/load.words", laid_cubbyhole_load_words)] }
def LoadNumbersSaid : Prop := loadNumbersRow.holds Tryd.pinned (OpenSpec.ofChange loadNumbersSpec)

/-- ITS FALSE NEIGHBOUR: 'it returns false'. Refute it at one input. -/
def loadNumbersWrong : ChangeSpec := { name := "loadNumbers", fn := fun _ => fun
  | [d1, d2] => { results := [.lit (.bool false)], args := [d1, d2] }
  | _ => none }
def LoadNumbersWrongFalsely : Prop := loadNumbersRow.holds Tryd.pinned (OpenSpec.ofChange loadNumbersWrong)

/-- 'cubbyholelaw52.ReportRatios': WHATEVER THE INPUT: true; the input reads as it did. -/
def reportRatiosSpec : ChangeSpec := { name := "reportRatios", fn := fun _ => fun
  | [d1, d2] => { results := [.lit (.bool true)], args := [d1, d2] }
  | _ => none }
def reportRatiosRow : OpenClaim := { program := "ytgdpfnmmhpcleaadoor", sum := "5f1ceb0a29523da1cf98e4bf3f5b17a1a8b262b36f021334c668a5f6d8d08258", func := "cubbyhole/cubbyholelaw52.ReportRatios", spec := "reportRatios", inPlace := ["internal/abi.NoEscape", "internal/bytealg.IndexByteString", "internal/bytealg.IndexString"], recurses := true, named := ["internal/strconv.uint64pow10", "math/bits.deBruijn32tab", "math/bits.deBruijn64tab", "cubbyhole/contest.words", "cubbyhole/report.complaints", "cubbyhole/event.words", "internal/bytealg.MaxLen", "strconv.ErrSyntax", "strconv.ErrRange"], apart := false, laid := [("math/bits.deBruijn32tab", laid_math_bits_deBruijn32tab), ("math/bits.deBruijn64tab", laid_math_bits_deBruijn64tab), ("internal/strconv.uint64pow10", laid_internal_strconv_uint64pow10), ("strconv.ErrRange", laid_strconv_ErrRange), ("strconv.ErrSyntax", laid_strconv_ErrSyntax), ("cubbyhole/event.words", laid_cubbyhole_event_words), ("cubbyhole/contest.words", laid_cubbyhole_contest_words), ("cubbyhole/report.complaints", laid_cubbyhole_report_complaints)] }
def ReportRatiosSaid : Prop := reportRatiosRow.holds Tryd.pinned (OpenSpec.ofChange reportRatiosSpec)

/-- ITS FALSE NEIGHBOUR: 'it returns false'. Refute it at one input. -/
def reportRatiosWrong : ChangeSpec := { name := "reportRatios", fn := fun _ => fun
  | [d1, d2] => { results := [.lit (.bool false)], args := [d1, d2] }
  | _ => none }
def ReportRatiosWrongFalsely : Prop := reportRatiosRow.holds Tryd.pinned (OpenSpec.ofChange reportRatiosWrong)

/-- 'cubbyholelaw03.TickHolds': WHATEVER THE INPUT: true; the input reads as it did. -/
def tickHoldsSpec : ChangeSpec := { name := "tickHolds", fn := fun _ => fun
  | [d1, d2, d3, d4] => { results := [.lit (.bool true)], args := [d1, d2, d3, d4] }
  | _ => none }
def tickHoldsRow : OpenClaim := { program := "ytgdpfnmmhpcleaadoor", sum := "5f1ceb0a29523da1cf98e4bf3f5b17a1a8b262b36f021334c668a5f6d8d08258", func := "cubbyhole/cubbyholelaw03.TickHolds", spec := "tickHolds", named := ["internal/strconv.uint64pow10", "math/bits.deBruijn32tab", "math/bits.deBruijn64tab", "strconv.ErrSyntax", "strconv.ErrRange"], apart := false, laid := [("math/bits.deBruijn32tab", laid_math_bits_deBruijn32tab), ("math/bits.deBruijn64tab", laid_math_bits_deBruijn64tab), ("internal/strconv.uint64pow10", laid_internal_strconv_uint64pow10), ("strconv.ErrRange", laid_strconv_ErrRange), ("strconv.ErrSyntax", laid_strconv_ErrSyntax)] }
def TickHoldsSaid : Prop := tickHoldsRow.holds Tryd.pinned (OpenSpec.ofChange tickHoldsSpec)

/-- ITS FALSE NEIGHBOUR: 'it returns false'. Refute it at one input. -/
def tickHoldsWrong : ChangeSpec := { name := "tickHolds", fn := fun _ => fun
  | [d1, d2, d3, d4] => { results := [.lit (.bool false)], args := [d1, d2, d3, d4] }
  | _ => none }
def TickHoldsWrongFalsely : Prop := tickHoldsRow.holds Tryd.pinned (OpenSpec.ofChange tickHoldsWrong)

/- THE SECOND FORM. 'bulk': how many values and letters a reading holds, each counted each time it is reached (what is shared counts as often as it is met; a slice's spare places count too). A statement '..UptoSaid' is the law's where the arguments, and the package variables that the reading takes, are together of bulk at most 1048576: NARROWER than '..Said'. Prove '..Said' where nothing that the law and all that it calls make is longer than what came in: it says more and counts as full. Else prove '..UptoSaid'. A law counts once. -/
mutual
def uptoBulk {H : Type} : DataW H → Nat
  | .lit (.string bytes) => bytes.length + 1
  | .lit _ => 1
  | .nil => 1
  | .ptr d => uptoBulk d + 1
  | .slice elems spare => uptoBulkAll elems + uptoBulkAll spare + 1
  | .agg parts => uptoBulkAll parts + 1
  | .iface _ d => uptoBulk d + 1
  | .map entries => uptoBulkEntries entries + 1
  | .held _ => 1
def uptoBulkAll {H : Type} : List (DataW H) → Nat
  | [] => 0
  | d :: r => uptoBulk d + uptoBulkAll r
def uptoBulkEntries {H : Type} : List (Lit × DataW H) → Nat
  | [] => 0
  | x :: r => uptoBulkEntry x + uptoBulkEntries r
def uptoBulkEntry {H : Type} : Lit × DataW H → Nat
  | (.string bytes, d) => bytes.length + uptoBulk d + 1
  | (_, d) => uptoBulk d + 1
 end
def uptoSmall : (H : Type) → List (DataW H) → Bool := fun _ ds => decide (uptoBulkAll ds ≤ 1048576)
def OpenSpec.upto (s : _root_.Go.ChangeSpec) : _root_.Go.OpenSpec := { _root_.Go.OpenSpec.ofChange s with cond := some uptoSmall }

/-- 'cubbyholelaw05.ControlLooks', WHERE WHAT IT READS IS OF BULK AT MOST 1048576: true; the input reads as it did. -/
def controlLooksUptoRow : OpenClaim := { program := "ytgdpfnmmhpcleaadoor", sum := "5f1ceb0a29523da1cf98e4bf3f5b17a1a8b262b36f021334c668a5f6d8d08258", func := "cubbyhole/cubbyholelaw05.ControlLooks", spec := "controlLooks", inPlace := ["internal/abi.NoEscape", "internal/bytealg.MakeNoZero"], named := ["internal/strconv.uint64pow10", "math/bits.deBruijn32tab", "math/bits.deBruijn64tab"], apart := false, laid := [("math/bits.deBruijn32tab", laid_math_bits_deBruijn32tab), ("math/bits.deBruijn64tab", laid_math_bits_deBruijn64tab), ("internal/strconv.uint64pow10", laid_internal_strconv_uint64pow10)], narrowed := true }
def ControlLooksUptoSaid : Prop := controlLooksUptoRow.holds Tryd.pinned (OpenSpec.upto controlLooksSpec)

/-- 'cubbyholelaw05.ControlSets', WHERE WHAT IT READS IS OF BULK AT MOST 1048576: true; the input reads as it did. -/
def controlSetsUptoRow : OpenClaim := { program := "ytgdpfnmmhpcleaadoor", sum := "5f1ceb0a29523da1cf98e4bf3f5b17a1a8b262b36f021334c668a5f6d8d08258", func := "cubbyhole/cubbyholelaw05.ControlSets", spec := "controlSets", inPlace := ["internal/abi.NoEscape", "internal/bytealg.MakeNoZero"], named := ["internal/strconv.uint64pow10", "math/bits.deBruijn32tab", "math/bits.deBruijn64tab"], apart := false, laid := [("math/bits.deBruijn32tab", laid_math_bits_deBruijn32tab), ("math/bits.deBruijn64tab", laid_math_bits_deBruijn64tab), ("internal/strconv.uint64pow10", laid_internal_strconv_uint64pow10)], narrowed := true }
def ControlSetsUptoSaid : Prop := controlSetsUptoRow.holds Tryd.pinned (OpenSpec.upto controlSetsSpec)

/-- 'cubbyholelaw05.ControlErases', WHERE WHAT IT READS IS OF BULK AT MOST 1048576: true; the input reads as it did. -/
def controlErasesUptoRow : OpenClaim := { program := "ytgdpfnmmhpcleaadoor", sum := "5f1ceb0a29523da1cf98e4bf3f5b17a1a8b262b36f021334c668a5f6d8d08258", func := "cubbyhole/cubbyholelaw05.ControlErases", spec := "controlErases", inPlace := ["internal/abi.NoEscape", "internal/bytealg.MakeNoZero"], named := ["internal/strconv.uint64pow10", "math/bits.deBruijn32tab", "math/bits.deBruijn64tab"], apart := false, laid := [("math/bits.deBruijn32tab", laid_math_bits_deBruijn32tab), ("math/bits.deBruijn64tab", laid_math_bits_deBruijn64tab), ("internal/strconv.uint64pow10", laid_internal_strconv_uint64pow10)], narrowed := true }
def ControlErasesUptoSaid : Prop := controlErasesUptoRow.holds Tryd.pinned (OpenSpec.upto controlErasesSpec)

/-- 'cubbyholelaw05.ControlHolds', WHERE WHAT IT READS IS OF BULK AT MOST 1048576: true; the input reads as it did. -/
def controlHoldsUptoRow : OpenClaim := { program := "ytgdpfnmmhpcleaadoor", sum := "5f1ceb0a29523da1cf98e4bf3f5b17a1a8b262b36f021334c668a5f6d8d08258", func := "cubbyhole/cubbyholelaw05.ControlHolds", spec := "controlHolds", inPlace := ["internal/abi.NoEscape", "internal/bytealg.MakeNoZero"], named := ["internal/strconv.uint64pow10", "math/bits.deBruijn32tab", "math/bits.deBruijn64tab"], apart := false, laid := [("math/bits.deBruijn32tab", laid_math_bits_deBruijn32tab), ("math/bits.deBruijn64tab", laid_math_bits_deBruijn64tab), ("internal/strconv.uint64pow10", laid_internal_strconv_uint64pow10)], narrowed := true }
def ControlHoldsUptoSaid : Prop := controlHoldsUptoRow.holds Tryd.pinned (OpenSpec.upto controlHoldsSpec)

/-- 'cubbyholelaw04.EntryCosts', WHERE WHAT IT READS IS OF BULK AT MOST 1048576: true; the input reads as it did. -/
def entryCostsUptoRow : OpenClaim := { program := "ytgdpfnmmhpcleaadoor", sum := "5f1ceb0a29523da1cf98e4bf3f5b17a1a8b262b36f021334c668a5f6d8d08258", func := "cubbyhole/cubbyholelaw04.EntryCosts", spec := "entryCosts", inPlace := ["internal/bytealg.IndexByteString", "internal/bytealg.IndexString"], unfollowed := true, recurses := true, named := ["internal/strconv.uint64pow10", "math/bits.deBruijn32tab", "math/bits.deBruijn64tab", "internal/bytealg.MaxLen", "strconv.ErrSyntax", "strconv.ErrRange", "cubbyhole/entry.values"], apart := false, laid := [("math/bits.deBruijn32tab", laid_math_bits_deBruijn32tab), ("math/bits.deBruijn64tab", laid_math_bits_deBruijn64tab), ("internal/strconv.uint64pow10", laid_internal_strconv_uint64pow10), ("strconv.ErrRange", laid_strconv_ErrRange), ("strconv.ErrSyntax", laid_strconv_ErrSyntax), ("cubbyhole/entry.values", laid_cubbyhole_entry_values)], narrowed := true }
def EntryCostsUptoSaid : Prop := entryCostsUptoRow.holds Tryd.pinned (OpenSpec.upto entryCostsSpec)

/-- 'cubbyholelaw04.EntryMakes', WHERE WHAT IT READS IS OF BULK AT MOST 1048576: true; the input reads as it did. -/
def entryMakesUptoRow : OpenClaim := { program := "ytgdpfnmmhpcleaadoor", sum := "5f1ceb0a29523da1cf98e4bf3f5b17a1a8b262b36f021334c668a5f6d8d08258", func := "cubbyhole/cubbyholelaw04.EntryMakes", spec := "entryMakes", inPlace := ["internal/bytealg.IndexByteString", "internal/bytealg.IndexString"], unfollowed := true, recurses := true, named := ["internal/strconv.uint64pow10", "math/bits.deBruijn32tab", "math/bits.deBruijn64tab", "internal/bytealg.MaxLen", "strconv.ErrSyntax", "strconv.ErrRange", "cubbyhole/entry.values"], apart := false, laid := [("math/bits.deBruijn32tab", laid_math_bits_deBruijn32tab), ("math/bits.deBruijn64tab", laid_math_bits_deBruijn64tab), ("internal/strconv.uint64pow10", laid_internal_strconv_uint64pow10), ("strconv.ErrRange", laid_strconv_ErrRange), ("strconv.ErrSyntax", laid_strconv_ErrSyntax), ("cubbyhole/entry.values", laid_cubbyhole_entry_values)], narrowed := true }
def EntryMakesUptoSaid : Prop := entryMakesUptoRow.holds Tryd.pinned (OpenSpec.upto entryMakesSpec)

/-- 'cubbyholelaw04.EntryOrders', WHERE WHAT IT READS IS OF BULK AT MOST 1048576: true; the input reads as it did. -/
def entryOrdersUptoRow : OpenClaim := { program := "ytgdpfnmmhpcleaadoor", sum := "5f1ceb0a29523da1cf98e4bf3f5b17a1a8b262b36f021334c668a5f6d8d08258", func := "cubbyhole/cubbyholelaw04.EntryOrders", spec := "entryOrders", inPlace := ["internal/bytealg.IndexByteString", "internal/bytealg.IndexString"], unfollowed := true, recurses := true, named := ["internal/strconv.uint64pow10", "math/bits.deBruijn32tab", "math/bits.deBruijn64tab", "internal/bytealg.MaxLen", "strconv.ErrSyntax", "strconv.ErrRange", "cubbyhole/entry.values"], apart := false, laid := [("math/bits.deBruijn32tab", laid_math_bits_deBruijn32tab), ("math/bits.deBruijn64tab", laid_math_bits_deBruijn64tab), ("internal/strconv.uint64pow10", laid_internal_strconv_uint64pow10), ("strconv.ErrRange", laid_strconv_ErrRange), ("strconv.ErrSyntax", laid_strconv_ErrSyntax), ("cubbyhole/entry.values", laid_cubbyhole_entry_values)], narrowed := true }
def EntryOrdersUptoSaid : Prop := entryOrdersUptoRow.holds Tryd.pinned (OpenSpec.upto entryOrdersSpec)

/-- 'cubbyholelaw23.ConfigResizes', WHERE WHAT IT READS IS OF BULK AT MOST 1048576: true; the input reads as it did. -/
def configResizesUptoRow : OpenClaim := { program := "ytgdpfnmmhpcleaadoor", sum := "5f1ceb0a29523da1cf98e4bf3f5b17a1a8b262b36f021334c668a5f6d8d08258", func := "cubbyhole/cubbyholelaw23.ConfigResizes", spec := "configResizes", inPlace := ["internal/bytealg.IndexByteString", "internal/bytealg.IndexString"], named := ["cubbyhole/config.words", "internal/strconv.uint64pow10", "math/bits.deBruijn32tab", "math/bits.deBruijn64tab", "internal/bytealg.MaxLen", "strconv.ErrSyntax", "strconv.ErrRange"], apart := false, laid := [("math/bits.deBruijn32tab", laid_math_bits_deBruijn32tab), ("math/bits.deBruijn64tab", laid_math_bits_deBruijn64tab), ("internal/strconv.uint64pow10", laid_internal_strconv_uint64pow10), ("strconv.ErrRange", laid_strconv_ErrRange), ("strconv.ErrSyntax", laid_strconv_ErrSyntax), ("cubbyhole/config.words", laid_cubbyhole_config_words)], narrowed := true }
def ConfigResizesUptoSaid : Prop := configResizesUptoRow.holds Tryd.pinned (OpenSpec.upto configResizesSpec)

/-- 'cubbyholelaw23.ConfigChecks', WHERE WHAT IT READS IS OF BULK AT MOST 1048576: true; the input reads as it did. -/
def configChecksUptoRow : OpenClaim := { program := "ytgdpfnmmhpcleaadoor", sum := "5f1ceb0a29523da1cf98e4bf3f5b17a1a8b262b36f021334c668a5f6d8d08258", func := "cubbyhole/cubbyholelaw23.ConfigChecks", spec := "configChecks", inPlace := ["internal/bytealg.IndexByteString", "internal/bytealg.IndexString"], recurses := true, named := ["cubbyhole/config.words", "internal/strconv.uint64pow10", "math/bits.deBruijn32tab", "math/bits.deBruijn64tab", "internal/bytealg.MaxLen", "strconv.ErrSyntax", "strconv.ErrRange"], apart := false, laid := [("math/bits.deBruijn32tab", laid_math_bits_deBruijn32tab), ("math/bits.deBruijn64tab", laid_math_bits_deBruijn64tab), ("internal/strconv.uint64pow10", laid_internal_strconv_uint64pow10), ("strconv.ErrRange", laid_strconv_ErrRange), ("strconv.ErrSyntax", laid_strconv_ErrSyntax), ("cubbyhole/config.words", laid_cubbyhole_config_words)], narrowed := true }
def ConfigChecksUptoSaid : Prop := configChecksUptoRow.holds Tryd.pinned (OpenSpec.upto configChecksSpec)

/-- 'cubbyholelaw38.LoadNumbers', WHERE WHAT IT READS IS OF BULK AT MOST 1048576: true; the input reads as it did. -/
def loadNumbersUptoRow : OpenClaim := { program := "ytgdpfnmmhpcleaadoor", sum := "5f1ceb0a29523da1cf98e4bf3f5b17a1a8b262b36f021334c668a5f6d8d08258", func := "cubbyhole/cubbyholelaw38.LoadNumbers", spec := "loadNumbers", inPlace := ["internal/bytealg.IndexByteString", "internal/bytealg.IndexString"], unfollowed := true, recurses := true, named := ["cubbyhole/load.words", "internal/strconv.uint64pow10", "math/bits.deBruijn32tab", "math/bits.deBruijn64tab", "internal/bytealg.MaxLen", "strconv.ErrSyntax", "strconv.ErrRange"], apart := false, laid := [("math/bits.deBruijn32tab", laid_math_bits_deBruijn32tab), ("math/bits.deBruijn64tab", laid_math_bits_deBruijn64tab), ("internal/strconv.uint64pow10", laid_internal_strconv_uint64pow10), ("strconv.ErrRange", laid_strconv_ErrRange), ("strconv.ErrSyntax", laid_strconv_ErrSyntax), ("cubbyhole/load.words", laid_cubbyhole_load_words)], narrowed := true }
def LoadNumbersUptoSaid : Prop := loadNumbersUptoRow.holds Tryd.pinned (OpenSpec.upto loadNumbersSpec)

/-- 'cubbyholelaw52.ReportRatios', WHERE WHAT IT READS IS OF BULK AT MOST 1048576: true; the input reads as it did. -/
def reportRatiosUptoRow : OpenClaim := { program := "ytgdpfnmmhpcleaadoor", sum := "5f1ceb0a29523da1cf98e4bf3f5b17a1a8b262b36f021334c668a5f6d8d08258", func := "cubbyhole/cubbyholelaw52.ReportRatios", spec := "reportRatios", inPlace := ["internal/abi.NoEscape", "internal/bytealg.IndexByteString", "internal/bytealg.IndexString"], recurses := true, named := ["internal/strconv.uint64pow10", "math/bits.deBruijn32tab", "math/bits.deBruijn64tab", "cubbyhole/contest.words", "cubbyhole/report.complaints", "cubbyhole/event.words", "internal/bytealg.MaxLen", "strconv.ErrSyntax", "strconv.ErrRange"], apart := false, laid := [("math/bits.deBruijn32tab", laid_math_bits_deBruijn32tab), ("math/bits.deBruijn64tab", laid_math_bits_deBruijn64tab), ("internal/strconv.uint64pow10", laid_internal_strconv_uint64pow10), ("strconv.ErrRange", laid_strconv_ErrRange), ("strconv.ErrSyntax", laid_strconv_ErrSyntax), ("cubbyhole/event.words", laid_cubbyhole_event_words), ("cubbyhole/contest.words", laid_cubbyhole_contest_words), ("cubbyhole/report.complaints", laid_cubbyhole_report_complaints)], narrowed := true }
def ReportRatiosUptoSaid : Prop := reportRatiosUptoRow.holds Tryd.pinned (OpenSpec.upto reportRatiosSpec)

/-- 'cubbyholelaw03.TickHolds', WHERE WHAT IT READS IS OF BULK AT MOST 1048576: true; the input reads as it did. -/
def tickHoldsUptoRow : OpenClaim := { program := "ytgdpfnmmhpcleaadoor", sum := "5f1ceb0a29523da1cf98e4bf3f5b17a1a8b262b36f021334c668a5f6d8d08258", func := "cubbyhole/cubbyholelaw03.TickHolds", spec := "tickHolds", named := ["internal/strconv.uint64pow10", "math/bits.deBruijn32tab", "math/bits.deBruijn64tab", "strconv.ErrSyntax", "strconv.ErrRange"], apart := false, laid := [("math/bits.deBruijn32tab", laid_math_bits_deBruijn32tab), ("math/bits.deBruijn64tab", laid_math_bits_deBruijn64tab), ("internal/strconv.uint64pow10", laid_internal_strconv_uint64pow10), ("strconv.ErrRange", laid_strconv_ErrRange), ("strconv.ErrSyntax", laid_strconv_ErrSyntax)], narrowed := true }
def TickHoldsUptoSaid : Prop := tickHoldsUptoRow.holds Tryd.pinned (OpenSpec.upto tickHoldsSpec)

end Rows
end Go.Proofs.YtgdpfnmmhpcleaaDoor
