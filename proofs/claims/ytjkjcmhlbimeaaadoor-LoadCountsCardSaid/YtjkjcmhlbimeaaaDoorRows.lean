/-
  NARROWER THAN 'FOR EVERY INPUT', by the rows' own cells (each row's printed sentence says how): LoadMakes: laid · LoadCounts: laid · LoadTexts: laid · LoadHolds: laid · ReportCounts: laid · ReportTexts: laid · ReportChecks: laid · ReportHolds: laid · TickTexts: laid.
  DERIVED. THE GIVEN ROWS OF THIS SEAT. 9 by the template 'for every input the law returns true; each argument reads behind the call as it read before'; 0 by the template 'total and deterministic' (their statements: YtjkjcmhlbimeaaaDoorTotals.lean).
  GIVEN WITH THE SEED: the statements are not yours to turn. If you find one false, say at which input.
  Laid BY PROGRAM, IN A SANDBOX (cutbox-rows.mjs): the forced cells as the released guide's own fill.sh prints them over the translation c348f1d9e9911204… (all of the seat's roots in one cut). By AI agents, Wed Nov 11 2026. No macro, syntax, notation, axiom, sorry.
-/
import Derived.Test.YtjkjcmhlbimeaaaDoorChecked
import GoSem.Claim
import GoSem.ClaimJoined
import GoSem.ClaimMapViews
import Derived.JoinedTies
import Derived.KernelRfl
namespace Go.Proofs.YtjkjcmhlbimeaaaDoor
/- THE CELL 'sum', in the pinned program and in every row, IS THE sha256 OF THE DUMP (.gsa) THAT YtjkjcmhlbimeaaaDoorProg.lean LOADS. Nothing in Lean hashes anything: it is a label: what it is worth is what the hold of that sum in a sandbox is worth. -/
noncomputable def Tryd.pinned : Pinned := { name := "ytjkjcmhlbimeaaadoor", sum := "c348f1d9e9911204e79153ecc82b2ec061490e7e2e54d393a44ec5244a8ec6df", checked := Tryd.checked }
namespace Rows
def none {H : Type} : Left H := { results := [], args := [] }

/- WHAT THE LISTED PACKAGE-LEVEL VARIABLES READ AS WHEN THE CALL BEGINS. Each datum BY PROGRAM (the guide's laid-datum.mjs) off the statement by which the dump's own 'gosem.cut.vars' lays the variable. In a bare row this is a premise. The card (YtjkjcmhlbimeaaaDoorCards.lean) ties it to the program's text. -/
def laid_math_bits_deBruijn32tab {H : Type} : DataW H := .agg [.lit (.int .u8 0), .lit (.int .u8 1), .lit (.int .u8 28), .lit (.int .u8 2), .lit (.int .u8 29), .lit (.int .u8 14), .lit (.int .u8 24), .lit (.int .u8 3), .lit (.int .u8 30), .lit (.int .u8 22), .lit (.int .u8 20), .lit (.int .u8 15), .lit (.int .u8 25), .lit (.int .u8 17), .lit (.int .u8 4), .lit (.int .u8 8), .lit (.int .u8 31), .lit (.int .u8 27), .lit (.int .u8 13), .lit (.int .u8 23), .lit (.int .u8 21), .lit (.int .u8 19), .lit (.int .u8 16), .lit (.int .u8 7), .lit (.int .u8 26), .lit (.int .u8 12), .lit (.int .u8 18), .lit (.int .u8 6), .lit (.int .u8 11), .lit (.int .u8 5), .lit (.int .u8 10), .lit (.int .u8 9)]
def laid_math_bits_deBruijn64tab {H : Type} : DataW H := .agg [.lit (.int .u8 0), .lit (.int .u8 1), .lit (.int .u8 56), .lit (.int .u8 2), .lit (.int .u8 57), .lit (.int .u8 49), .lit (.int .u8 28), .lit (.int .u8 3), .lit (.int .u8 61), .lit (.int .u8 58), .lit (.int .u8 42), .lit (.int .u8 50), .lit (.int .u8 38), .lit (.int .u8 29), .lit (.int .u8 17), .lit (.int .u8 4), .lit (.int .u8 62), .lit (.int .u8 47), .lit (.int .u8 59), .lit (.int .u8 36), .lit (.int .u8 45), .lit (.int .u8 43), .lit (.int .u8 51), .lit (.int .u8 22), .lit (.int .u8 53), .lit (.int .u8 39), .lit (.int .u8 33), .lit (.int .u8 30), .lit (.int .u8 24), .lit (.int .u8 18), .lit (.int .u8 12), .lit (.int .u8 5), .lit (.int .u8 63), .lit (.int .u8 55), .lit (.int .u8 48), .lit (.int .u8 27), .lit (.int .u8 60), .lit (.int .u8 41), .lit (.int .u8 37), .lit (.int .u8 16), .lit (.int .u8 46), .lit (.int .u8 35), .lit (.int .u8 44), .lit (.int .u8 21), .lit (.int .u8 52), .lit (.int .u8 32), .lit (.int .u8 23), .lit (.int .u8 11), .lit (.int .u8 54), .lit (.int .u8 26), .lit (.int .u8 40), .lit (.int .u8 15), .lit (.int .u8 34), .lit (.int .u8 20), .lit (.int .u8 31), .lit (.int .u8 10), .lit (.int .u8 25), .lit (.int .u8 14), .lit (.int .u8 19), .lit (.int .u8 9), .lit (.int .u8 13), .lit (.int .u8 8), .lit (.int .u8 7), .lit (.int .u8 6)]
def laid_internal_strconv_uint64pow10 {H : Type} : DataW H := .agg [.lit (.int .u64 1), .lit (.int .u64 10), .lit (.int .u64 100), .lit (.int .u64 1000), .lit (.int .u64 10000), .lit (.int .u64 100000), .lit (.int .u64 1000000), .lit (.int .u64 10000000), .lit (.int .u64 100000000), .lit (.int .u64 1000000000), .lit (.int .u64 10000000000), .lit (.int .u64 100000000000), .lit (.int .u64 1000000000000), .lit (.int .u64 10000000000000), .lit (.int .u64 100000000000000), .lit (.int .u64 1000000000000000), .lit (.int .u64 10000000000000000), .lit (.int .u64 100000000000000000), .lit (.int .u64 1000000000000000000), .lit (.int .u64 10000000000000000000)]
def laid_strconv_ErrRange {H : Type} : DataW H := .iface "*errors.errorString" (.ptr (.agg [.lit (.string [118, 97, 108, 117, 101, 32, 111, 117, 116, 32, 111, 102, 32, 114, 97, 110, 103, 101])]))
def laid_strconv_ErrSyntax {H : Type} : DataW H := .iface "*errors.errorString" (.ptr (.agg [.lit (.string [105, 110, 118, 97, 108, 105, 100, 32, 115, 121, 110, 116, 97, 120])]))
def laid_cubbyhole_load_words {H : Type} : DataW H := .agg [.lit (.string []), .lit (.string [108, 111, 111, 112]), .lit (.string [115, 99, 97, 110]), .lit (.string [101, 118, 101, 110]), .lit (.string [115, 107, 101, 119]), .lit (.string [112, 104, 97, 115, 101, 115]), .lit (.string [109, 105, 120, 101, 100])]
def laid_cubbyhole_event_words {H : Type} : DataW H := .agg [.lit (.string []), .lit (.string [101, 120, 112, 105, 114, 101, 100]), .lit (.string [101, 118, 105, 99, 116, 101, 100]), .lit (.string [114, 101, 112, 108, 97, 99, 101, 100]), .lit (.string [100, 101, 108, 101, 116, 101, 100]), .lit (.string [99, 108, 101, 97, 114, 101, 100])]
def laid_cubbyhole_contest_words {H : Type} : DataW H := .agg [.lit (.string []), .lit (.string [108, 114, 117]), .lit (.string [115, 101, 103, 109, 101, 110, 116]), .lit (.string [97, 114, 99]), .lit (.string [108, 102, 117]), .lit (.string [115, 101, 99, 111, 110, 100]), .lit (.string [116, 119, 111, 113]), .lit (.string [116, 105, 110, 121]), .lit (.string [98, 101, 115, 116])]
def laid_cubbyhole_report_complaints {H : Type} : DataW H := .agg [.lit (.string []), .lit (.string [116, 105, 109, 101]), .lit (.string [101, 118, 101, 110, 116]), .lit (.string [101, 120, 112, 105, 114, 121]), .lit (.string [118, 105, 99, 116, 105, 109]), .lit (.string [98, 117, 100, 103, 101, 116]), .lit (.string [114, 101, 97, 100]), .lit (.string [99, 117, 114, 115, 111, 114]), .lit (.string [101, 114, 114, 111, 114])]

/-- 'cubbyholelaw38.LoadMakes': WHATEVER THE INPUT: true; the input reads as it did. -/
def loadMakesSpec : ChangeSpec := { name := "loadMakes", fn := fun _ => fun
  | [d] => { results := [.lit (.bool true)], args := [d] }
  | _ => none }
def loadMakesRow : OpenClaim := { program := "ytjkjcmhlbimeaaadoor", sum := "c348f1d9e9911204e79153ecc82b2ec061490e7e2e54d393a44ec5244a8ec6df", func := "cubbyhole/cubbyholelaw38.LoadMakes", spec := "loadMakes", inPlace := ["internal/bytealg.IndexByteString", "internal/bytealg.IndexString"], unfollowed := true, recurses := true, named := ["cubbyhole/load.words", "internal/strconv.uint64pow10", "math/bits.deBruijn32tab", "math/bits.deBruijn64tab", "internal/bytealg.MaxLen", "strconv.ErrSyntax", "strconv.ErrRange"], apart := false, laid := [("math/bits.deBruijn32tab", laid_math_bits_deBruijn32tab), ("math/bits.deBruijn64tab", laid_math_bits_deBruijn64tab), ("internal/strconv.uint64pow10", laid_internal_strconv_uint64pow10), ("strconv.ErrRange", laid_strconv_ErrRange), ("strconv.ErrSyntax", laid_strconv_ErrSyntax), ("cubbyhole/load.words", laid_cubbyhole_load_words)] }
def LoadMakesSaid : Prop := loadMakesRow.holds Tryd.pinned (OpenSpec.ofChange loadMakesSpec)

/-- ITS FALSE NEIGHBOUR: 'it returns false'. Refute it at one input. -/
def loadMakesWrong : ChangeSpec := { name := "loadMakes", fn := fun _ => fun
  | [d] => { results := [.lit (.bool false)], args := [d] }
  | _ => none }
def LoadMakesWrongFalsely : Prop := loadMakesRow.holds Tryd.pinned (OpenSpec.ofChange loadMakesWrong)

/-- 'cubbyholelaw38.LoadCounts': WHATEVER THE INPUT: true; the input reads as it did. -/
def loadCountsSpec : ChangeSpec := { name := "loadCounts", fn := fun _ => fun
  | [d1, d2, d3] => { results := [.lit (.bool true)], args := [d1, d2, d3] }
  | _ => none }
def loadCountsRow : OpenClaim := { program := "ytjkjcmhlbimeaaadoor", sum := "c348f1d9e9911204e79153ecc82b2ec061490e7e2e54d393a44ec5244a8ec6df", func := "cubbyhole/cubbyholelaw38.LoadCounts", spec := "loadCounts", inPlace := ["internal/bytealg.IndexByteString", "internal/bytealg.IndexString"], unfollowed := true, recurses := true, named := ["cubbyhole/load.words", "internal/strconv.uint64pow10", "math/bits.deBruijn32tab", "math/bits.deBruijn64tab", "internal/bytealg.MaxLen", "strconv.ErrSyntax", "strconv.ErrRange"], apart := false, laid := [("math/bits.deBruijn32tab", laid_math_bits_deBruijn32tab), ("math/bits.deBruijn64tab", laid_math_bits_deBruijn64tab), ("internal/strconv.uint64pow10", laid_internal_strconv_uint64pow10), ("strconv.ErrRange", laid_strconv_ErrRange), ("strconv.ErrSyntax", laid_strconv_ErrSyntax), ("cubbyhole/load.words", laid_cubbyhole_load_words)] }
def LoadCountsSaid : Prop := loadCountsRow.holds Tryd.pinned (OpenSpec.ofChange loadCountsSpec)

/-- ITS FALSE NEIGHBOUR: 'it returns false'. Refute it at one input. -/
def loadCountsWrong : ChangeSpec := { name := "loadCounts", fn := fun _ => fun
  | [d1, d2, d3] => { results := [.lit (.bool false)], args := [d1, d2, d3] }
  | _ => none }
def LoadCountsWrongFalsely : Prop := loadCountsRow.holds Tryd.pinned (OpenSpec.ofChange loadCountsWrong)

/-- 'cubbyholelaw38.LoadTexts': WHATEVER THE INPUT: true; the input reads as it did. -/
def loadTextsSpec : ChangeSpec := { name := "loadTexts", fn := fun _ => fun
  | [d1, d2] => { results := [.lit (.bool true)], args := [d1, d2] }
  | _ => none }
def loadTextsRow : OpenClaim := { program := "ytjkjcmhlbimeaaadoor", sum := "c348f1d9e9911204e79153ecc82b2ec061490e7e2e54d393a44ec5244a8ec6df", func := "cubbyhole/cubbyholelaw38.LoadTexts", spec := "loadTexts", inPlace := ["internal/bytealg.IndexByteString", "internal/bytealg.IndexString"], unfollowed := true, recurses := true, named := ["cubbyhole/load.words", "internal/strconv.uint64pow10", "math/bits.deBruijn32tab", "math/bits.deBruijn64tab", "internal/bytealg.MaxLen", "strconv.ErrSyntax", "strconv.ErrRange"], apart := false, laid := [("math/bits.deBruijn32tab", laid_math_bits_deBruijn32tab), ("math/bits.deBruijn64tab", laid_math_bits_deBruijn64tab), ("internal/strconv.uint64pow10", laid_internal_strconv_uint64pow10), ("strconv.ErrRange", laid_strconv_ErrRange), ("strconv.ErrSyntax", laid_strconv_ErrSyntax), ("cubbyhole/load.words", laid_cubbyhole_load_words)] }
def LoadTextsSaid : Prop := loadTextsRow.holds Tryd.pinned (OpenSpec.ofChange loadTextsSpec)

/-- ITS FALSE NEIGHBOUR: 'it returns false'. Refute it at one input. -/
def loadTextsWrong : ChangeSpec := { name := "loadTexts", fn := fun _ => fun
  | [d1, d2] => { results := [.lit (.bool false)], args := [d1, d2] }
  | _ => none }
def LoadTextsWrongFalsely : Prop := loadTextsRow.holds Tryd.pinned (OpenSpec.ofChange loadTextsWrong)

/-- 'cubbyholelaw38.LoadHolds': WHATEVER THE INPUT: true; the input reads as it did. -/
def loadHoldsSpec : ChangeSpec := { name := "loadHolds", fn := fun _ => fun
  | [d1, d2] => { results := [.lit (.bool true)], args := [d1, d2] }
  | _ => none }
def loadHoldsRow : OpenClaim := { program := "ytjkjcmhlbimeaaadoor", sum := "c348f1d9e9911204e79153ecc82b2ec061490e7e2e54d393a44ec5244a8ec6df", func := "cubbyhole/cubbyholelaw38.LoadHolds", spec := "loadHolds", inPlace := ["internal/bytealg.IndexByteString", "internal/bytealg.IndexString"], unfollowed := true, recurses := true, named := ["cubbyhole/load.words", "internal/strconv.uint64pow10", "math/bits.deBruijn32tab", "math/bits.deBruijn64tab", "internal/bytealg.MaxLen", "strconv.ErrSyntax", "strconv.ErrRange"], apart := false, laid := [("math/bits.deBruijn32tab", laid_math_bits_deBruijn32tab), ("math/bits.deBruijn64tab", laid_math_bits_deBruijn64tab), ("internal/strconv.uint64pow10", laid_internal_strconv_uint64pow10), ("strconv.ErrRange", laid_strconv_ErrRange), ("strconv.ErrSyntax", laid_strconv_ErrSyntax), ("cubbyhole/load.words", laid_cubbyhole_load_words)] }
def LoadHoldsSaid : Prop := loadHoldsRow.holds Tryd.pinned (OpenSpec.ofChange loadHoldsSpec)

/-- ITS FALSE NEIGHBOUR: 'it returns false'. Refute it at one input. -/
def loadHoldsWrong : ChangeSpec := { name := "loadHolds", fn := fun _ => fun
  | [d1, d2] => { results := [.lit (.bool false)], args := [d1, d2] }
  | _ => none }
def LoadHoldsWrongFalsely : Prop := loadHoldsRow.holds Tryd.pinned (OpenSpec.ofChange loadHoldsWrong)

/-- 'cubbyholelaw52.ReportCounts': WHATEVER THE INPUT: true; the input reads as it did. -/
def reportCountsSpec : ChangeSpec := { name := "reportCounts", fn := fun _ => fun
  | [d1, d2] => { results := [.lit (.bool true)], args := [d1, d2] }
  | _ => none }
def reportCountsRow : OpenClaim := { program := "ytjkjcmhlbimeaaadoor", sum := "c348f1d9e9911204e79153ecc82b2ec061490e7e2e54d393a44ec5244a8ec6df", func := "cubbyhole/cubbyholelaw52.ReportCounts", spec := "reportCounts", inPlace := ["internal/abi.NoEscape", "internal/bytealg.IndexByteString", "internal/bytealg.IndexString"], recurses := true, named := ["internal/strconv.uint64pow10", "math/bits.deBruijn32tab", "math/bits.deBruijn64tab", "cubbyhole/contest.words", "cubbyhole/report.complaints", "cubbyhole/event.words", "internal/bytealg.MaxLen", "strconv.ErrSyntax", "strconv.ErrRange"], apart := false, laid := [("math/bits.deBruijn32tab", laid_math_bits_deBruijn32tab), ("math/bits.deBruijn64tab", laid_math_bits_deBruijn64tab), ("internal/strconv.uint64pow10", laid_internal_strconv_uint64pow10), ("strconv.ErrRange", laid_strconv_ErrRange), ("strconv.ErrSyntax", laid_strconv_ErrSyntax), ("cubbyhole/event.words", laid_cubbyhole_event_words), ("cubbyhole/contest.words", laid_cubbyhole_contest_words), ("cubbyhole/report.complaints", laid_cubbyhole_report_complaints)] }
def ReportCountsSaid : Prop := reportCountsRow.holds Tryd.pinned (OpenSpec.ofChange reportCountsSpec)

/-- ITS FALSE NEIGHBOUR: 'it returns false'. Refute it at one input. -/
def reportCountsWrong : ChangeSpec := { name := "reportCounts", fn := fun _ => fun
  | [d1, d2] => { results := [.lit (.bool false)], args := [d1, d2] }
  | _ => none }
def ReportCountsWrongFalsely : Prop := reportCountsRow.holds Tryd.pinned (OpenSpec.ofChange reportCountsWrong)

/-- 'cubbyholelaw52.ReportTexts': WHATEVER THE INPUT: true; the input reads as it did. -/
def reportTextsSpec : ChangeSpec := { name := "reportTexts", fn := fun _ => fun
  | [d1, d2] => { results := [.lit (.bool true)], args := [d1, d2] }
  | _ => none }
def reportTextsRow : OpenClaim := { program := "ytjkjcmhlbimeaaadoor", sum := "c348f1d9e9911204e79153ecc82b2ec061490e7e2e54d393a44ec5244a8ec6df", func := "cubbyhole/cubbyholelaw52.ReportTexts", spec := "reportTexts", inPlace := ["internal/abi.NoEscape", "internal/bytealg.IndexByteString", "internal/bytealg.IndexString"], recurses := true, named := ["internal/strconv.uint64pow10", "math/bits.deBruijn32tab", "math/bits.deBruijn64tab", "cubbyhole/contest.words", "cubbyhole/report.complaints", "cubbyhole/event.words", "internal/bytealg.MaxLen", "strconv.ErrSyntax", "strconv.ErrRange"], apart := false, laid := [("math/bits.deBruijn32tab", laid_math_bits_deBruijn32tab), ("math/bits.deBruijn64tab", laid_math_bits_deBruijn64tab), ("internal/strconv.uint64pow10", laid_internal_strconv_uint64pow10), ("strconv.ErrRange", laid_strconv_ErrRange), ("strconv.ErrSyntax", laid_strconv_ErrSyntax), ("cubbyhole/event.words", laid_cubbyhole_event_words), ("cubbyhole/contest.words", laid_cubbyhole_contest_words), ("cubbyhole/report.complaints", laid_cubbyhole_report_complaints)] }
def ReportTextsSaid : Prop := reportTextsRow.holds Tryd.pinned (OpenSpec.ofChange reportTextsSpec)

/-- ITS FALSE NEIGHBOUR: 'it returns false'. Refute it at one input. -/
def reportTextsWrong : ChangeSpec := { name := "reportTexts", fn := fun _ => fun
  | [d1, d2] => { results := [.lit (.bool false)], args := [d1, d2] }
  | _ => none }
def ReportTextsWrongFalsely : Prop := reportTextsRow.holds Tryd.pinned (OpenSpec.ofChange reportTextsWrong)

/-- 'cubbyholelaw52.ReportChecks': WHATEVER THE INPUT: true; the input reads as it did. -/
def reportChecksSpec : ChangeSpec := { name := "reportChecks", fn := fun _ => fun
  | [d] => { results := [.lit (.bool true)], args := [d] }
  | _ => none }
def reportChecksRow : OpenClaim := { program := "ytjkjcmhlbimeaaadoor", sum := "c348f1d9e9911204e79153ecc82b2ec061490e7e2e54d393a44ec5244a8ec6df", func := "cubbyhole/cubbyholelaw52.ReportChecks", spec := "reportChecks", inPlace := ["internal/abi.NoEscape", "internal/bytealg.IndexByteString", "internal/bytealg.IndexString"], recurses := true, named := ["cubbyhole/report.complaints", "internal/strconv.uint64pow10", "math/bits.deBruijn32tab", "math/bits.deBruijn64tab", "cubbyhole/contest.words", "cubbyhole/event.words", "internal/bytealg.MaxLen", "strconv.ErrSyntax", "strconv.ErrRange"], apart := false, laid := [("math/bits.deBruijn32tab", laid_math_bits_deBruijn32tab), ("math/bits.deBruijn64tab", laid_math_bits_deBruijn64tab), ("internal/strconv.uint64pow10", laid_internal_strconv_uint64pow10), ("strconv.ErrRange", laid_strconv_ErrRange), ("strconv.ErrSyntax", laid_strconv_ErrSyntax), ("cubbyhole/event.words", laid_cubbyhole_event_words), ("cubbyhole/contest.words", laid_cubbyhole_contest_words), ("cubbyhole/report.complaints", laid_cubbyhole_report_complaints)] }
def ReportChecksSaid : Prop := reportChecksRow.holds Tryd.pinned (OpenSpec.ofChange reportChecksSpec)

/-- ITS FALSE NEIGHBOUR: 'it returns false'. Refute it at one input. -/
def reportChecksWrong : ChangeSpec := { name := "reportChecks", fn := fun _ => fun
  | [d] => { results := [.lit (.bool false)], args := [d] }
  | _ => none }
def ReportChecksWrongFalsely : Prop := reportChecksRow.holds Tryd.pinned (OpenSpec.ofChange reportChecksWrong)

/-- 'cubbyholelaw52.ReportHolds': WHATEVER THE INPUT: true; the input reads as it did. -/
def reportHoldsSpec : ChangeSpec := { name := "reportHolds", fn := fun _ => fun
  | [d1, d2, d3, d4, d5] => { results := [.lit (.bool true)], args := [d1, d2, d3, d4, d5] }
  | _ => none }
def reportHoldsRow : OpenClaim := { program := "ytjkjcmhlbimeaaadoor", sum := "c348f1d9e9911204e79153ecc82b2ec061490e7e2e54d393a44ec5244a8ec6df", func := "cubbyhole/cubbyholelaw52.ReportHolds", spec := "reportHolds", inPlace := ["internal/abi.NoEscape", "internal/bytealg.IndexByteString", "internal/bytealg.IndexString"], recurses := true, named := ["internal/strconv.uint64pow10", "math/bits.deBruijn32tab", "math/bits.deBruijn64tab", "cubbyhole/contest.words", "cubbyhole/report.complaints", "cubbyhole/event.words", "internal/bytealg.MaxLen", "strconv.ErrSyntax", "strconv.ErrRange"], apart := false, laid := [("math/bits.deBruijn32tab", laid_math_bits_deBruijn32tab), ("math/bits.deBruijn64tab", laid_math_bits_deBruijn64tab), ("internal/strconv.uint64pow10", laid_internal_strconv_uint64pow10), ("strconv.ErrRange", laid_strconv_ErrRange), ("strconv.ErrSyntax", laid_strconv_ErrSyntax), ("cubbyhole/event.words", laid_cubbyhole_event_words), ("cubbyhole/contest.words", laid_cubbyhole_contest_words), ("cubbyhole/report.complaints", laid_cubbyhole_report_complaints)] }
def ReportHoldsSaid : Prop := reportHoldsRow.holds Tryd.pinned (OpenSpec.ofChange reportHoldsSpec)

/-- ITS FALSE NEIGHBOUR: 'it returns false'. Refute it at one input. -/
def reportHoldsWrong : ChangeSpec := { name := "reportHolds", fn := fun _ => fun
  | [d1, d2, d3, d4, d5] => { results := [.lit (.bool false)], args := [d1, d2, d3, d4, d5] }
  | _ => none }
def ReportHoldsWrongFalsely : Prop := reportHoldsRow.holds Tryd.pinned (OpenSpec.ofChange reportHoldsWrong)

/-- 'cubbyholelaw03.TickTexts': WHATEVER THE INPUT: true; the input reads as it did. -/
def tickTextsSpec : ChangeSpec := { name := "tickTexts", fn := fun _ => fun
  | [d1, d2] => { results := [.lit (.bool true)], args := [d1, d2] }
  | _ => none }
def tickTextsRow : OpenClaim := { program := "ytjkjcmhlbimeaaadoor", sum := "c348f1d9e9911204e79153ecc82b2ec061490e7e2e54d393a44ec5244a8ec6df", func := "cubbyhole/cubbyholelaw03.TickTexts", spec := "tickTexts", recurses := true, named := ["internal/strconv.uint64pow10", "math/bits.deBruijn32tab", "math/bits.deBruijn64tab", "strconv.ErrSyntax", "strconv.ErrRange"], apart := false, laid := [("math/bits.deBruijn32tab", laid_math_bits_deBruijn32tab), ("math/bits.deBruijn64tab", laid_math_bits_deBruijn64tab), ("internal/strconv.uint64pow10", laid_internal_strconv_uint64pow10), ("strconv.ErrRange", laid_strconv_ErrRange), ("strconv.ErrSyntax", laid_strconv_ErrSyntax)] }
def TickTextsSaid : Prop := tickTextsRow.holds Tryd.pinned (OpenSpec.ofChange tickTextsSpec)

/-- ITS FALSE NEIGHBOUR: 'it returns false'. Refute it at one input. -/
def tickTextsWrong : ChangeSpec := { name := "tickTexts", fn := fun _ => fun
  | [d1, d2] => { results := [.lit (.bool false)], args := [d1, d2] }
  | _ => none }
def TickTextsWrongFalsely : Prop := tickTextsRow.holds Tryd.pinned (OpenSpec.ofChange tickTextsWrong)

/- THE SECOND FORM. 'bulk': how many values and letters a reading holds, each counted each time it is reached (what is shared counts as often as it is met; a slice's spare places count too). A statement '..UptoSaid' is the law's where the arguments, and the package variables that the reading takes, are together of bulk at most 1048576: NARROWER than '..Said'. Prove '..Said' where nothing that the law and all that it calls make is longer than what came in: it says more and counts as full. Else prove '..UptoSaid'. A law counts once. -/
mutual
def uptoBulk {H : Type} : DataW H → Nat
  | .lit (.string bytes) => bytes.length + 1
  | .lit _ => 1
  | .nil => 1
  | .ptr d => uptoBulk d + 1
  | .slice elems spare => uptoBulkAll elems + uptoBulkAll spare + 1
  | .agg parts => uptoBulkAll parts + 1
  | .iface _ d => uptoBulk d + 1
  | .map entries => uptoBulkEntries entries + 1
  | .held _ => 1
def uptoBulkAll {H : Type} : List (DataW H) → Nat
  | [] => 0
  | d :: r => uptoBulk d + uptoBulkAll r
def uptoBulkEntries {H : Type} : List (Lit × DataW H) → Nat
  | [] => 0
  | x :: r => uptoBulkEntry x + uptoBulkEntries r
def uptoBulkEntry {H : Type} : Lit × DataW H → Nat
  | (.string bytes, d) => bytes.length + uptoBulk d + 1
  | (_, d) => uptoBulk d + 1
 end
def uptoSmall : (H : Type) → List (DataW H) → Bool := fun _ ds => decide (uptoBulkAll ds ≤ 1048576)
def OpenSpec.upto (s : _root_.Go.ChangeSpec) : _root_.Go.OpenSpec := { _root_.Go.OpenSpec.ofChange s with cond := some uptoSmall }

/-- 'cubbyholelaw38.LoadMakes', WHERE WHAT IT READS IS OF BULK AT MOST 1048576: true; the input reads as it did. -/
def loadMakesUptoRow : OpenClaim := { program := "ytjkjcmhlbimeaaadoor", sum := "c348f1d9e9911204e79153ecc82b2ec061490e7e2e54d393a44ec5244a8ec6df", func := "cubbyhole/cubbyholelaw38.LoadMakes", spec := "loadMakes", inPlace := ["internal/bytealg.IndexByteString", "internal/bytealg.IndexString"], unfollowed := true, recurses := true, named := ["cubbyhole/load.words", "internal/strconv.uint64pow10", "math/bits.deBruijn32tab", "math/bits.deBruijn64tab", "internal/bytealg.MaxLen", "strconv.ErrSyntax", "strconv.ErrRange"], apart := false, laid := [("math/bits.deBruijn32tab", laid_math_bits_deBruijn32tab), ("math/bits.deBruijn64tab", laid_math_bits_deBruijn64tab), ("internal/strconv.uint64pow10", laid_internal_strconv_uint64pow10), ("strconv.ErrRange", laid_strconv_ErrRange), ("strconv.ErrSyntax", laid_strconv_ErrSyntax), ("cubbyhole/load.words", laid_cubbyhole_load_words)], narrowed := true }
def LoadMakesUptoSaid : Prop := loadMakesUptoRow.holds Tryd.pinned (OpenSpec.upto loadMakesSpec)

/-- 'cubbyholelaw38.LoadCounts', WHERE WHAT IT READS IS OF BULK AT MOST 1048576: true; the input reads as it did. -/
def loadCountsUptoRow : OpenClaim := { program := "ytjkjcmhlbimeaaadoor", sum := "c348f1d9e9911204e79153ecc82b2ec061490e7e2e54d393a44ec5244a8ec6df", func := "cubbyhole/cubbyholelaw38.LoadCounts", spec := "loadCounts", inPlace := ["internal/bytealg.IndexByteString", "internal/bytealg.IndexString"], unfollowed := true, recurses := true, named := ["cubbyhole/load.words", "internal/strconv.uint64pow10", "math/bits.deBruijn32tab", "math/bits.deBruijn64tab", "internal/bytealg.MaxLen", "strconv.ErrSyntax", "strconv.ErrRange"], apart := false, laid := [("math/bits.deBruijn32tab", laid_math_bits_deBruijn32tab), ("math/bits.deBruijn64tab", laid_math_bits_deBruijn64tab), ("internal/strconv.uint64pow10", laid_internal_strconv_uint64pow10), ("strconv.ErrRange", laid_strconv_ErrRange), ("strconv.ErrSyntax", laid_strconv_ErrSyntax), ("cubbyhole/load.words", laid_cubbyhole_load_words)], narrowed := true }
def LoadCountsUptoSaid : Prop := loadCountsUptoRow.holds Tryd.pinned (OpenSpec.upto loadCountsSpec)

/-- 'cubbyholelaw38.LoadTexts', WHERE WHAT IT READS IS OF BULK AT MOST 1048576: true; the input reads as it did. -/
def loadTextsUptoRow : OpenClaim := { program := "ytjkjcmhlbimeaaadoor", sum := "c348f1d9e9911204e79153ecc82b2ec061490e7e2e54d393a44ec5244a8ec6df", func := "cubbyhole/cubbyholelaw38.LoadTexts", spec := "loadTexts", inPlace := ["internal/bytealg.IndexByteString", "internal/bytealg.IndexString"], unfollowed := true, recurses := true, named := ["cubbyhole/load.words", "internal/strconv.uint64pow10", "math/bits.deBruijn32tab", "math/bits.deBruijn64tab", "internal/bytealg.MaxLen", "strconv.ErrSyntax", "strconv.ErrRange"], apart := false, laid := [("math/bits.deBruijn32tab", laid_math_bits_deBruijn32tab), ("math/bits.deBruijn64tab", laid_math_bits_deBruijn64tab), ("internal/strconv.uint64pow10", laid_internal_strconv_uint64pow10), ("strconv.ErrRange", laid_strconv_ErrRange), ("strconv.ErrSyntax", laid_strconv_ErrSyntax), ("cubbyhole/load.words", laid_cubbyhole_load_words)], narrowed := true }
def LoadTextsUptoSaid : Prop := loadTextsUptoRow.holds Tryd.pinned (OpenSpec.upto loadTextsSpec)

/-- 'cubbyholelaw38.LoadHolds', WHERE WHAT IT READS IS OF BULK AT MOST 1048576: true; the input reads as it did. -/
def loadHoldsUptoRow : OpenClaim := { program := "ytjkjcmhlbimeaaadoor", sum := "c348f1d9e9911204e79153ecc82b2ec061490e7e2e54d393a44ec5244a8ec6df", func := "cubbyhole/cubbyholelaw38.LoadHolds", spec := "loadHolds", inPlace := ["internal/bytealg.IndexByteString", "internal/bytealg.IndexString"], unfollowed := true, recurses := true, named := ["cubbyhole/load.words", "internal/strconv.uint64pow10", "math/bits.deBruijn32tab", "math/bits.deBruijn64tab", "internal/bytealg.MaxLen", "strconv.ErrSyntax", "strconv.ErrRange"], apart := false, laid := [("math/bits.deBruijn32tab", laid_math_bits_deBruijn32tab), ("math/bits.deBruijn64tab", laid_math_bits_deBruijn64tab), ("internal/strconv.uint64pow10", laid_internal_strconv_uint64pow10), ("strconv.ErrRange", laid_strconv_ErrRange), ("strconv.ErrSyntax", laid_strconv_ErrSyntax), ("cubbyhole/load.words", laid_cubbyhole_load_words)], narrowed := true }
def LoadHoldsUptoSaid : Prop := loadHoldsUptoRow.holds Tryd.pinned (OpenSpec.upto loadHoldsSpec)

/-- 'cubbyholelaw52.ReportCounts', WHERE WHAT IT READS IS OF BULK AT MOST 1048576: true; the input reads as it did. -/
def reportCountsUptoRow : OpenClaim := { program := "ytjkjcmhlbimeaaadoor", sum := "c348f1d9e9911204e79153ecc82b2ec061490e7e2e54d393a44ec5244a8ec6df", func := "cubbyhole/cubbyholelaw52.ReportCounts", spec := "reportCounts", inPlace := ["internal/abi.NoEscape", "internal/bytealg.IndexByteString", "internal/bytealg.IndexString"], recurses := true, named := ["internal/strconv.uint64pow10", "math/bits.deBruijn32tab", "math/bits.deBruijn64tab", "cubbyhole/contest.words", "cubbyhole/report.complaints", "cubbyhole/event.words", "internal/bytealg.MaxLen", "strconv.ErrSyntax", "strconv.ErrRange"], apart := false, laid := [("math/bits.deBruijn32tab", laid_math_bits_deBruijn32tab), ("math/bits.deBruijn64tab", laid_math_bits_deBruijn64tab), ("internal/strconv.uint64pow10", laid_internal_strconv_uint64pow10), ("strconv.ErrRange", laid_strconv_ErrRange), ("strconv.ErrSyntax", laid_strconv_ErrSyntax), ("cubbyhole/event.words", laid_cubbyhole_event_words), ("cubbyhole/contest.words", laid_cubbyhole_contest_words), ("cubbyhole/report.complaints", laid_cubbyhole_report_complaints)], narrowed := true }
def ReportCountsUptoSaid : Prop := reportCountsUptoRow.holds Tryd.pinned (OpenSpec.upto reportCountsSpec)

/-- 'cubbyholelaw52.ReportTexts', WHERE WHAT IT READS IS OF BULK AT MOST 1048576: true; the input reads as it did. -/
def reportTextsUptoRow : OpenClaim := { program := "ytjkjcmhlbimeaaadoor", sum := "c348f1d9e9911204e79153ecc82b2ec061490e7e2e54d393a44ec5244a8ec6df", func := "cubbyhole/cubbyholelaw52.ReportTexts", spec := "reportTexts", inPlace := ["internal/abi.NoEscape", "internal/bytealg.IndexByteString", "internal/bytealg.IndexString"], recurses := true, named := ["internal/strconv.uint64pow10", "math/bits.deBruijn32tab", "math/bits.deBruijn64tab", "cubbyhole/contest.words", "cubbyhole/report.complaints", "cubbyhole/event.words", "internal/bytealg.MaxLen", "strconv.ErrSyntax", "strconv.ErrRange"], apart := false, laid := [("math/bits.deBruijn32tab", laid_math_bits_deBruijn32tab), ("math/bits.deBruijn64tab", laid_math_bits_deBruijn64tab), ("internal/strconv.uint64pow10", laid_internal_strconv_uint64pow10), ("strconv.ErrRange", laid_strconv_ErrRange), ("strconv.ErrSyntax", laid_strconv_ErrSyntax), ("cubbyhole/event.words", laid_cubbyhole_event_words), ("cubbyhole/contest.words", laid_cubbyhole_contest_words), ("cubbyhole/report.complaints", laid_cubbyhole_report_complaints)], narrowed := true }
def ReportTextsUptoSaid : Prop := reportTextsUptoRow.holds Tryd.pinned (OpenSpec.upto reportTextsSpec)

/-- 'cubbyholelaw52.ReportChecks', WHERE WHAT IT READS IS OF BULK AT MOST 1048576: true; the input reads as it did. -/
def reportChecksUptoRow : OpenClaim := { program := "ytjkjcmhlbimeaaadoor", sum := "c348f1d9e9911204e79153ecc82b2ec061490e7e2e54d393a44ec5244a8ec6df", func := "cubbyhole/cubbyholelaw52.ReportChecks", spec := "reportChecks", inPlace := ["internal/abi.NoEscape", "internal/bytealg.IndexByteString", "internal/bytealg.IndexString"], recurses := true, named := ["cubbyhole/report.complaints", "internal/strconv.uint64pow10", "math/bits.deBruijn32tab", "math/bits.deBruijn64tab", "cubbyhole/contest.words", "cubbyhole/event.words", "internal/bytealg.MaxLen", "strconv.ErrSyntax", "strconv.ErrRange"], apart := false, laid := [("math/bits.deBruijn32tab", laid_math_bits_deBruijn32tab), ("math/bits.deBruijn64tab", laid_math_bits_deBruijn64tab), ("internal/strconv.uint64pow10", laid_internal_strconv_uint64pow10), ("strconv.ErrRange", laid_strconv_ErrRange), ("strconv.ErrSyntax", laid_strconv_ErrSyntax), ("cubbyhole/event.words", laid_cubbyhole_event_words), ("cubbyhole/contest.words", laid_cubbyhole_contest_words), ("cubbyhole/report.complaints", laid_cubbyhole_report_complaints)], narrowed := true }
def ReportChecksUptoSaid : Prop := reportChecksUptoRow.holds Tryd.pinned (OpenSpec.upto reportChecksSpec)

/-- 'cubbyholelaw52.ReportHolds', WHERE WHAT IT READS IS OF BULK AT MOST 1048576: true; the input reads as it did. -/
def reportHoldsUptoRow : OpenClaim := { program := "ytjkjcmhlbimeaaadoor", sum := "c348f1d9e9911204e79153ecc82b2ec061490e7e2e54d393a44ec5244a8ec6df", func := "cubbyhole/cubbyholelaw52.ReportHolds", spec := "reportHolds", inPlace := ["internal/abi.NoEscape", "internal/bytealg.IndexByteString", "internal/bytealg.IndexString"], recurses := true, named := ["internal/strconv.uint64pow10", "math/bits.deBruijn32tab", "math/bits.deBruijn64tab", "cubbyhole/contest.words", "cubbyhole/report.complaints", "cubbyhole/event.words", "internal/bytealg.MaxLen", "strconv.ErrSyntax", "strconv.ErrRange"], apart := false, laid := [("math/bits.deBruijn32tab", laid_math_bits_deBruijn32tab), ("math/bits.deBruijn64tab", laid_math_bits_deBruijn64tab), ("internal/strconv.uint64pow10", laid_internal_strconv_uint64pow10), ("strconv.ErrRange", laid_strconv_ErrRange), ("strconv.ErrSyntax", laid_strconv_ErrSyntax), ("cubbyhole/event.words", laid_cubbyhole_event_words), ("cubbyhole/contest.words", laid_cubbyhole_contest_words), ("cubbyhole/report.complaints", laid_cubbyhole_report_complaints)], narrowed := true }
def ReportHoldsUptoSaid : Prop := reportHoldsUptoRow.holds Tryd.pinned (OpenSpec.upto reportHoldsSpec)

/-- 'cubbyholelaw03.TickTexts', WHERE WHAT IT READS IS OF BULK AT MOST 1048576: true; the input reads as it did. -/
def tickTextsUptoRow : OpenClaim := { program := "ytjkjcmhlbimeaaadoor", sum := "c348f1d9e9911204e79153ecc82b2ec061490e7e2e54d393a44ec5244a8ec6df", func := "cubbyhole/cubbyholelaw03.TickTexts", spec := "tickTexts", recurses := true, named := ["internal/strconv.uint64pow10", "math/bits.deBruijn32tab", "math/bits.deBruijn64tab", "strconv.ErrSyntax", "strconv.ErrRange"], apart := false, laid := [("math/bits.deBruijn32tab", laid_math_bits_deBruijn32tab), ("math/bits.deBruijn64tab", laid_math_bits_deBruijn64tab), ("internal/strconv.uint64pow10", laid_internal_strconv_uint64pow10), ("strconv.ErrRange", laid_strconv_ErrRange), ("strconv.ErrSyntax", laid_strconv_ErrSyntax)], narrowed := true }
def TickTextsUptoSaid : Prop := tickTextsUptoRow.holds Tryd.pinned (OpenSpec.upto tickTextsSpec)

end Rows
end Go.Proofs.YtjkjcmhlbimeaaaDoor
