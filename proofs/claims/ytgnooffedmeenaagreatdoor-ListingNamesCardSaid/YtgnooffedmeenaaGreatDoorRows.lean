/-
  NARROWER THAN 'FOR EVERY INPUT', by the rows' own cells (each row's printed sentence says how): ListingTexts: laid · ListingPlaces: laid · ListingNames: laid · ListingBack: laid · ListingOne: laid · ListingLabels: laid.
  DERIVED. THE GIVEN ROWS OF THIS SEAT. 6 by the template 'for every input the law returns true; each argument reads behind the call as it read before'; 0 by the template 'total and deterministic' (their statements: YtgnooffedmeenaaGreatDoorTotals.lean).
  GIVEN WITH THE SEED: the statements are not yours to turn. If you find one false, say at which input.
  Laid BY PROGRAM, IN A SANDBOX (cutbox-rows.mjs): the forced cells as the released guide's own fill.sh prints them over the translation d7f8430864a9818a… (all of the seat's roots in one cut). By AI agents, Wed Nov 11 2026. No macro, syntax, notation, axiom, sorry.
-/
import Derived.Test.YtgnooffedmeenaaGreatDoorChecked
import GoSem.PinnedTables
import GoSem.Claim
import GoSem.ClaimJoined
import GoSem.ClaimMapViews
import Derived.JoinedTies
import Derived.KernelRfl
namespace Go.Proofs.YtgnooffedmeenaaGreatDoor
/- THE CELL 'sum', in the pinned program and in every row, IS THE sha256 OF THE DUMP (.gsa) THAT YtgnooffedmeenaaGreatDoorProg.lean LOADS. Nothing in Lean hashes anything: it is a label: what it is worth is what the hold of that sum in a sandbox is worth. -/
noncomputable def Tryz.pinned : Pinned := { name := "ytgnooffedmeenaagreatdoor", sum := "d7f8430864a9818acd0d97c557de47ce18103656ff82102cea882ba0005f2d99", checked := Tryz.checked }
namespace Rows
def none {H : Type} : Left H := { results := [], args := [] }

/- WHAT THE LISTED PACKAGE-LEVEL VARIABLES READ AS WHEN THE CALL BEGINS. Each datum BY PROGRAM (the guide's laid-datum.mjs) off the statement by which the dump's own 'gosem.cut.vars' lays the variable. In a bare row this is a premise. The card (YtgnooffedmeenaaGreatDoorCards.lean) ties it to the program's text. -/
def laid_backstay_alu_binNames {H : Type} : DataW H := .agg [.lit (.string [97, 100, 100]), .lit (.string [115, 117, 98]), .lit (.string [109, 117, 108]), .lit (.string [100, 105, 118]), .lit (.string [114, 101, 109]), .lit (.string [97, 110, 100]), .lit (.string [111, 114]), .lit (.string [120, 111, 114]), .lit (.string [97, 110, 100, 110, 111, 116]), .lit (.string [115, 104, 108]), .lit (.string [115, 104, 114]), .lit (.string [108, 116]), .lit (.string [108, 101]), .lit (.string [101, 113])]
def laid_backstay_alu_unNames {H : Type} : DataW H := .agg [.lit (.string [110, 101, 103]), .lit (.string [110, 111, 116]), .lit (.string [122, 101, 114, 111]), .lit (.string [105, 56]), .lit (.string [105, 49, 54]), .lit (.string [105, 51, 50]), .lit (.string [117, 56]), .lit (.string [117, 49, 54]), .lit (.string [117, 51, 50])]
def laid_math_bits_deBruijn32tab {H : Type} : DataW H := .agg [.lit (.int .u8 0), .lit (.int .u8 1), .lit (.int .u8 28), .lit (.int .u8 2), .lit (.int .u8 29), .lit (.int .u8 14), .lit (.int .u8 24), .lit (.int .u8 3), .lit (.int .u8 30), .lit (.int .u8 22), .lit (.int .u8 20), .lit (.int .u8 15), .lit (.int .u8 25), .lit (.int .u8 17), .lit (.int .u8 4), .lit (.int .u8 8), .lit (.int .u8 31), .lit (.int .u8 27), .lit (.int .u8 13), .lit (.int .u8 23), .lit (.int .u8 21), .lit (.int .u8 19), .lit (.int .u8 16), .lit (.int .u8 7), .lit (.int .u8 26), .lit (.int .u8 12), .lit (.int .u8 18), .lit (.int .u8 6), .lit (.int .u8 11), .lit (.int .u8 5), .lit (.int .u8 10), .lit (.int .u8 9)]
def laid_math_bits_deBruijn64tab {H : Type} : DataW H := .agg [.lit (.int .u8 0), .lit (.int .u8 1), .lit (.int .u8 56), .lit (.int .u8 2), .lit (.int .u8 57), .lit (.int .u8 49), .lit (.int .u8 28), .lit (.int .u8 3), .lit (.int .u8 61), .lit (.int .u8 58), .lit (.int .u8 42), .lit (.int .u8 50), .lit (.int .u8 38), .lit (.int .u8 29), .lit (.int .u8 17), .lit (.int .u8 4), .lit (.int .u8 62), .lit (.int .u8 47), .lit (.int .u8 59), .lit (.int .u8 36), .lit (.int .u8 45), .lit (.int .u8 43), .lit (.int .u8 51), .lit (.int .u8 22), .lit (.int .u8 53), .lit (.int .u8 39), .lit (.int .u8 33), .lit (.int .u8 30), .lit (.int .u8 24), .lit (.int .u8 18), .lit (.int .u8 12), .lit (.int .u8 5), .lit (.int .u8 63), .lit (.int .u8 55), .lit (.int .u8 48), .lit (.int .u8 27), .lit (.int .u8 60), .lit (.int .u8 41), .lit (.int .u8 37), .lit (.int .u8 16), .lit (.int .u8 46), .lit (.int .u8 35), .lit (.int .u8 44), .lit (.int .u8 21), .lit (.int .u8 52), .lit (.int .u8 32), .lit (.int .u8 23), .lit (.int .u8 11), .lit (.int .u8 54), .lit (.int .u8 26), .lit (.int .u8 40), .lit (.int .u8 15), .lit (.int .u8 34), .lit (.int .u8 20), .lit (.int .u8 31), .lit (.int .u8 10), .lit (.int .u8 25), .lit (.int .u8 14), .lit (.int .u8 19), .lit (.int .u8 9), .lit (.int .u8 13), .lit (.int .u8 8), .lit (.int .u8 7), .lit (.int .u8 6)]
def laid_internal_strconv_uint64pow10 {H : Type} : DataW H := .agg [.lit (.int .u64 1), .lit (.int .u64 10), .lit (.int .u64 100), .lit (.int .u64 1000), .lit (.int .u64 10000), .lit (.int .u64 100000), .lit (.int .u64 1000000), .lit (.int .u64 10000000), .lit (.int .u64 100000000), .lit (.int .u64 1000000000), .lit (.int .u64 10000000000), .lit (.int .u64 100000000000), .lit (.int .u64 1000000000000), .lit (.int .u64 10000000000000), .lit (.int .u64 100000000000000), .lit (.int .u64 1000000000000000), .lit (.int .u64 10000000000000000), .lit (.int .u64 100000000000000000), .lit (.int .u64 1000000000000000000), .lit (.int .u64 10000000000000000000)]
def laid_strconv_ErrRange {H : Type} : DataW H := .iface "*errors.errorString" (.ptr (.agg [.lit (.string [118, 97, 108, 117, 101, 32, 111, 117, 116, 32, 111, 102, 32, 114, 97, 110, 103, 101])]))
def laid_strconv_ErrSyntax {H : Type} : DataW H := .iface "*errors.errorString" (.ptr (.agg [.lit (.string [105, 110, 118, 97, 108, 105, 100, 32, 115, 121, 110, 116, 97, 120])]))
def laid_backstay_value_letters {H : Type} : DataW H := .agg [.lit (.int .i32 0), .lit (.int .i32 73), .lit (.int .i32 82), .lit (.int .i32 70), .lit (.int .i32 80)]
def laid_unicode_utf8_acceptRanges {H : Type} : DataW H := .agg [.agg [.lit (.int .u8 128), .lit (.int .u8 191)], .agg [.lit (.int .u8 160), .lit (.int .u8 191)], .agg [.lit (.int .u8 128), .lit (.int .u8 159)], .agg [.lit (.int .u8 144), .lit (.int .u8 191)], .agg [.lit (.int .u8 128), .lit (.int .u8 143)], .agg [.lit (.int .u8 0), .lit (.int .u8 0)], .agg [.lit (.int .u8 0), .lit (.int .u8 0)], .agg [.lit (.int .u8 0), .lit (.int .u8 0)], .agg [.lit (.int .u8 0), .lit (.int .u8 0)], .agg [.lit (.int .u8 0), .lit (.int .u8 0)], .agg [.lit (.int .u8 0), .lit (.int .u8 0)], .agg [.lit (.int .u8 0), .lit (.int .u8 0)], .agg [.lit (.int .u8 0), .lit (.int .u8 0)], .agg [.lit (.int .u8 0), .lit (.int .u8 0)], .agg [.lit (.int .u8 0), .lit (.int .u8 0)], .agg [.lit (.int .u8 0), .lit (.int .u8 0)]]
/-- One of Go's own tables, pinned by name: the form's constant. -/
def laid_unicode_utf8_first : DataW Unit := Go.Pinned.utf8First

/-- 'backstaylaw10.ListingTexts': WHATEVER THE INPUT: true; the input reads as it did. -/
def listingTextsSpec : ChangeSpec := { name := "listingTexts", fn := fun _ => fun
  | [d] => { results := [.lit (.bool true)], args := [d] }
  | _ => none }
def listingTextsRow : OpenClaim := { program := "ytgnooffedmeenaagreatdoor", sum := "d7f8430864a9818acd0d97c557de47ce18103656ff82102cea882ba0005f2d99", func := "backstay/backstaylaw10.ListingTexts", spec := "listingTexts", inPlace := ["internal/abi.NoEscape"], unfollowed := true, recurses := true, named := ["internal/strconv.uint64pow10", "math/bits.deBruijn32tab", "math/bits.deBruijn64tab", "strconv.ErrSyntax", "strconv.ErrRange", "backstay/value.letters", "backstay/alu.binNames", "backstay/alu.unNames"], plainKeys := false, apart := false, laid := [("backstay/alu.binNames", laid_backstay_alu_binNames), ("backstay/alu.unNames", laid_backstay_alu_unNames), ("math/bits.deBruijn32tab", laid_math_bits_deBruijn32tab), ("math/bits.deBruijn64tab", laid_math_bits_deBruijn64tab), ("internal/strconv.uint64pow10", laid_internal_strconv_uint64pow10), ("strconv.ErrRange", laid_strconv_ErrRange), ("strconv.ErrSyntax", laid_strconv_ErrSyntax), ("backstay/value.letters", laid_backstay_value_letters)] }
def ListingTextsSaid : Prop := listingTextsRow.holds Tryz.pinned (OpenSpec.ofChange listingTextsSpec)

/-- ITS FALSE NEIGHBOUR: 'it returns false'. Refute it at one input. -/
def listingTextsWrong : ChangeSpec := { name := "listingTexts", fn := fun _ => fun
  | [d] => { results := [.lit (.bool false)], args := [d] }
  | _ => none }
def ListingTextsWrongFalsely : Prop := listingTextsRow.holds Tryz.pinned (OpenSpec.ofChange listingTextsWrong)

/-- 'backstaylaw10.ListingPlaces': WHATEVER THE INPUT: true; the input reads as it did. -/
def listingPlacesSpec : ChangeSpec := { name := "listingPlaces", fn := fun _ => fun
  | [d1, d2, d3, d4, d5] => { results := [.lit (.bool true)], args := [d1, d2, d3, d4, d5] }
  | _ => none }
def listingPlacesRow : OpenClaim := { program := "ytgnooffedmeenaagreatdoor", sum := "d7f8430864a9818acd0d97c557de47ce18103656ff82102cea882ba0005f2d99", func := "backstay/backstaylaw10.ListingPlaces", spec := "listingPlaces", unfollowed := true, recurses := true, named := ["internal/strconv.uint64pow10", "math/bits.deBruijn32tab", "math/bits.deBruijn64tab", "strconv.ErrSyntax", "strconv.ErrRange", "backstay/value.letters", "backstay/alu.binNames", "backstay/alu.unNames"], plainKeys := false, apart := false, laid := [("backstay/alu.binNames", laid_backstay_alu_binNames), ("backstay/alu.unNames", laid_backstay_alu_unNames), ("math/bits.deBruijn32tab", laid_math_bits_deBruijn32tab), ("math/bits.deBruijn64tab", laid_math_bits_deBruijn64tab), ("internal/strconv.uint64pow10", laid_internal_strconv_uint64pow10), ("strconv.ErrRange", laid_strconv_ErrRange), ("strconv.ErrSyntax", laid_strconv_ErrSyntax), ("backstay/value.letters", laid_backstay_value_letters)] }
def ListingPlacesSaid : Prop := listingPlacesRow.holds Tryz.pinned (OpenSpec.ofChange listingPlacesSpec)

/-- ITS FALSE NEIGHBOUR: 'it returns false'. Refute it at one input. -/
def listingPlacesWrong : ChangeSpec := { name := "listingPlaces", fn := fun _ => fun
  | [d1, d2, d3, d4, d5] => { results := [.lit (.bool false)], args := [d1, d2, d3, d4, d5] }
  | _ => none }
def ListingPlacesWrongFalsely : Prop := listingPlacesRow.holds Tryz.pinned (OpenSpec.ofChange listingPlacesWrong)

/-- 'backstaylaw10.ListingNames': WHATEVER THE INPUT: true; the input reads as it did. -/
def listingNamesSpec : ChangeSpec := { name := "listingNames", fn := fun _ => fun
  | [] => { results := [.lit (.bool true)], args := [] }
  | _ => none }
def listingNamesRow : OpenClaim := { program := "ytgnooffedmeenaagreatdoor", sum := "d7f8430864a9818acd0d97c557de47ce18103656ff82102cea882ba0005f2d99", func := "backstay/backstaylaw10.ListingNames", spec := "listingNames", inPlace := ["internal/abi.NoEscape"], unfollowed := true, recurses := true, named := ["internal/strconv.uint64pow10", "math/bits.deBruijn32tab", "math/bits.deBruijn64tab", "strconv.ErrSyntax", "strconv.ErrRange", "backstay/value.letters", "backstay/alu.binNames", "backstay/alu.unNames"], plainKeys := false, apart := false, laid := [("backstay/alu.binNames", laid_backstay_alu_binNames), ("backstay/alu.unNames", laid_backstay_alu_unNames), ("math/bits.deBruijn32tab", laid_math_bits_deBruijn32tab), ("math/bits.deBruijn64tab", laid_math_bits_deBruijn64tab), ("internal/strconv.uint64pow10", laid_internal_strconv_uint64pow10), ("strconv.ErrRange", laid_strconv_ErrRange), ("strconv.ErrSyntax", laid_strconv_ErrSyntax), ("backstay/value.letters", laid_backstay_value_letters)] }
def ListingNamesSaid : Prop := listingNamesRow.holds Tryz.pinned (OpenSpec.ofChange listingNamesSpec)

/-- ITS FALSE NEIGHBOUR: 'it returns false'. Refute it at one input. -/
def listingNamesWrong : ChangeSpec := { name := "listingNames", fn := fun _ => fun
  | [] => { results := [.lit (.bool false)], args := [] }
  | _ => none }
def ListingNamesWrongFalsely : Prop := listingNamesRow.holds Tryz.pinned (OpenSpec.ofChange listingNamesWrong)

/-- 'backstaylaw10.ListingBack': WHATEVER THE INPUT: true; the input reads as it did. -/
def listingBackSpec : ChangeSpec := { name := "listingBack", fn := fun _ => fun
  | [d] => { results := [.lit (.bool true)], args := [d] }
  | _ => none }
def listingBackRow : OpenClaim := { program := "ytgnooffedmeenaagreatdoor", sum := "d7f8430864a9818acd0d97c557de47ce18103656ff82102cea882ba0005f2d99", func := "backstay/backstaylaw10.ListingBack", spec := "listingBack", inPlace := ["internal/abi.NoEscape", "internal/bytealg.MakeNoZero", "internal/bytealg.IndexByteString", "internal/bytealg.IndexString"], unfollowed := true, recurses := true, named := ["internal/strconv.uint64pow10", "math/bits.deBruijn32tab", "math/bits.deBruijn64tab", "strconv.ErrSyntax", "strconv.ErrRange", "backstay/value.letters", "backstay/alu.binNames", "backstay/alu.unNames", "internal/bytealg.MaxLen"], plainKeys := false, apart := false, laid := [("backstay/alu.binNames", laid_backstay_alu_binNames), ("backstay/alu.unNames", laid_backstay_alu_unNames), ("math/bits.deBruijn32tab", laid_math_bits_deBruijn32tab), ("math/bits.deBruijn64tab", laid_math_bits_deBruijn64tab), ("internal/strconv.uint64pow10", laid_internal_strconv_uint64pow10), ("strconv.ErrRange", laid_strconv_ErrRange), ("strconv.ErrSyntax", laid_strconv_ErrSyntax), ("backstay/value.letters", laid_backstay_value_letters)] }
def ListingBackSaid : Prop := listingBackRow.holds Tryz.pinned (OpenSpec.ofChange listingBackSpec)

/-- ITS FALSE NEIGHBOUR: 'it returns false'. Refute it at one input. -/
def listingBackWrong : ChangeSpec := { name := "listingBack", fn := fun _ => fun
  | [d] => { results := [.lit (.bool false)], args := [d] }
  | _ => none }
def ListingBackWrongFalsely : Prop := listingBackRow.holds Tryz.pinned (OpenSpec.ofChange listingBackWrong)

/-- 'backstaylaw10.ListingOne': WHATEVER THE INPUT: true; the input reads as it did. -/
def listingOneSpec : ChangeSpec := { name := "listingOne", fn := fun _ => fun
  | [d] => { results := [.lit (.bool true)], args := [d] }
  | _ => none }
def listingOneRow : OpenClaim := { program := "ytgnooffedmeenaagreatdoor", sum := "d7f8430864a9818acd0d97c557de47ce18103656ff82102cea882ba0005f2d99", func := "backstay/backstaylaw10.ListingOne", spec := "listingOne", inPlace := ["internal/abi.NoEscape", "internal/bytealg.CountString", "internal/bytealg.IndexByteString", "internal/bytealg.IndexString"], unfollowed := true, recurses := true, named := ["internal/strconv.uint64pow10", "math/bits.deBruijn32tab", "math/bits.deBruijn64tab", "strconv.ErrSyntax", "strconv.ErrRange", "backstay/value.letters", "backstay/alu.binNames", "backstay/alu.unNames", "unicode/utf8.first", "unicode/utf8.acceptRanges", "internal/bytealg.MaxLen"], plainKeys := false, apart := false, laid := [("backstay/alu.binNames", laid_backstay_alu_binNames), ("backstay/alu.unNames", laid_backstay_alu_unNames), ("math/bits.deBruijn32tab", laid_math_bits_deBruijn32tab), ("math/bits.deBruijn64tab", laid_math_bits_deBruijn64tab), ("internal/strconv.uint64pow10", laid_internal_strconv_uint64pow10), ("unicode/utf8.acceptRanges", laid_unicode_utf8_acceptRanges), ("strconv.ErrRange", laid_strconv_ErrRange), ("strconv.ErrSyntax", laid_strconv_ErrSyntax), ("backstay/value.letters", laid_backstay_value_letters), ("unicode/utf8.first", laid_unicode_utf8_first)] }
def ListingOneSaid : Prop := listingOneRow.holds Tryz.pinned (OpenSpec.ofChange listingOneSpec)

/-- ITS FALSE NEIGHBOUR: 'it returns false'. Refute it at one input. -/
def listingOneWrong : ChangeSpec := { name := "listingOne", fn := fun _ => fun
  | [d] => { results := [.lit (.bool false)], args := [d] }
  | _ => none }
def ListingOneWrongFalsely : Prop := listingOneRow.holds Tryz.pinned (OpenSpec.ofChange listingOneWrong)

/-- 'backstaylaw10.ListingLabels': WHATEVER THE INPUT: true; the input reads as it did. -/
def listingLabelsSpec : ChangeSpec := { name := "listingLabels", fn := fun _ => fun
  | [d] => { results := [.lit (.bool true)], args := [d] }
  | _ => none }
def listingLabelsRow : OpenClaim := { program := "ytgnooffedmeenaagreatdoor", sum := "d7f8430864a9818acd0d97c557de47ce18103656ff82102cea882ba0005f2d99", func := "backstay/backstaylaw10.ListingLabels", spec := "listingLabels", inPlace := ["internal/abi.NoEscape", "internal/bytealg.MakeNoZero", "internal/bytealg.IndexByteString", "internal/bytealg.IndexString", "internal/bytealg.CountString"], unfollowed := true, recurses := true, named := ["internal/strconv.uint64pow10", "math/bits.deBruijn32tab", "math/bits.deBruijn64tab", "strconv.ErrSyntax", "strconv.ErrRange", "backstay/value.letters", "backstay/alu.binNames", "backstay/alu.unNames", "internal/bytealg.MaxLen"], plainKeys := false, apart := false, laid := [("backstay/alu.binNames", laid_backstay_alu_binNames), ("backstay/alu.unNames", laid_backstay_alu_unNames), ("math/bits.deBruijn32tab", laid_math_bits_deBruijn32tab), ("math/bits.deBruijn64tab", laid_math_bits_deBruijn64tab), ("internal/strconv.uint64pow10", laid_internal_strconv_uint64pow10), ("strconv.ErrRange", laid_strconv_ErrRange), ("strconv.ErrSyntax", laid_strconv_ErrSyntax), ("backstay/value.letters", laid_backstay_value_letters)] }
def ListingLabelsSaid : Prop := listingLabelsRow.holds Tryz.pinned (OpenSpec.ofChange listingLabelsSpec)

/-- ITS FALSE NEIGHBOUR: 'it returns false'. Refute it at one input. -/
def listingLabelsWrong : ChangeSpec := { name := "listingLabels", fn := fun _ => fun
  | [d] => { results := [.lit (.bool false)], args := [d] }
  | _ => none }
def ListingLabelsWrongFalsely : Prop := listingLabelsRow.holds Tryz.pinned (OpenSpec.ofChange listingLabelsWrong)

/- THE SECOND FORM. 'bulk': how many values and letters a reading holds, each counted each time it is reached (what is shared counts as often as it is met; a slice's spare places count too). A statement '..UptoSaid' is the law's where the arguments, and the package variables that the reading takes, are together of bulk at most 1048576: NARROWER than '..Said'. Prove '..Said' where nothing that the law and all that it calls make is longer than what came in: it says more and counts as full. Else prove '..UptoSaid'. A law counts once. -/
mutual
def uptoBulk {H : Type} : DataW H → Nat
  | .lit (.string bytes) => bytes.length + 1
  | .lit _ => 1
  | .nil => 1
  | .ptr d => uptoBulk d + 1
  | .slice elems spare => uptoBulkAll elems + uptoBulkAll spare + 1
  | .agg parts => uptoBulkAll parts + 1
  | .iface _ d => uptoBulk d + 1
  | .map entries => uptoBulkEntries entries + 1
  | .held _ => 1
def uptoBulkAll {H : Type} : List (DataW H) → Nat
  | [] => 0
  | d :: r => uptoBulk d + uptoBulkAll r
def uptoBulkEntries {H : Type} : List (Lit × DataW H) → Nat
  | [] => 0
  | x :: r => uptoBulkEntry x + uptoBulkEntries r
def uptoBulkEntry {H : Type} : Lit × DataW H → Nat
  | (.string bytes, d) => bytes.length + uptoBulk d + 1
  | (_, d) => uptoBulk d + 1
 end
def uptoSmall : (H : Type) → List (DataW H) → Bool := fun _ ds => decide (uptoBulkAll ds ≤ 1048576)
def OpenSpec.upto (s : _root_.Go.ChangeSpec) : _root_.Go.OpenSpec := { _root_.Go.OpenSpec.ofChange s with cond := some uptoSmall }

/-- 'backstaylaw10.ListingTexts', WHERE WHAT IT READS IS OF BULK AT MOST 1048576: true; the input reads as it did. -/
def listingTextsUptoRow : OpenClaim := { program := "ytgnooffedmeenaagreatdoor", sum := "d7f8430864a9818acd0d97c557de47ce18103656ff82102cea882ba0005f2d99", func := "backstay/backstaylaw10.ListingTexts", spec := "listingTexts", inPlace := ["internal/abi.NoEscape"], unfollowed := true, recurses := true, named := ["internal/strconv.uint64pow10", "math/bits.deBruijn32tab", "math/bits.deBruijn64tab", "strconv.ErrSyntax", "strconv.ErrRange", "backstay/value.letters", "backstay/alu.binNames", "backstay/alu.unNames"], plainKeys := false, apart := false, laid := [("backstay/alu.binNames", laid_backstay_alu_binNames), ("backstay/alu.unNames", laid_backstay_alu_unNames), ("math/bits.deBruijn32tab", laid_math_bits_deBruijn32tab), ("math/bits.deBruijn64tab", laid_math_bits_deBruijn64tab), ("internal/strconv.uint64pow10", laid_internal_strconv_uint64pow10), ("strconv.ErrRange", laid_strconv_ErrRange), ("strconv.ErrSyntax", laid_strconv_ErrSyntax), ("backstay/value.letters", laid_backstay_value_letters)], narrowed := true }
def ListingTextsUptoSaid : Prop := listingTextsUptoRow.holds Tryz.pinned (OpenSpec.upto listingTextsSpec)

/-- 'backstaylaw10.ListingPlaces', WHERE WHAT IT READS IS OF BULK AT MOST 1048576: true; the input reads as it did. -/
def listingPlacesUptoRow : OpenClaim := { program := "ytgnooffedmeenaagreatdoor", sum := "d7f8430864a9818acd0d97c557de47ce18103656ff82102cea882ba0005f2d99", func := "backstay/backstaylaw10.ListingPlaces", spec := "listingPlaces", unfollowed := true, recurses := true, named := ["internal/strconv.uint64pow10", "math/bits.deBruijn32tab", "math/bits.deBruijn64tab", "strconv.ErrSyntax", "strconv.ErrRange", "backstay/value.letters", "backstay/alu.binNames", "backstay/alu.unNames"], plainKeys := false, apart := false, laid := [("backstay/alu.binNames", laid_backstay_alu_binNames), ("backstay/alu.unNames", laid_backstay_alu_unNames), ("math/bits.deBruijn32tab", laid_math_bits_deBruijn32tab), ("math/bits.deBruijn64tab", laid_math_bits_deBruijn64tab), ("internal/strconv.uint64pow10", laid_internal_strconv_uint64pow10), ("strconv.ErrRange", laid_strconv_ErrRange), ("strconv.ErrSyntax", laid_strconv_ErrSyntax), ("backstay/value.letters", laid_backstay_value_letters)], narrowed := true }
def ListingPlacesUptoSaid : Prop := listingPlacesUptoRow.holds Tryz.pinned (OpenSpec.upto listingPlacesSpec)

/-- 'backstaylaw10.ListingNames', WHERE WHAT IT READS IS OF BULK AT MOST 1048576: true; the input reads as it did. -/
def listingNamesUptoRow : OpenClaim := { program := "ytgnooffedmeenaagreatdoor", sum := "d7f8430864a9818acd0d97c557de47ce18103656ff82102cea882ba0005f2d99", func := "backstay/backstaylaw10.ListingNames", spec := "listingNames", inPlace := ["internal/abi.NoEscape"], unfollowed := true, recurses := true, named := ["internal/strconv.uint64pow10", "math/bits.deBruijn32tab", "math/bits.deBruijn64tab", "strconv.ErrSyntax", "strconv.ErrRange", "backstay/value.letters", "backstay/alu.binNames", "backstay/alu.unNames"], plainKeys := false, apart := false, laid := [("backstay/alu.binNames", laid_backstay_alu_binNames), ("backstay/alu.unNames", laid_backstay_alu_unNames), ("math/bits.deBruijn32tab", laid_math_bits_deBruijn32tab), ("math/bits.deBruijn64tab", laid_math_bits_deBruijn64tab), ("internal/strconv.uint64pow10", laid_internal_strconv_uint64pow10), ("strconv.ErrRange", laid_strconv_ErrRange), ("strconv.ErrSyntax", laid_strconv_ErrSyntax), ("backstay/value.letters", laid_backstay_value_letters)], narrowed := true }
def ListingNamesUptoSaid : Prop := listingNamesUptoRow.holds Tryz.pinned (OpenSpec.upto listingNamesSpec)

/-- 'backstaylaw10.ListingBack', WHERE WHAT IT READS IS OF BULK AT MOST 1048576: true; the input reads as it did. -/
def listingBackUptoRow : OpenClaim := { program := "ytgnooffedmeenaagreatdoor", sum := "d7f8430864a9818acd0d97c557de47ce18103656ff82102cea882ba0005f2d99", func := "backstay/backstaylaw10.ListingBack", spec := "listingBack", inPlace := ["internal/abi.NoEscape", "internal/bytealg.MakeNoZero", "internal/bytealg.IndexByteString", "internal/bytealg.IndexString"], unfollowed := true, recurses := true, named := ["internal/strconv.uint64pow10", "math/bits.deBruijn32tab", "math/bits.deBruijn64tab", "strconv.ErrSyntax", "strconv.ErrRange", "backstay/value.letters", "backstay/alu.binNames", "backstay/alu.unNames", "internal/bytealg.MaxLen"], plainKeys := false, apart := false, laid := [("backstay/alu.binNames", laid_backstay_alu_binNames), ("backstay/alu.unNames", laid_backstay_alu_unNames), ("math/bits.deBruijn32tab", laid_math_bits_deBruijn32tab), ("math/bits.deBruijn64tab", laid_math_bits_deBruijn64tab), ("internal/strconv.uint64pow10", laid_internal_strconv_uint64pow10), ("strconv.ErrRange", laid_strconv_ErrRange), ("strconv.ErrSyntax", laid_strconv_ErrSyntax), ("backstay/value.letters", laid_backstay_value_letters)], narrowed := true }
def ListingBackUptoSaid : Prop := listingBackUptoRow.holds Tryz.pinned (OpenSpec.upto listingBackSpec)

/-- 'backstaylaw10.ListingOne', WHERE WHAT IT READS IS OF BULK AT MOST 1048576: true; the input reads as it did. -/
def listingOneUptoRow : OpenClaim := { program := "ytgnooffedmeenaagreatdoor", sum := "d7f8430864a9818acd0d97c557de47ce18103656ff82102cea882ba0005f2d99", func := "backstay/backstaylaw10.ListingOne", spec := "listingOne", inPlace := ["internal/abi.NoEscape", "internal/bytealg.CountString", "internal/bytealg.IndexByteString", "internal/bytealg.IndexString"], unfollowed := true, recurses := true, named := ["internal/strconv.uint64pow10", "math/bits.deBruijn32tab", "math/bits.deBruijn64tab", "strconv.ErrSyntax", "strconv.ErrRange", "backstay/value.letters", "backstay/alu.binNames", "backstay/alu.unNames", "unicode/utf8.first", "unicode/utf8.acceptRanges", "internal/bytealg.MaxLen"], plainKeys := false, apart := false, laid := [("backstay/alu.binNames", laid_backstay_alu_binNames), ("backstay/alu.unNames", laid_backstay_alu_unNames), ("math/bits.deBruijn32tab", laid_math_bits_deBruijn32tab), ("math/bits.deBruijn64tab", laid_math_bits_deBruijn64tab), ("internal/strconv.uint64pow10", laid_internal_strconv_uint64pow10), ("unicode/utf8.acceptRanges", laid_unicode_utf8_acceptRanges), ("strconv.ErrRange", laid_strconv_ErrRange), ("strconv.ErrSyntax", laid_strconv_ErrSyntax), ("backstay/value.letters", laid_backstay_value_letters), ("unicode/utf8.first", laid_unicode_utf8_first)], narrowed := true }
def ListingOneUptoSaid : Prop := listingOneUptoRow.holds Tryz.pinned (OpenSpec.upto listingOneSpec)

/-- 'backstaylaw10.ListingLabels', WHERE WHAT IT READS IS OF BULK AT MOST 1048576: true; the input reads as it did. -/
def listingLabelsUptoRow : OpenClaim := { program := "ytgnooffedmeenaagreatdoor", sum := "d7f8430864a9818acd0d97c557de47ce18103656ff82102cea882ba0005f2d99", func := "backstay/backstaylaw10.ListingLabels", spec := "listingLabels", inPlace := ["internal/abi.NoEscape", "internal/bytealg.MakeNoZero", "internal/bytealg.IndexByteString", "internal/bytealg.IndexString", "internal/bytealg.CountString"], unfollowed := true, recurses := true, named := ["internal/strconv.uint64pow10", "math/bits.deBruijn32tab", "math/bits.deBruijn64tab", "strconv.ErrSyntax", "strconv.ErrRange", "backstay/value.letters", "backstay/alu.binNames", "backstay/alu.unNames", "internal/bytealg.MaxLen"], plainKeys := false, apart := false, laid := [("backstay/alu.binNames", laid_backstay_alu_binNames), ("backstay/alu.unNames", laid_backstay_alu_unNames), ("math/bits.deBruijn32tab", laid_math_bits_deBruijn32tab), ("math/bits.deBruijn64tab", laid_math_bits_deBruijn64tab), ("internal/strconv.uint64pow10", laid_internal_strconv_uint64pow10), ("strconv.ErrRange", laid_strconv_ErrRange), ("strconv.ErrSyntax", laid_strconv_ErrSyntax), ("backstay/value.letters", laid_backstay_value_letters)], narrowed := true }
def ListingLabelsUptoSaid : Prop := listingLabelsUptoRow.holds Tryz.pinned (OpenSpec.upto listingLabelsSpec)

end Rows
end Go.Proofs.YtgnooffedmeenaaGreatDoor
