/-
  NARROWER THAN 'FOR EVERY INPUT', by the rows' own cells (each row's printed sentence says how): FnExactParseDictionary: laid · FnExactReadPresses: laid · FnExactKeysOfAll: laid · FnExactWordsBeginning: laid · FnExactNextKeysOf: laid · FnExactSureAfter: laid.
  DERIVED. THE GIVEN ROWS OF THIS SEAT. 6 by the template 'for every input the law returns true; each argument reads behind the call as it read before'; 0 by the template 'total and deterministic' (their statements: YtamjhhdggdfjiaaDoorTotals.lean).
  GIVEN WITH THE SEED: the statements are not yours to turn. If you find one false, say at which input.
  Laid BY PROGRAM, IN A SANDBOX (cutbox-rows.mjs): the forced cells as the released guide's own fill.sh prints them over the translation 9571c36854ad1a48… (all of the seat's roots in one cut). By AI agents, Wed Nov 11 2026. No macro, syntax, notation, axiom, sorry.
-/
import Derived.Test.YtamjhhdggdfjiaaDoorChecked
import GoSem.PinnedTables
import GoSem.Claim
import GoSem.ClaimJoined
import GoSem.ClaimMapViews
import Derived.JoinedTies
import Derived.KernelRfl
namespace Go.Proofs.YtamjhhdggdfjiaaDoor
/- THE CELL 'sum', in the pinned program and in every row, IS THE sha256 OF THE DUMP (.gsa) THAT YtamjhhdggdfjiaaDoorProg.lean LOADS. Nothing in Lean hashes anything: it is a label: what it is worth is what the hold of that sum in a sandbox is worth. -/
noncomputable def Tryd.pinned : Pinned := { name := "ytamjhhdggdfjiaadoor", sum := "9571c36854ad1a488f6bbee79a4b1d2619131a5e7da7e95c84ce6d70788b83a6", checked := Tryd.checked }
namespace Rows
def none {H : Type} : Left H := { results := [], args := [] }

/- WHAT THE LISTED PACKAGE-LEVEL VARIABLES READ AS WHEN THE CALL BEGINS. Each datum BY PROGRAM (the guide's laid-datum.mjs) off the statement by which the dump's own 'gosem.cut.vars' lays the variable. In a bare row this is a premise. The card (YtamjhhdggdfjiaaDoorCards.lean) ties it to the program's text. -/
def laid_unicode_utf8_acceptRanges {H : Type} : DataW H := .agg [.agg [.lit (.int .u8 128), .lit (.int .u8 191)], .agg [.lit (.int .u8 160), .lit (.int .u8 191)], .agg [.lit (.int .u8 128), .lit (.int .u8 159)], .agg [.lit (.int .u8 144), .lit (.int .u8 191)], .agg [.lit (.int .u8 128), .lit (.int .u8 143)], .agg [.lit (.int .u8 0), .lit (.int .u8 0)], .agg [.lit (.int .u8 0), .lit (.int .u8 0)], .agg [.lit (.int .u8 0), .lit (.int .u8 0)], .agg [.lit (.int .u8 0), .lit (.int .u8 0)], .agg [.lit (.int .u8 0), .lit (.int .u8 0)], .agg [.lit (.int .u8 0), .lit (.int .u8 0)], .agg [.lit (.int .u8 0), .lit (.int .u8 0)], .agg [.lit (.int .u8 0), .lit (.int .u8 0)], .agg [.lit (.int .u8 0), .lit (.int .u8 0)], .agg [.lit (.int .u8 0), .lit (.int .u8 0)], .agg [.lit (.int .u8 0), .lit (.int .u8 0)]]
/-- One of Go's own tables, pinned by name: the form's constant. -/
def laid_unicode_utf8_first : DataW Unit := Go.Pinned.utf8First
def laid_loop_example_g01350_impl_padKeys {H : Type} : DataW H := .agg [.agg [.lit (.int .u8 50), .lit (.string [97, 98, 99])], .agg [.lit (.int .u8 51), .lit (.string [100, 101, 102])], .agg [.lit (.int .u8 52), .lit (.string [103, 104, 105])], .agg [.lit (.int .u8 53), .lit (.string [106, 107, 108])], .agg [.lit (.int .u8 54), .lit (.string [109, 110, 111])], .agg [.lit (.int .u8 55), .lit (.string [112, 113, 114, 115])], .agg [.lit (.int .u8 56), .lit (.string [116, 117, 118])], .agg [.lit (.int .u8 57), .lit (.string [119, 120, 121, 122])]]

/-- 'laws.FnExactParseDictionary': WHATEVER THE INPUT: true; the input reads as it did. -/
def fnExactParseDictionarySpec : ChangeSpec := { name := "fnExactParseDictionary", fn := fun _ => fun
  | [d] => { results := [.lit (.bool true)], args := [d] }
  | _ => none }
def fnExactParseDictionaryRow : OpenClaim := { program := "ytamjhhdggdfjiaadoor", sum := "9571c36854ad1a488f6bbee79a4b1d2619131a5e7da7e95c84ce6d70788b83a6", func := "loop.example/g01350/laws.FnExactParseDictionary", spec := "fnExactParseDictionary", inPlace := ["internal/bytealg.CountString", "internal/bytealg.IndexByteString", "internal/bytealg.IndexString"], named := ["unicode/utf8.first", "unicode/utf8.acceptRanges", "internal/bytealg.MaxLen"], apart := false, laid := [("unicode/utf8.acceptRanges", laid_unicode_utf8_acceptRanges), ("unicode/utf8.first", laid_unicode_utf8_first)] }
def FnExactParseDictionarySaid : Prop := fnExactParseDictionaryRow.holds Tryd.pinned (OpenSpec.ofChange fnExactParseDictionarySpec)

/-- ITS FALSE NEIGHBOUR: 'it returns false'. Refute it at one input. -/
def fnExactParseDictionaryWrong : ChangeSpec := { name := "fnExactParseDictionary", fn := fun _ => fun
  | [d] => { results := [.lit (.bool false)], args := [d] }
  | _ => none }
def FnExactParseDictionaryWrongFalsely : Prop := fnExactParseDictionaryRow.holds Tryd.pinned (OpenSpec.ofChange fnExactParseDictionaryWrong)

/-- 'laws.FnExactReadPresses': WHATEVER THE INPUT: true; the input reads as it did. -/
def fnExactReadPressesSpec : ChangeSpec := { name := "fnExactReadPresses", vars := ["loop.example/g01350/impl.padKeys"], fn := fun _ => fun
  | [d, g1] => { results := [.lit (.bool true)], args := [d], vars := [g1] }
  | _ => none }
def fnExactReadPressesRow : OpenClaim := { program := "ytamjhhdggdfjiaadoor", sum := "9571c36854ad1a488f6bbee79a4b1d2619131a5e7da7e95c84ce6d70788b83a6", func := "loop.example/g01350/laws.FnExactReadPresses", spec := "fnExactReadPresses", inPlace := ["internal/bytealg.IndexByteString"], named := ["loop.example/g01350/impl.padKeys"], apart := false, laid := [("loop.example/g01350/impl.padKeys", laid_loop_example_g01350_impl_padKeys)] }
def FnExactReadPressesSaid : Prop := fnExactReadPressesRow.holds Tryd.pinned (OpenSpec.ofChange fnExactReadPressesSpec)

/-- ITS FALSE NEIGHBOUR: 'it returns false'. Refute it at one input. -/
def fnExactReadPressesWrong : ChangeSpec := { name := "fnExactReadPresses", vars := ["loop.example/g01350/impl.padKeys"], fn := fun _ => fun
  | [d, g1] => { results := [.lit (.bool false)], args := [d], vars := [g1] }
  | _ => none }
def FnExactReadPressesWrongFalsely : Prop := fnExactReadPressesRow.holds Tryd.pinned (OpenSpec.ofChange fnExactReadPressesWrong)

/-- 'laws.FnExactKeysOfAll': WHATEVER THE INPUT: true; the input reads as it did. -/
def fnExactKeysOfAllSpec : ChangeSpec := { name := "fnExactKeysOfAll", vars := ["loop.example/g01350/impl.padKeys"], fn := fun _ => fun
  | [d, g1] => { results := [.lit (.bool true)], args := [d], vars := [g1] }
  | _ => none }
def fnExactKeysOfAllRow : OpenClaim := { program := "ytamjhhdggdfjiaadoor", sum := "9571c36854ad1a488f6bbee79a4b1d2619131a5e7da7e95c84ce6d70788b83a6", func := "loop.example/g01350/laws.FnExactKeysOfAll", spec := "fnExactKeysOfAll", inPlace := ["internal/bytealg.IndexByteString"], unfollowed := true, recurses := true, named := ["loop.example/g01350/impl.padKeys"], apart := false, laid := [("loop.example/g01350/impl.padKeys", laid_loop_example_g01350_impl_padKeys)] }
def FnExactKeysOfAllSaid : Prop := fnExactKeysOfAllRow.holds Tryd.pinned (OpenSpec.ofChange fnExactKeysOfAllSpec)

/-- ITS FALSE NEIGHBOUR: 'it returns false'. Refute it at one input. -/
def fnExactKeysOfAllWrong : ChangeSpec := { name := "fnExactKeysOfAll", vars := ["loop.example/g01350/impl.padKeys"], fn := fun _ => fun
  | [d, g1] => { results := [.lit (.bool false)], args := [d], vars := [g1] }
  | _ => none }
def FnExactKeysOfAllWrongFalsely : Prop := fnExactKeysOfAllRow.holds Tryd.pinned (OpenSpec.ofChange fnExactKeysOfAllWrong)

/-- 'laws.FnExactWordsBeginning': WHATEVER THE INPUT: true; the input reads as it did. -/
def fnExactWordsBeginningSpec : ChangeSpec := { name := "fnExactWordsBeginning", vars := ["loop.example/g01350/impl.padKeys"], fn := fun _ => fun
  | [d1, d2, g1] => { results := [.lit (.bool true)], args := [d1, d2], vars := [g1] }
  | _ => none }
def fnExactWordsBeginningRow : OpenClaim := { program := "ytamjhhdggdfjiaadoor", sum := "9571c36854ad1a488f6bbee79a4b1d2619131a5e7da7e95c84ce6d70788b83a6", func := "loop.example/g01350/laws.FnExactWordsBeginning", spec := "fnExactWordsBeginning", inPlace := ["internal/bytealg.IndexByteString"], unfollowed := true, recurses := true, named := ["loop.example/g01350/impl.padKeys"], apart := false, laid := [("loop.example/g01350/impl.padKeys", laid_loop_example_g01350_impl_padKeys)] }
def FnExactWordsBeginningSaid : Prop := fnExactWordsBeginningRow.holds Tryd.pinned (OpenSpec.ofChange fnExactWordsBeginningSpec)

/-- ITS FALSE NEIGHBOUR: 'it returns false'. Refute it at one input. -/
def fnExactWordsBeginningWrong : ChangeSpec := { name := "fnExactWordsBeginning", vars := ["loop.example/g01350/impl.padKeys"], fn := fun _ => fun
  | [d1, d2, g1] => { results := [.lit (.bool false)], args := [d1, d2], vars := [g1] }
  | _ => none }
def FnExactWordsBeginningWrongFalsely : Prop := fnExactWordsBeginningRow.holds Tryd.pinned (OpenSpec.ofChange fnExactWordsBeginningWrong)

/-- 'laws.FnExactNextKeysOf': WHATEVER THE INPUT: true; the input reads as it did. -/
def fnExactNextKeysOfSpec : ChangeSpec := { name := "fnExactNextKeysOf", vars := ["loop.example/g01350/impl.padKeys"], fn := fun _ => fun
  | [d1, d2, g1] => { results := [.lit (.bool true)], args := [d1, d2], vars := [g1] }
  | _ => none }
def fnExactNextKeysOfRow : OpenClaim := { program := "ytamjhhdggdfjiaadoor", sum := "9571c36854ad1a488f6bbee79a4b1d2619131a5e7da7e95c84ce6d70788b83a6", func := "loop.example/g01350/laws.FnExactNextKeysOf", spec := "fnExactNextKeysOf", inPlace := ["internal/bytealg.IndexByteString"], unfollowed := true, recurses := true, named := ["loop.example/g01350/impl.padKeys"], apart := false, laid := [("loop.example/g01350/impl.padKeys", laid_loop_example_g01350_impl_padKeys)] }
def FnExactNextKeysOfSaid : Prop := fnExactNextKeysOfRow.holds Tryd.pinned (OpenSpec.ofChange fnExactNextKeysOfSpec)

/-- ITS FALSE NEIGHBOUR: 'it returns false'. Refute it at one input. -/
def fnExactNextKeysOfWrong : ChangeSpec := { name := "fnExactNextKeysOf", vars := ["loop.example/g01350/impl.padKeys"], fn := fun _ => fun
  | [d1, d2, g1] => { results := [.lit (.bool false)], args := [d1, d2], vars := [g1] }
  | _ => none }
def FnExactNextKeysOfWrongFalsely : Prop := fnExactNextKeysOfRow.holds Tryd.pinned (OpenSpec.ofChange fnExactNextKeysOfWrong)

/-- 'laws.FnExactSureAfter': WHATEVER THE INPUT: true; the input reads as it did. -/
def fnExactSureAfterSpec : ChangeSpec := { name := "fnExactSureAfter", vars := ["loop.example/g01350/impl.padKeys"], fn := fun _ => fun
  | [d1, d2, g1] => { results := [.lit (.bool true)], args := [d1, d2], vars := [g1] }
  | _ => none }
def fnExactSureAfterRow : OpenClaim := { program := "ytamjhhdggdfjiaadoor", sum := "9571c36854ad1a488f6bbee79a4b1d2619131a5e7da7e95c84ce6d70788b83a6", func := "loop.example/g01350/laws.FnExactSureAfter", spec := "fnExactSureAfter", inPlace := ["internal/bytealg.IndexByteString"], unfollowed := true, recurses := true, named := ["loop.example/g01350/impl.padKeys"], apart := false, laid := [("loop.example/g01350/impl.padKeys", laid_loop_example_g01350_impl_padKeys)] }
def FnExactSureAfterSaid : Prop := fnExactSureAfterRow.holds Tryd.pinned (OpenSpec.ofChange fnExactSureAfterSpec)

/-- ITS FALSE NEIGHBOUR: 'it returns false'. Refute it at one input. -/
def fnExactSureAfterWrong : ChangeSpec := { name := "fnExactSureAfter", vars := ["loop.example/g01350/impl.padKeys"], fn := fun _ => fun
  | [d1, d2, g1] => { results := [.lit (.bool false)], args := [d1, d2], vars := [g1] }
  | _ => none }
def FnExactSureAfterWrongFalsely : Prop := fnExactSureAfterRow.holds Tryd.pinned (OpenSpec.ofChange fnExactSureAfterWrong)

/- THE SECOND FORM. 'bulk': how many values and letters a reading holds, each counted each time it is reached (what is shared counts as often as it is met; a slice's spare places count too). A statement '..UptoSaid' is the law's where the arguments, and the package variables that the reading takes, are together of bulk at most 1048576: NARROWER than '..Said'. Prove '..Said' where nothing that the law and all that it calls make is longer than what came in: it says more and counts as full. Else prove '..UptoSaid'. A law counts once. -/
mutual
def uptoBulk {H : Type} : DataW H → Nat
  | .lit (.string bytes) => bytes.length + 1
  | .lit _ => 1
  | .nil => 1
  | .ptr d => uptoBulk d + 1
  | .slice elems spare => uptoBulkAll elems + uptoBulkAll spare + 1
  | .agg parts => uptoBulkAll parts + 1
  | .iface _ d => uptoBulk d + 1
  | .map entries => uptoBulkEntries entries + 1
  | .held _ => 1
def uptoBulkAll {H : Type} : List (DataW H) → Nat
  | [] => 0
  | d :: r => uptoBulk d + uptoBulkAll r
def uptoBulkEntries {H : Type} : List (Lit × DataW H) → Nat
  | [] => 0
  | x :: r => uptoBulkEntry x + uptoBulkEntries r
def uptoBulkEntry {H : Type} : Lit × DataW H → Nat
  | (.string bytes, d) => bytes.length + uptoBulk d + 1
  | (_, d) => uptoBulk d + 1
 end
def uptoSmall : (H : Type) → List (DataW H) → Bool := fun _ ds => decide (uptoBulkAll ds ≤ 1048576)
def OpenSpec.upto (s : _root_.Go.ChangeSpec) : _root_.Go.OpenSpec := { _root_.Go.OpenSpec.ofChange s with cond := some uptoSmall }

/-- 'laws.FnExactParseDictionary', WHERE WHAT IT READS IS OF BULK AT MOST 1048576: true; the input reads as it did. -/
def fnExactParseDictionaryUptoRow : OpenClaim := { program := "ytamjhhdggdfjiaadoor", sum := "9571c36854ad1a488f6bbee79a4b1d2619131a5e7da7e95c84ce6d70788b83a6", func := "loop.example/g01350/laws.FnExactParseDictionary", spec := "fnExactParseDictionary", inPlace := ["internal/bytealg.CountString", "internal/bytealg.IndexByteString", "internal/bytealg.IndexString"], named := ["unicode/utf8.first", "unicode/utf8.acceptRanges", "internal/bytealg.MaxLen"], apart := false, laid := [("unicode/utf8.acceptRanges", laid_unicode_utf8_acceptRanges), ("unicode/utf8.first", laid_unicode_utf8_first)], narrowed := true }
def FnExactParseDictionaryUptoSaid : Prop := fnExactParseDictionaryUptoRow.holds Tryd.pinned (OpenSpec.upto fnExactParseDictionarySpec)

/-- 'laws.FnExactReadPresses', WHERE WHAT IT READS IS OF BULK AT MOST 1048576: true; the input reads as it did. -/
def fnExactReadPressesUptoRow : OpenClaim := { program := "ytamjhhdggdfjiaadoor", sum := "9571c36854ad1a488f6bbee79a4b1d2619131a5e7da7e95c84ce6d70788b83a6", func := "loop.example/g01350/laws.FnExactReadPresses", spec := "fnExactReadPresses", inPlace := ["internal/bytealg.IndexByteString"], named := ["loop.example/g01350/impl.padKeys"], apart := false, laid := [("loop.example/g01350/impl.padKeys", laid_loop_example_g01350_impl_padKeys)], narrowed := true }
def FnExactReadPressesUptoSaid : Prop := fnExactReadPressesUptoRow.holds Tryd.pinned (OpenSpec.upto fnExactReadPressesSpec)

/-- 'laws.FnExactKeysOfAll', WHERE WHAT IT READS IS OF BULK AT MOST 1048576: true; the input reads as it did. -/
def fnExactKeysOfAllUptoRow : OpenClaim := { program := "ytamjhhdggdfjiaadoor", sum := "9571c36854ad1a488f6bbee79a4b1d2619131a5e7da7e95c84ce6d70788b83a6", func := "loop.example/g01350/laws.FnExactKeysOfAll", spec := "fnExactKeysOfAll", inPlace := ["internal/bytealg.IndexByteString"], unfollowed := true, recurses := true, named := ["loop.example/g01350/impl.padKeys"], apart := false, laid := [("loop.example/g01350/impl.padKeys", laid_loop_example_g01350_impl_padKeys)], narrowed := true }
def FnExactKeysOfAllUptoSaid : Prop := fnExactKeysOfAllUptoRow.holds Tryd.pinned (OpenSpec.upto fnExactKeysOfAllSpec)

/-- 'laws.FnExactWordsBeginning', WHERE WHAT IT READS IS OF BULK AT MOST 1048576: true; the input reads as it did. -/
def fnExactWordsBeginningUptoRow : OpenClaim := { program := "ytamjhhdggdfjiaadoor", sum := "9571c36854ad1a488f6bbee79a4b1d2619131a5e7da7e95c84ce6d70788b83a6", func := "loop.example/g01350/laws.FnExactWordsBeginning", spec := "fnExactWordsBeginning", inPlace := ["internal/bytealg.IndexByteString"], unfollowed := true, recurses := true, named := ["loop.example/g01350/impl.padKeys"], apart := false, laid := [("loop.example/g01350/impl.padKeys", laid_loop_example_g01350_impl_padKeys)], narrowed := true }
def FnExactWordsBeginningUptoSaid : Prop := fnExactWordsBeginningUptoRow.holds Tryd.pinned (OpenSpec.upto fnExactWordsBeginningSpec)

/-- 'laws.FnExactNextKeysOf', WHERE WHAT IT READS IS OF BULK AT MOST 1048576: true; the input reads as it did. -/
def fnExactNextKeysOfUptoRow : OpenClaim := { program := "ytamjhhdggdfjiaadoor", sum := "9571c36854ad1a488f6bbee79a4b1d2619131a5e7da7e95c84ce6d70788b83a6", func := "loop.example/g01350/laws.FnExactNextKeysOf", spec := "fnExactNextKeysOf", inPlace := ["internal/bytealg.IndexByteString"], unfollowed := true, recurses := true, named := ["loop.example/g01350/impl.padKeys"], apart := false, laid := [("loop.example/g01350/impl.padKeys", laid_loop_example_g01350_impl_padKeys)], narrowed := true }
def FnExactNextKeysOfUptoSaid : Prop := fnExactNextKeysOfUptoRow.holds Tryd.pinned (OpenSpec.upto fnExactNextKeysOfSpec)

/-- 'laws.FnExactSureAfter', WHERE WHAT IT READS IS OF BULK AT MOST 1048576: true; the input reads as it did. -/
def fnExactSureAfterUptoRow : OpenClaim := { program := "ytamjhhdggdfjiaadoor", sum := "9571c36854ad1a488f6bbee79a4b1d2619131a5e7da7e95c84ce6d70788b83a6", func := "loop.example/g01350/laws.FnExactSureAfter", spec := "fnExactSureAfter", inPlace := ["internal/bytealg.IndexByteString"], unfollowed := true, recurses := true, named := ["loop.example/g01350/impl.padKeys"], apart := false, laid := [("loop.example/g01350/impl.padKeys", laid_loop_example_g01350_impl_padKeys)], narrowed := true }
def FnExactSureAfterUptoSaid : Prop := fnExactSureAfterUptoRow.holds Tryd.pinned (OpenSpec.upto fnExactSureAfterSpec)

end Rows
end Go.Proofs.YtamjhhdggdfjiaaDoor
