/-
  NARROWER THAN 'FOR EVERY INPUT', by the rows' own cells (each row's printed sentence says how): FnExactKeysOfAll: laid · FnExactNextKeysOf: laid · FnExactParseDictionary: laid · FnExactFewestWords: laid · FnExactFirstFewest: laid · FnExactSharedKeys: laid.
  DERIVED. THE GIVEN ROWS OF THIS SEAT. 6 by the template 'for every input the law returns true; each argument reads behind the call as it read before'; 0 by the template 'total and deterministic' (their statements: YtioinihlahnbfaaDoorTotals.lean).
  GIVEN WITH THE SEED: the statements are not yours to turn. If you find one false, say at which input.
  Laid BY PROGRAM, IN A SANDBOX (cutbox-rows.mjs): the forced cells as the released guide's own fill.sh prints them over the translation 00ffc81ba4bfce23… (all of the seat's roots in one cut). By AI agents, Wed Nov 11 2026. No macro, syntax, notation, axiom, sorry.
-/
import Derived.Test.YtioinihlahnbfaaDoorChecked
import GoSem.PinnedTables
import GoSem.Claim
import GoSem.ClaimJoined
import GoSem.ClaimMapViews
import Derived.JoinedTies
import Derived.KernelRfl
namespace Go.Proofs.YtioinihlahnbfaaDoor
/- THE CELL 'sum', in the pinned program and in every row, IS THE sha256 OF THE DUMP (.gsa) THAT YtioinihlahnbfaaDoorProg.lean LOADS. Nothing in Lean hashes anything: it is a label: what it is worth is what the hold of that sum in a sandbox is worth. -/
noncomputable def Tryd.pinned : Pinned := { name := "ytioinihlahnbfaadoor", sum := "00ffc81ba4bfce236d4f612a887631d9086faf77f7af9111990fa856121f5155", checked := Tryd.checked }
namespace Rows
def none {H : Type} : Left H := { results := [], args := [] }

/- WHAT THE LISTED PACKAGE-LEVEL VARIABLES READ AS WHEN THE CALL BEGINS. Each datum BY PROGRAM (the guide's laid-datum.mjs) off the statement by which the dump's own 'gosem.cut.vars' lays the variable. In a bare row this is a premise. The card (YtioinihlahnbfaaDoorCards.lean) ties it to the program's text. -/
def laid_loop_example_g01350_impl_padKeys {H : Type} : DataW H := .agg [.agg [.lit (.int .u8 50), .lit (.string [97, 98, 99])], .agg [.lit (.int .u8 51), .lit (.string [100, 101, 102])], .agg [.lit (.int .u8 52), .lit (.string [103, 104, 105])], .agg [.lit (.int .u8 53), .lit (.string [106, 107, 108])], .agg [.lit (.int .u8 54), .lit (.string [109, 110, 111])], .agg [.lit (.int .u8 55), .lit (.string [112, 113, 114, 115])], .agg [.lit (.int .u8 56), .lit (.string [116, 117, 118])], .agg [.lit (.int .u8 57), .lit (.string [119, 120, 121, 122])]]
def laid_unicode_utf8_acceptRanges {H : Type} : DataW H := .agg [.agg [.lit (.int .u8 128), .lit (.int .u8 191)], .agg [.lit (.int .u8 160), .lit (.int .u8 191)], .agg [.lit (.int .u8 128), .lit (.int .u8 159)], .agg [.lit (.int .u8 144), .lit (.int .u8 191)], .agg [.lit (.int .u8 128), .lit (.int .u8 143)], .agg [.lit (.int .u8 0), .lit (.int .u8 0)], .agg [.lit (.int .u8 0), .lit (.int .u8 0)], .agg [.lit (.int .u8 0), .lit (.int .u8 0)], .agg [.lit (.int .u8 0), .lit (.int .u8 0)], .agg [.lit (.int .u8 0), .lit (.int .u8 0)], .agg [.lit (.int .u8 0), .lit (.int .u8 0)], .agg [.lit (.int .u8 0), .lit (.int .u8 0)], .agg [.lit (.int .u8 0), .lit (.int .u8 0)], .agg [.lit (.int .u8 0), .lit (.int .u8 0)], .agg [.lit (.int .u8 0), .lit (.int .u8 0)], .agg [.lit (.int .u8 0), .lit (.int .u8 0)]]
/-- One of Go's own tables, pinned by name: the form's constant. -/
def laid_unicode_utf8_first : DataW Unit := Go.Pinned.utf8First

/-- 'laws.FnExactKeysOfAll': WHATEVER THE INPUT: true; the input reads as it did. -/
def fnExactKeysOfAllSpec : ChangeSpec := { name := "fnExactKeysOfAll", vars := ["loop.example/g01350/impl.padKeys"], fn := fun _ => fun
  | [d, g1] => { results := [.lit (.bool true)], args := [d], vars := [g1] }
  | _ => none }
def fnExactKeysOfAllRow : OpenClaim := { program := "ytioinihlahnbfaadoor", sum := "00ffc81ba4bfce236d4f612a887631d9086faf77f7af9111990fa856121f5155", func := "loop.example/g01350/laws.FnExactKeysOfAll", spec := "fnExactKeysOfAll", inPlace := ["internal/bytealg.IndexByteString"], unfollowed := true, recurses := true, named := ["loop.example/g01350/impl.padKeys"], plainKeys := false, apart := false, laid := [("loop.example/g01350/impl.padKeys", laid_loop_example_g01350_impl_padKeys)] }
def FnExactKeysOfAllSaid : Prop := fnExactKeysOfAllRow.holds Tryd.pinned (OpenSpec.ofChange fnExactKeysOfAllSpec)

/-- ITS FALSE NEIGHBOUR: 'it returns false'. Refute it at one input. -/
def fnExactKeysOfAllWrong : ChangeSpec := { name := "fnExactKeysOfAll", vars := ["loop.example/g01350/impl.padKeys"], fn := fun _ => fun
  | [d, g1] => { results := [.lit (.bool false)], args := [d], vars := [g1] }
  | _ => none }
def FnExactKeysOfAllWrongFalsely : Prop := fnExactKeysOfAllRow.holds Tryd.pinned (OpenSpec.ofChange fnExactKeysOfAllWrong)

/-- 'laws.FnExactNextKeysOf': WHATEVER THE INPUT: true; the input reads as it did. -/
def fnExactNextKeysOfSpec : ChangeSpec := { name := "fnExactNextKeysOf", vars := ["loop.example/g01350/impl.padKeys"], fn := fun _ => fun
  | [d1, d2, g1] => { results := [.lit (.bool true)], args := [d1, d2], vars := [g1] }
  | _ => none }
def fnExactNextKeysOfRow : OpenClaim := { program := "ytioinihlahnbfaadoor", sum := "00ffc81ba4bfce236d4f612a887631d9086faf77f7af9111990fa856121f5155", func := "loop.example/g01350/laws.FnExactNextKeysOf", spec := "fnExactNextKeysOf", inPlace := ["internal/bytealg.IndexByteString"], unfollowed := true, recurses := true, named := ["loop.example/g01350/impl.padKeys"], plainKeys := false, apart := false, laid := [("loop.example/g01350/impl.padKeys", laid_loop_example_g01350_impl_padKeys)] }
def FnExactNextKeysOfSaid : Prop := fnExactNextKeysOfRow.holds Tryd.pinned (OpenSpec.ofChange fnExactNextKeysOfSpec)

/-- ITS FALSE NEIGHBOUR: 'it returns false'. Refute it at one input. -/
def fnExactNextKeysOfWrong : ChangeSpec := { name := "fnExactNextKeysOf", vars := ["loop.example/g01350/impl.padKeys"], fn := fun _ => fun
  | [d1, d2, g1] => { results := [.lit (.bool false)], args := [d1, d2], vars := [g1] }
  | _ => none }
def FnExactNextKeysOfWrongFalsely : Prop := fnExactNextKeysOfRow.holds Tryd.pinned (OpenSpec.ofChange fnExactNextKeysOfWrong)

/-- 'laws.FnExactParseDictionary': WHATEVER THE INPUT: true; the input reads as it did. -/
def fnExactParseDictionarySpec : ChangeSpec := { name := "fnExactParseDictionary", fn := fun _ => fun
  | [d] => { results := [.lit (.bool true)], args := [d] }
  | _ => none }
def fnExactParseDictionaryRow : OpenClaim := { program := "ytioinihlahnbfaadoor", sum := "00ffc81ba4bfce236d4f612a887631d9086faf77f7af9111990fa856121f5155", func := "loop.example/g01350/laws.FnExactParseDictionary", spec := "fnExactParseDictionary", inPlace := ["internal/bytealg.CountString", "internal/bytealg.IndexByteString", "internal/bytealg.IndexString"], named := ["unicode/utf8.first", "unicode/utf8.acceptRanges", "internal/bytealg.MaxLen"], plainKeys := false, apart := false, laid := [("unicode/utf8.acceptRanges", laid_unicode_utf8_acceptRanges), ("unicode/utf8.first", laid_unicode_utf8_first)] }
def FnExactParseDictionarySaid : Prop := fnExactParseDictionaryRow.holds Tryd.pinned (OpenSpec.ofChange fnExactParseDictionarySpec)

/-- ITS FALSE NEIGHBOUR: 'it returns false'. Refute it at one input. -/
def fnExactParseDictionaryWrong : ChangeSpec := { name := "fnExactParseDictionary", fn := fun _ => fun
  | [d] => { results := [.lit (.bool false)], args := [d] }
  | _ => none }
def FnExactParseDictionaryWrongFalsely : Prop := fnExactParseDictionaryRow.holds Tryd.pinned (OpenSpec.ofChange fnExactParseDictionaryWrong)

/-- 'laws.FnExactFewestWords': WHATEVER THE INPUT: true; the input reads as it did. -/
def fnExactFewestWordsSpec : ChangeSpec := { name := "fnExactFewestWords", vars := ["loop.example/g01350/impl.padKeys"], fn := fun _ => fun
  | [d1, d2, g1] => { results := [.lit (.bool true)], args := [d1, d2], vars := [g1] }
  | _ => none }
def fnExactFewestWordsRow : OpenClaim := { program := "ytioinihlahnbfaadoor", sum := "00ffc81ba4bfce236d4f612a887631d9086faf77f7af9111990fa856121f5155", func := "loop.example/g01350/laws.FnExactFewestWords", spec := "fnExactFewestWords", inPlace := ["internal/bytealg.IndexByteString"], unfollowed := true, recurses := true, named := ["loop.example/g01350/impl.padKeys"], plainKeys := false, apart := false, laid := [("loop.example/g01350/impl.padKeys", laid_loop_example_g01350_impl_padKeys)] }
def FnExactFewestWordsSaid : Prop := fnExactFewestWordsRow.holds Tryd.pinned (OpenSpec.ofChange fnExactFewestWordsSpec)

/-- ITS FALSE NEIGHBOUR: 'it returns false'. Refute it at one input. -/
def fnExactFewestWordsWrong : ChangeSpec := { name := "fnExactFewestWords", vars := ["loop.example/g01350/impl.padKeys"], fn := fun _ => fun
  | [d1, d2, g1] => { results := [.lit (.bool false)], args := [d1, d2], vars := [g1] }
  | _ => none }
def FnExactFewestWordsWrongFalsely : Prop := fnExactFewestWordsRow.holds Tryd.pinned (OpenSpec.ofChange fnExactFewestWordsWrong)

/-- 'laws.FnExactFirstFewest': WHATEVER THE INPUT: true; the input reads as it did. -/
def fnExactFirstFewestSpec : ChangeSpec := { name := "fnExactFirstFewest", vars := ["loop.example/g01350/impl.padKeys"], fn := fun _ => fun
  | [d1, d2, g1] => { results := [.lit (.bool true)], args := [d1, d2], vars := [g1] }
  | _ => none }
def fnExactFirstFewestRow : OpenClaim := { program := "ytioinihlahnbfaadoor", sum := "00ffc81ba4bfce236d4f612a887631d9086faf77f7af9111990fa856121f5155", func := "loop.example/g01350/laws.FnExactFirstFewest", spec := "fnExactFirstFewest", inPlace := ["internal/bytealg.IndexByteString"], unfollowed := true, recurses := true, named := ["loop.example/g01350/impl.padKeys"], plainKeys := false, apart := false, laid := [("loop.example/g01350/impl.padKeys", laid_loop_example_g01350_impl_padKeys)] }
def FnExactFirstFewestSaid : Prop := fnExactFirstFewestRow.holds Tryd.pinned (OpenSpec.ofChange fnExactFirstFewestSpec)

/-- ITS FALSE NEIGHBOUR: 'it returns false'. Refute it at one input. -/
def fnExactFirstFewestWrong : ChangeSpec := { name := "fnExactFirstFewest", vars := ["loop.example/g01350/impl.padKeys"], fn := fun _ => fun
  | [d1, d2, g1] => { results := [.lit (.bool false)], args := [d1, d2], vars := [g1] }
  | _ => none }
def FnExactFirstFewestWrongFalsely : Prop := fnExactFirstFewestRow.holds Tryd.pinned (OpenSpec.ofChange fnExactFirstFewestWrong)

/-- 'laws.FnExactSharedKeys': WHATEVER THE INPUT: true; the input reads as it did. -/
def fnExactSharedKeysSpec : ChangeSpec := { name := "fnExactSharedKeys", vars := ["loop.example/g01350/impl.padKeys"], fn := fun _ => fun
  | [d, g1] => { results := [.lit (.bool true)], args := [d], vars := [g1] }
  | _ => none }
def fnExactSharedKeysRow : OpenClaim := { program := "ytioinihlahnbfaadoor", sum := "00ffc81ba4bfce236d4f612a887631d9086faf77f7af9111990fa856121f5155", func := "loop.example/g01350/laws.FnExactSharedKeys", spec := "fnExactSharedKeys", inPlace := ["internal/bytealg.IndexByteString"], unfollowed := true, recurses := true, named := ["loop.example/g01350/impl.padKeys"], plainKeys := false, apart := false, laid := [("loop.example/g01350/impl.padKeys", laid_loop_example_g01350_impl_padKeys)] }
def FnExactSharedKeysSaid : Prop := fnExactSharedKeysRow.holds Tryd.pinned (OpenSpec.ofChange fnExactSharedKeysSpec)

/-- ITS FALSE NEIGHBOUR: 'it returns false'. Refute it at one input. -/
def fnExactSharedKeysWrong : ChangeSpec := { name := "fnExactSharedKeys", vars := ["loop.example/g01350/impl.padKeys"], fn := fun _ => fun
  | [d, g1] => { results := [.lit (.bool false)], args := [d], vars := [g1] }
  | _ => none }
def FnExactSharedKeysWrongFalsely : Prop := fnExactSharedKeysRow.holds Tryd.pinned (OpenSpec.ofChange fnExactSharedKeysWrong)

/- THE SECOND FORM. 'bulk': how many values and letters a reading holds, each counted each time it is reached (what is shared counts as often as it is met; a slice's spare places count too). A statement '..UptoSaid' is the law's where the arguments, and the package variables that the reading takes, are together of bulk at most 1048576: NARROWER than '..Said'. Prove '..Said' where nothing that the law and all that it calls make is longer than what came in: it says more and counts as full. Else prove '..UptoSaid'. A law counts once. -/
mutual
def uptoBulk {H : Type} : DataW H → Nat
  | .lit (.string bytes) => bytes.length + 1
  | .lit _ => 1
  | .nil => 1
  | .ptr d => uptoBulk d + 1
  | .slice elems spare => uptoBulkAll elems + uptoBulkAll spare + 1
  | .agg parts => uptoBulkAll parts + 1
  | .iface _ d => uptoBulk d + 1
  | .map entries => uptoBulkEntries entries + 1
  | .held _ => 1
def uptoBulkAll {H : Type} : List (DataW H) → Nat
  | [] => 0
  | d :: r => uptoBulk d + uptoBulkAll r
def uptoBulkEntries {H : Type} : List (Lit × DataW H) → Nat
  | [] => 0
  | x :: r => uptoBulkEntry x + uptoBulkEntries r
def uptoBulkEntry {H : Type} : Lit × DataW H → Nat
  | (.string bytes, d) => bytes.length + uptoBulk d + 1
  | (_, d) => uptoBulk d + 1
 end
def uptoSmall : (H : Type) → List (DataW H) → Bool := fun _ ds => decide (uptoBulkAll ds ≤ 1048576)
def OpenSpec.upto (s : _root_.Go.ChangeSpec) : _root_.Go.OpenSpec := { _root_.Go.OpenSpec.ofChange s with cond := some uptoSmall }

/-- 'laws.FnExactKeysOfAll', WHERE WHAT IT READS IS OF BULK AT MOST 1048576: true; the input reads as it did. -/
def fnExactKeysOfAllUptoRow : OpenClaim := { program := "ytioinihlahnbfaadoor", sum := "00ffc81ba4bfce236d4f612a887631d9086faf77f7af9111990fa856121f5155", func := "loop.example/g01350/laws.FnExactKeysOfAll", spec := "fnExactKeysOfAll", inPlace := ["internal/bytealg.IndexByteString"], unfollowed := true, recurses := true, named := ["loop.example/g01350/impl.padKeys"], plainKeys := false, apart := false, laid := [("loop.example/g01350/impl.padKeys", laid_loop_example_g01350_impl_padKeys)], narrowed := true }
def FnExactKeysOfAllUptoSaid : Prop := fnExactKeysOfAllUptoRow.holds Tryd.pinned (OpenSpec.upto fnExactKeysOfAllSpec)

/-- 'laws.FnExactNextKeysOf', WHERE WHAT IT READS IS OF BULK AT MOST 1048576: true; the input reads as it did. -/
def fnExactNextKeysOfUptoRow : OpenClaim := { program := "ytioinihlahnbfaadoor", sum := "00ffc81ba4bfce236d4f612a887631d9086faf77f7af9111990fa856121f5155", func := "loop.example/g01350/laws.FnExactNextKeysOf", spec := "fnExactNextKeysOf", inPlace := ["internal/bytealg.IndexByteString"], unfollowed := true, recurses := true, named := ["loop.example/g01350/impl.padKeys"], plainKeys := false, apart := false, laid := [("loop.example/g01350/impl.padKeys", laid_loop_example_g01350_impl_padKeys)], narrowed := true }
def FnExactNextKeysOfUptoSaid : Prop := fnExactNextKeysOfUptoRow.holds Tryd.pinned (OpenSpec.upto fnExactNextKeysOfSpec)

/-- 'laws.FnExactParseDictionary', WHERE WHAT IT READS IS OF BULK AT MOST 1048576: true; the input reads as it did. -/
def fnExactParseDictionaryUptoRow : OpenClaim := { program := "ytioinihlahnbfaadoor", sum := "00ffc81ba4bfce236d4f612a887631d9086faf77f7af9111990fa856121f5155", func := "loop.example/g01350/laws.FnExactParseDictionary", spec := "fnExactParseDictionary", inPlace := ["internal/bytealg.CountString", "internal/bytealg.IndexByteString", "internal/bytealg.IndexString"], named := ["unicode/utf8.first", "unicode/utf8.acceptRanges", "internal/bytealg.MaxLen"], plainKeys := false, apart := false, laid := [("unicode/utf8.acceptRanges", laid_unicode_utf8_acceptRanges), ("unicode/utf8.first", laid_unicode_utf8_first)], narrowed := true }
def FnExactParseDictionaryUptoSaid : Prop := fnExactParseDictionaryUptoRow.holds Tryd.pinned (OpenSpec.upto fnExactParseDictionarySpec)

/-- 'laws.FnExactFewestWords', WHERE WHAT IT READS IS OF BULK AT MOST 1048576: true; the input reads as it did. -/
def fnExactFewestWordsUptoRow : OpenClaim := { program := "ytioinihlahnbfaadoor", sum := "00ffc81ba4bfce236d4f612a887631d9086faf77f7af9111990fa856121f5155", func := "loop.example/g01350/laws.FnExactFewestWords", spec := "fnExactFewestWords", inPlace := ["internal/bytealg.IndexByteString"], unfollowed := true, recurses := true, named := ["loop.example/g01350/impl.padKeys"], plainKeys := false, apart := false, laid := [("loop.example/g01350/impl.padKeys", laid_loop_example_g01350_impl_padKeys)], narrowed := true }
def FnExactFewestWordsUptoSaid : Prop := fnExactFewestWordsUptoRow.holds Tryd.pinned (OpenSpec.upto fnExactFewestWordsSpec)

/-- 'laws.FnExactFirstFewest', WHERE WHAT IT READS IS OF BULK AT MOST 1048576: true; the input reads as it did. -/
def fnExactFirstFewestUptoRow : OpenClaim := { program := "ytioinihlahnbfaadoor", sum := "00ffc81ba4bfce236d4f612a887631d9086faf77f7af9111990fa856121f5155", func := "loop.example/g01350/laws.FnExactFirstFewest", spec := "fnExactFirstFewest", inPlace := ["internal/bytealg.IndexByteString"], unfollowed := true, recurses := true, named := ["loop.example/g01350/impl.padKeys"], plainKeys := false, apart := false, laid := [("loop.example/g01350/impl.padKeys", laid_loop_example_g01350_impl_padKeys)], narrowed := true }
def FnExactFirstFewestUptoSaid : Prop := fnExactFirstFewestUptoRow.holds Tryd.pinned (OpenSpec.upto fnExactFirstFewestSpec)

/-- 'laws.FnExactSharedKeys', WHERE WHAT IT READS IS OF BULK AT MOST 1048576: true; the input reads as it did. -/
def fnExactSharedKeysUptoRow : OpenClaim := { program := "ytioinihlahnbfaadoor", sum := "00ffc81ba4bfce236d4f612a887631d9086faf77f7af9111990fa856121f5155", func := "loop.example/g01350/laws.FnExactSharedKeys", spec := "fnExactSharedKeys", inPlace := ["internal/bytealg.IndexByteString"], unfollowed := true, recurses := true, named := ["loop.example/g01350/impl.padKeys"], plainKeys := false, apart := false, laid := [("loop.example/g01350/impl.padKeys", laid_loop_example_g01350_impl_padKeys)], narrowed := true }
def FnExactSharedKeysUptoSaid : Prop := fnExactSharedKeysUptoRow.holds Tryd.pinned (OpenSpec.upto fnExactSharedKeysSpec)

end Rows
end Go.Proofs.YtioinihlahnbfaaDoor
