/-
  No cell of these rows narrows 'for every input' (looked for: loops, veiled, ifaces, maps, wideKeys, modest, calm, conditions, laid).
  DERIVED. THE GIVEN ROWS OF THIS SEAT. 8 by the template 'for every input the law returns true; each argument reads behind the call as it read before'; 0 by the template 'total and deterministic' (their statements: YtmpajijnpoekgadTotals.lean).
  GIVEN WITH THE SEED: the statements are not yours to turn. If you find one false, say at which input.
  Laid BY PROGRAM, IN A SANDBOX (cutbox-rows.mjs): the forced cells as the released guide's own fill.sh prints them over the translation 8a5d3ac41e67e369… (all of the seat's roots in one cut). By AI agents, Wed Nov 11 2026. No macro, syntax, notation, axiom, sorry.
-/
import Derived.Test.YtmpajijnpoekgadChecked
import GoSem.Claim
import GoSem.ClaimJoined
import GoSem.ClaimMapViews
import Derived.JoinedTies
import Derived.KernelRfl
namespace Go.Proofs.Ytmpajijnpoekgad
/- THE CELL 'sum', in the pinned program and in every row, IS THE sha256 OF THE DUMP (.gsa) THAT YtmpajijnpoekgadProg.lean LOADS. Nothing in Lean hashes anything: it is a label: what it is worth is what the hold of that sum in a sandbox is worth. -/
noncomputable def Try.pinned : Pinned := { name := "ytmpajijnpoekgad", sum := "8a5d3ac41e67e3694c4db0ba04165aab3ed11828ef1de3f2ae7aba19434cf9d0", checked := Try.checked }
namespace Rows
def none {H : Type} : Left H := { results := [], args := [] }

/-- 'laws.FnExactNextKeys': WHATEVER THE INPUT: true; the input reads as it did. -/
def fnExactNextKeysSpec : ChangeSpec := { name := "fnExactNextKeys", fn := fun _ => fun
  | [d1, d2] => { results := [.lit (.bool true)], args := [d1, d2] }
  | _ => none }
def fnExactNextKeysRow : OpenClaim := { program := "ytmpajijnpoekgad", sum := "8a5d3ac41e67e3694c4db0ba04165aab3ed11828ef1de3f2ae7aba19434cf9d0", func := "loop.example/g01350/laws.FnExactNextKeys", spec := "fnExactNextKeys", inPlace := ["internal/bytealg.IndexByteString", "internal/bytealg.IndexString", "internal/abi.NoEscape"], named := ["internal/bytealg.MaxLen"], plainKeys := false, apart := false }
def FnExactNextKeysSaid : Prop := fnExactNextKeysRow.holds Try.pinned (OpenSpec.ofChange fnExactNextKeysSpec)

/-- ITS FALSE NEIGHBOUR: 'it returns false'. Refute it at one input. -/
def fnExactNextKeysWrong : ChangeSpec := { name := "fnExactNextKeys", fn := fun _ => fun
  | [d1, d2] => { results := [.lit (.bool false)], args := [d1, d2] }
  | _ => none }
def FnExactNextKeysWrongFalsely : Prop := fnExactNextKeysRow.holds Try.pinned (OpenSpec.ofChange fnExactNextKeysWrong)

/-- 'laws.FnExactIsWalk': WHATEVER THE INPUT: true; the input reads as it did. -/
def fnExactIsWalkSpec : ChangeSpec := { name := "fnExactIsWalk", fn := fun _ => fun
  | [d1, d2] => { results := [.lit (.bool true)], args := [d1, d2] }
  | _ => none }
def fnExactIsWalkRow : OpenClaim := { program := "ytmpajijnpoekgad", sum := "8a5d3ac41e67e3694c4db0ba04165aab3ed11828ef1de3f2ae7aba19434cf9d0", func := "loop.example/g01350/laws.FnExactIsWalk", spec := "fnExactIsWalk", inPlace := ["internal/bytealg.IndexByteString", "internal/bytealg.IndexString"], named := ["internal/bytealg.MaxLen"], plainKeys := false, apart := false }
def FnExactIsWalkSaid : Prop := fnExactIsWalkRow.holds Try.pinned (OpenSpec.ofChange fnExactIsWalkSpec)

/-- ITS FALSE NEIGHBOUR: 'it returns false'. Refute it at one input. -/
def fnExactIsWalkWrong : ChangeSpec := { name := "fnExactIsWalk", fn := fun _ => fun
  | [d1, d2] => { results := [.lit (.bool false)], args := [d1, d2] }
  | _ => none }
def FnExactIsWalkWrongFalsely : Prop := fnExactIsWalkRow.holds Try.pinned (OpenSpec.ofChange fnExactIsWalkWrong)

/-- 'laws.FnExactMirrorWalk': WHATEVER THE INPUT: true; the input reads as it did. -/
def fnExactMirrorWalkSpec : ChangeSpec := { name := "fnExactMirrorWalk", fn := fun _ => fun
  | [d] => { results := [.lit (.bool true)], args := [d] }
  | _ => none }
def fnExactMirrorWalkRow : OpenClaim := { program := "ytmpajijnpoekgad", sum := "8a5d3ac41e67e3694c4db0ba04165aab3ed11828ef1de3f2ae7aba19434cf9d0", func := "loop.example/g01350/laws.FnExactMirrorWalk", spec := "fnExactMirrorWalk", inPlace := ["internal/bytealg.IndexByteString", "internal/bytealg.IndexString", "internal/abi.NoEscape"], unfollowed := true, recurses := true, named := ["internal/bytealg.MaxLen"], plainKeys := false, apart := false }
def FnExactMirrorWalkSaid : Prop := fnExactMirrorWalkRow.holds Try.pinned (OpenSpec.ofChange fnExactMirrorWalkSpec)

/-- ITS FALSE NEIGHBOUR: 'it returns false'. Refute it at one input. -/
def fnExactMirrorWalkWrong : ChangeSpec := { name := "fnExactMirrorWalk", fn := fun _ => fun
  | [d] => { results := [.lit (.bool false)], args := [d] }
  | _ => none }
def FnExactMirrorWalkWrongFalsely : Prop := fnExactMirrorWalkRow.holds Try.pinned (OpenSpec.ofChange fnExactMirrorWalkWrong)

/-- 'laws.FnExactTwoThumbs': WHATEVER THE INPUT: true; the input reads as it did. -/
def fnExactTwoThumbsSpec : ChangeSpec := { name := "fnExactTwoThumbs", fn := fun _ => fun
  | [d1, d2, d3, d4] => { results := [.lit (.bool true)], args := [d1, d2, d3, d4] }
  | _ => none }
def fnExactTwoThumbsRow : OpenClaim := { program := "ytmpajijnpoekgad", sum := "8a5d3ac41e67e3694c4db0ba04165aab3ed11828ef1de3f2ae7aba19434cf9d0", func := "loop.example/g01350/laws.FnExactTwoThumbs", spec := "fnExactTwoThumbs", inPlace := ["internal/bytealg.IndexByteString", "internal/bytealg.IndexString"], unfollowed := true, recurses := true, named := ["internal/bytealg.MaxLen"], plainKeys := false, apart := false }
def FnExactTwoThumbsSaid : Prop := fnExactTwoThumbsRow.holds Try.pinned (OpenSpec.ofChange fnExactTwoThumbsSpec)

/-- ITS FALSE NEIGHBOUR: 'it returns false'. Refute it at one input. -/
def fnExactTwoThumbsWrong : ChangeSpec := { name := "fnExactTwoThumbs", fn := fun _ => fun
  | [d1, d2, d3, d4] => { results := [.lit (.bool false)], args := [d1, d2, d3, d4] }
  | _ => none }
def FnExactTwoThumbsWrongFalsely : Prop := fnExactTwoThumbsRow.holds Try.pinned (OpenSpec.ofChange fnExactTwoThumbsWrong)

/-- 'laws.FnExactCountThumbs': WHATEVER THE INPUT: true; the input reads as it did. -/
def fnExactCountThumbsSpec : ChangeSpec := { name := "fnExactCountThumbs", fn := fun _ => fun
  | [d1, d2, d3, d4] => { results := [.lit (.bool true)], args := [d1, d2, d3, d4] }
  | _ => none }
def fnExactCountThumbsRow : OpenClaim := { program := "ytmpajijnpoekgad", sum := "8a5d3ac41e67e3694c4db0ba04165aab3ed11828ef1de3f2ae7aba19434cf9d0", func := "loop.example/g01350/laws.FnExactCountThumbs", spec := "fnExactCountThumbs", inPlace := ["internal/bytealg.IndexByteString", "internal/bytealg.IndexString"], unfollowed := true, recurses := true, named := ["internal/bytealg.MaxLen"], plainKeys := false, apart := false }
def FnExactCountThumbsSaid : Prop := fnExactCountThumbsRow.holds Try.pinned (OpenSpec.ofChange fnExactCountThumbsSpec)

/-- ITS FALSE NEIGHBOUR: 'it returns false'. Refute it at one input. -/
def fnExactCountThumbsWrong : ChangeSpec := { name := "fnExactCountThumbs", fn := fun _ => fun
  | [d1, d2, d3, d4] => { results := [.lit (.bool false)], args := [d1, d2, d3, d4] }
  | _ => none }
def FnExactCountThumbsWrongFalsely : Prop := fnExactCountThumbsRow.holds Try.pinned (OpenSpec.ofChange fnExactCountThumbsWrong)

/-- 'laws.FnExactFirstThumbs': WHATEVER THE INPUT: true; the input reads as it did. -/
def fnExactFirstThumbsSpec : ChangeSpec := { name := "fnExactFirstThumbs", fn := fun _ => fun
  | [d1, d2, d3, d4] => { results := [.lit (.bool true)], args := [d1, d2, d3, d4] }
  | _ => none }
def fnExactFirstThumbsRow : OpenClaim := { program := "ytmpajijnpoekgad", sum := "8a5d3ac41e67e3694c4db0ba04165aab3ed11828ef1de3f2ae7aba19434cf9d0", func := "loop.example/g01350/laws.FnExactFirstThumbs", spec := "fnExactFirstThumbs", inPlace := ["internal/bytealg.IndexByteString", "internal/bytealg.IndexString"], unfollowed := true, recurses := true, named := ["internal/bytealg.MaxLen"], plainKeys := false, apart := false }
def FnExactFirstThumbsSaid : Prop := fnExactFirstThumbsRow.holds Try.pinned (OpenSpec.ofChange fnExactFirstThumbsSpec)

/-- ITS FALSE NEIGHBOUR: 'it returns false'. Refute it at one input. -/
def fnExactFirstThumbsWrong : ChangeSpec := { name := "fnExactFirstThumbs", fn := fun _ => fun
  | [d1, d2, d3, d4] => { results := [.lit (.bool false)], args := [d1, d2, d3, d4] }
  | _ => none }
def FnExactFirstThumbsWrongFalsely : Prop := fnExactFirstThumbsRow.holds Try.pinned (OpenSpec.ofChange fnExactFirstThumbsWrong)

/-- 'laws.FnExactBestStarts': WHATEVER THE INPUT: true; the input reads as it did. -/
def fnExactBestStartsSpec : ChangeSpec := { name := "fnExactBestStarts", fn := fun _ => fun
  | [d1, d2] => { results := [.lit (.bool true)], args := [d1, d2] }
  | _ => none }
def fnExactBestStartsRow : OpenClaim := { program := "ytmpajijnpoekgad", sum := "8a5d3ac41e67e3694c4db0ba04165aab3ed11828ef1de3f2ae7aba19434cf9d0", func := "loop.example/g01350/laws.FnExactBestStarts", spec := "fnExactBestStarts", inPlace := ["internal/bytealg.IndexByteString", "internal/bytealg.IndexString"], unfollowed := true, recurses := true, named := ["internal/bytealg.MaxLen"], plainKeys := false, apart := false }
def FnExactBestStartsSaid : Prop := fnExactBestStartsRow.holds Try.pinned (OpenSpec.ofChange fnExactBestStartsSpec)

/-- ITS FALSE NEIGHBOUR: 'it returns false'. Refute it at one input. -/
def fnExactBestStartsWrong : ChangeSpec := { name := "fnExactBestStarts", fn := fun _ => fun
  | [d1, d2] => { results := [.lit (.bool false)], args := [d1, d2] }
  | _ => none }
def FnExactBestStartsWrongFalsely : Prop := fnExactBestStartsRow.holds Try.pinned (OpenSpec.ofChange fnExactBestStartsWrong)

/-- 'laws.FnExactLeastOrder': WHATEVER THE INPUT: true; the input reads as it did. -/
def fnExactLeastOrderSpec : ChangeSpec := { name := "fnExactLeastOrder", fn := fun _ => fun
  | [d1, d2, d3] => { results := [.lit (.bool true)], args := [d1, d2, d3] }
  | _ => none }
def fnExactLeastOrderRow : OpenClaim := { program := "ytmpajijnpoekgad", sum := "8a5d3ac41e67e3694c4db0ba04165aab3ed11828ef1de3f2ae7aba19434cf9d0", func := "loop.example/g01350/laws.FnExactLeastOrder", spec := "fnExactLeastOrder", inPlace := ["internal/bytealg.IndexByteString", "internal/bytealg.IndexString", "internal/abi.NoEscape"], unfollowed := true, recurses := true, named := ["internal/bytealg.MaxLen"], plainKeys := false, apart := false }
def FnExactLeastOrderSaid : Prop := fnExactLeastOrderRow.holds Try.pinned (OpenSpec.ofChange fnExactLeastOrderSpec)

/-- ITS FALSE NEIGHBOUR: 'it returns false'. Refute it at one input. -/
def fnExactLeastOrderWrong : ChangeSpec := { name := "fnExactLeastOrder", fn := fun _ => fun
  | [d1, d2, d3] => { results := [.lit (.bool false)], args := [d1, d2, d3] }
  | _ => none }
def FnExactLeastOrderWrongFalsely : Prop := fnExactLeastOrderRow.holds Try.pinned (OpenSpec.ofChange fnExactLeastOrderWrong)

/- THE SECOND FORM. 'bulk': how many values and letters a reading holds, each counted each time it is reached (what is shared counts as often as it is met; a slice's spare places count too). A statement '..UptoSaid' is the law's where the arguments, and the package variables that the reading takes, are together of bulk at most 1048576: NARROWER than '..Said'. Prove '..Said' where nothing that the law and all that it calls make is longer than what came in: it says more and counts as full. Else prove '..UptoSaid'. A law counts once. -/
mutual
def uptoBulk {H : Type} : DataW H → Nat
  | .lit (.string bytes) => bytes.length + 1
  | .lit _ => 1
  | .nil => 1
  | .ptr d => uptoBulk d + 1
  | .slice elems spare => uptoBulkAll elems + uptoBulkAll spare + 1
  | .agg parts => uptoBulkAll parts + 1
  | .iface _ d => uptoBulk d + 1
  | .map entries => uptoBulkEntries entries + 1
  | .held _ => 1
def uptoBulkAll {H : Type} : List (DataW H) → Nat
  | [] => 0
  | d :: r => uptoBulk d + uptoBulkAll r
def uptoBulkEntries {H : Type} : List (Lit × DataW H) → Nat
  | [] => 0
  | x :: r => uptoBulkEntry x + uptoBulkEntries r
def uptoBulkEntry {H : Type} : Lit × DataW H → Nat
  | (.string bytes, d) => bytes.length + uptoBulk d + 1
  | (_, d) => uptoBulk d + 1
 end
def uptoSmall : (H : Type) → List (DataW H) → Bool := fun _ ds => decide (uptoBulkAll ds ≤ 1048576)
def OpenSpec.upto (s : _root_.Go.ChangeSpec) : _root_.Go.OpenSpec := { _root_.Go.OpenSpec.ofChange s with cond := some uptoSmall }

/-- 'laws.FnExactNextKeys', WHERE WHAT IT READS IS OF BULK AT MOST 1048576: true; the input reads as it did. -/
def fnExactNextKeysUptoRow : OpenClaim := { program := "ytmpajijnpoekgad", sum := "8a5d3ac41e67e3694c4db0ba04165aab3ed11828ef1de3f2ae7aba19434cf9d0", func := "loop.example/g01350/laws.FnExactNextKeys", spec := "fnExactNextKeys", inPlace := ["internal/bytealg.IndexByteString", "internal/bytealg.IndexString", "internal/abi.NoEscape"], named := ["internal/bytealg.MaxLen"], plainKeys := false, apart := false, narrowed := true }
def FnExactNextKeysUptoSaid : Prop := fnExactNextKeysUptoRow.holds Try.pinned (OpenSpec.upto fnExactNextKeysSpec)

/-- 'laws.FnExactIsWalk', WHERE WHAT IT READS IS OF BULK AT MOST 1048576: true; the input reads as it did. -/
def fnExactIsWalkUptoRow : OpenClaim := { program := "ytmpajijnpoekgad", sum := "8a5d3ac41e67e3694c4db0ba04165aab3ed11828ef1de3f2ae7aba19434cf9d0", func := "loop.example/g01350/laws.FnExactIsWalk", spec := "fnExactIsWalk", inPlace := ["internal/bytealg.IndexByteString", "internal/bytealg.IndexString"], named := ["internal/bytealg.MaxLen"], plainKeys := false, apart := false, narrowed := true }
def FnExactIsWalkUptoSaid : Prop := fnExactIsWalkUptoRow.holds Try.pinned (OpenSpec.upto fnExactIsWalkSpec)

/-- 'laws.FnExactMirrorWalk', WHERE WHAT IT READS IS OF BULK AT MOST 1048576: true; the input reads as it did. -/
def fnExactMirrorWalkUptoRow : OpenClaim := { program := "ytmpajijnpoekgad", sum := "8a5d3ac41e67e3694c4db0ba04165aab3ed11828ef1de3f2ae7aba19434cf9d0", func := "loop.example/g01350/laws.FnExactMirrorWalk", spec := "fnExactMirrorWalk", inPlace := ["internal/bytealg.IndexByteString", "internal/bytealg.IndexString", "internal/abi.NoEscape"], unfollowed := true, recurses := true, named := ["internal/bytealg.MaxLen"], plainKeys := false, apart := false, narrowed := true }
def FnExactMirrorWalkUptoSaid : Prop := fnExactMirrorWalkUptoRow.holds Try.pinned (OpenSpec.upto fnExactMirrorWalkSpec)

/-- 'laws.FnExactTwoThumbs', WHERE WHAT IT READS IS OF BULK AT MOST 1048576: true; the input reads as it did. -/
def fnExactTwoThumbsUptoRow : OpenClaim := { program := "ytmpajijnpoekgad", sum := "8a5d3ac41e67e3694c4db0ba04165aab3ed11828ef1de3f2ae7aba19434cf9d0", func := "loop.example/g01350/laws.FnExactTwoThumbs", spec := "fnExactTwoThumbs", inPlace := ["internal/bytealg.IndexByteString", "internal/bytealg.IndexString"], unfollowed := true, recurses := true, named := ["internal/bytealg.MaxLen"], plainKeys := false, apart := false, narrowed := true }
def FnExactTwoThumbsUptoSaid : Prop := fnExactTwoThumbsUptoRow.holds Try.pinned (OpenSpec.upto fnExactTwoThumbsSpec)

/-- 'laws.FnExactCountThumbs', WHERE WHAT IT READS IS OF BULK AT MOST 1048576: true; the input reads as it did. -/
def fnExactCountThumbsUptoRow : OpenClaim := { program := "ytmpajijnpoekgad", sum := "8a5d3ac41e67e3694c4db0ba04165aab3ed11828ef1de3f2ae7aba19434cf9d0", func := "loop.example/g01350/laws.FnExactCountThumbs", spec := "fnExactCountThumbs", inPlace := ["internal/bytealg.IndexByteString", "internal/bytealg.IndexString"], unfollowed := true, recurses := true, named := ["internal/bytealg.MaxLen"], plainKeys := false, apart := false, narrowed := true }
def FnExactCountThumbsUptoSaid : Prop := fnExactCountThumbsUptoRow.holds Try.pinned (OpenSpec.upto fnExactCountThumbsSpec)

/-- 'laws.FnExactFirstThumbs', WHERE WHAT IT READS IS OF BULK AT MOST 1048576: true; the input reads as it did. -/
def fnExactFirstThumbsUptoRow : OpenClaim := { program := "ytmpajijnpoekgad", sum := "8a5d3ac41e67e3694c4db0ba04165aab3ed11828ef1de3f2ae7aba19434cf9d0", func := "loop.example/g01350/laws.FnExactFirstThumbs", spec := "fnExactFirstThumbs", inPlace := ["internal/bytealg.IndexByteString", "internal/bytealg.IndexString"], unfollowed := true, recurses := true, named := ["internal/bytealg.MaxLen"], plainKeys := false, apart := false, narrowed := true }
def FnExactFirstThumbsUptoSaid : Prop := fnExactFirstThumbsUptoRow.holds Try.pinned (OpenSpec.upto fnExactFirstThumbsSpec)

/-- 'laws.FnExactBestStarts', WHERE WHAT IT READS IS OF BULK AT MOST 1048576: true; the input reads as it did. -/
def fnExactBestStartsUptoRow : OpenClaim := { program := "ytmpajijnpoekgad", sum := "8a5d3ac41e67e3694c4db0ba04165aab3ed11828ef1de3f2ae7aba19434cf9d0", func := "loop.example/g01350/laws.FnExactBestStarts", spec := "fnExactBestStarts", inPlace := ["internal/bytealg.IndexByteString", "internal/bytealg.IndexString"], unfollowed := true, recurses := true, named := ["internal/bytealg.MaxLen"], plainKeys := false, apart := false, narrowed := true }
def FnExactBestStartsUptoSaid : Prop := fnExactBestStartsUptoRow.holds Try.pinned (OpenSpec.upto fnExactBestStartsSpec)

/-- 'laws.FnExactLeastOrder', WHERE WHAT IT READS IS OF BULK AT MOST 1048576: true; the input reads as it did. -/
def fnExactLeastOrderUptoRow : OpenClaim := { program := "ytmpajijnpoekgad", sum := "8a5d3ac41e67e3694c4db0ba04165aab3ed11828ef1de3f2ae7aba19434cf9d0", func := "loop.example/g01350/laws.FnExactLeastOrder", spec := "fnExactLeastOrder", inPlace := ["internal/bytealg.IndexByteString", "internal/bytealg.IndexString", "internal/abi.NoEscape"], unfollowed := true, recurses := true, named := ["internal/bytealg.MaxLen"], plainKeys := false, apart := false, narrowed := true }
def FnExactLeastOrderUptoSaid : Prop := fnExactLeastOrderUptoRow.holds Try.pinned (OpenSpec.upto fnExactLeastOrderSpec)

end Rows
end Go.Proofs.Ytmpajijnpoekgad
