/-
  No cell of these rows narrows 'for every input' (looked for: loops, veiled, ifaces, maps, wideKeys, modest, calm, conditions, laid).
  DERIVED. THE GIVEN ROWS OF THIS SEAT. 8 by the template 'for every input the law returns true; each argument reads behind the call as it read before'; 0 by the template 'total and deterministic' (their statements: YtcadiepghhnbeaaTotals.lean).
  GIVEN WITH THE SEED: the statements are not yours to turn. If you find one false, say at which input.
  Laid BY PROGRAM, IN A SANDBOX (cutbox-rows.mjs): the forced cells as the released guide's own fill.sh prints them over the translation d8dde5ebb53463c2… (all of the seat's roots in one cut). By AI agents, Wed Nov 11 2026. No macro, syntax, notation, axiom, sorry.
-/
import Derived.Test.YtcadiepghhnbeaaChecked
import GoSem.Claim
import GoSem.ClaimJoined
import GoSem.ClaimMapViews
import Derived.JoinedTies
import Derived.KernelRfl
namespace Go.Proofs.Ytcadiepghhnbeaa
/- THE CELL 'sum', in the pinned program and in every row, IS THE sha256 OF THE DUMP (.gsa) THAT YtcadiepghhnbeaaProg.lean LOADS. Nothing in Lean hashes anything: it is a label: what it is worth is what the hold of that sum in a sandbox is worth. -/
noncomputable def Try.pinned : Pinned := { name := "ytcadiepghhnbeaa", sum := "d8dde5ebb53463c2fd50e0ff065aa6d7697bc8a2fcf643f49fd6d1f369579ca0", checked := Try.checked }
namespace Rows
def none {H : Type} : Left H := { results := [], args := [] }

/-- 'laws.FnExactWeightsFor': WHATEVER THE INPUT: true; the input reads as it did. -/
def fnExactWeightsForSpec : ChangeSpec := { name := "fnExactWeightsFor", fn := fun _ => fun
  | [d1, d2] => { results := [.lit (.bool true)], args := [d1, d2] }
  | _ => none }
def fnExactWeightsForRow : OpenClaim := { program := "ytcadiepghhnbeaa", sum := "d8dde5ebb53463c2fd50e0ff065aa6d7697bc8a2fcf643f49fd6d1f369579ca0", func := "loop.example/g01283/laws.FnExactWeightsFor", spec := "fnExactWeightsFor", unfollowed := true, recurses := true, plainKeys := false, apart := false }
def FnExactWeightsForSaid : Prop := fnExactWeightsForRow.holds Try.pinned (OpenSpec.ofChange fnExactWeightsForSpec)

/-- ITS FALSE NEIGHBOUR: 'it returns false'. Refute it at one input. -/
def fnExactWeightsForWrong : ChangeSpec := { name := "fnExactWeightsFor", fn := fun _ => fun
  | [d1, d2] => { results := [.lit (.bool false)], args := [d1, d2] }
  | _ => none }
def FnExactWeightsForWrongFalsely : Prop := fnExactWeightsForRow.holds Try.pinned (OpenSpec.ofChange fnExactWeightsForWrong)

/-- 'laws.FnExactPathSum': WHATEVER THE INPUT: true; the input reads as it did. -/
def fnExactPathSumSpec : ChangeSpec := { name := "fnExactPathSum", fn := fun _ => fun
  | [d1, d2, d3, d4] => { results := [.lit (.bool true)], args := [d1, d2, d3, d4] }
  | _ => none }
def fnExactPathSumRow : OpenClaim := { program := "ytcadiepghhnbeaa", sum := "d8dde5ebb53463c2fd50e0ff065aa6d7697bc8a2fcf643f49fd6d1f369579ca0", func := "loop.example/g01283/laws.FnExactPathSum", spec := "fnExactPathSum", unfollowed := true, recurses := true, plainKeys := false, apart := false }
def FnExactPathSumSaid : Prop := fnExactPathSumRow.holds Try.pinned (OpenSpec.ofChange fnExactPathSumSpec)

/-- ITS FALSE NEIGHBOUR: 'it returns false'. Refute it at one input. -/
def fnExactPathSumWrong : ChangeSpec := { name := "fnExactPathSum", fn := fun _ => fun
  | [d1, d2, d3, d4] => { results := [.lit (.bool false)], args := [d1, d2, d3, d4] }
  | _ => none }
def FnExactPathSumWrongFalsely : Prop := fnExactPathSumRow.holds Try.pinned (OpenSpec.ofChange fnExactPathSumWrong)

/-- 'laws.FnExactPathTriangle': WHATEVER THE INPUT: true; the input reads as it did. -/
def fnExactPathTriangleSpec : ChangeSpec := { name := "fnExactPathTriangle", fn := fun _ => fun
  | [d] => { results := [.lit (.bool true)], args := [d] }
  | _ => none }
def fnExactPathTriangleRow : OpenClaim := { program := "ytcadiepghhnbeaa", sum := "d8dde5ebb53463c2fd50e0ff065aa6d7697bc8a2fcf643f49fd6d1f369579ca0", func := "loop.example/g01283/laws.FnExactPathTriangle", spec := "fnExactPathTriangle", unfollowed := true, recurses := true, plainKeys := false, apart := false }
def FnExactPathTriangleSaid : Prop := fnExactPathTriangleRow.holds Try.pinned (OpenSpec.ofChange fnExactPathTriangleSpec)

/-- ITS FALSE NEIGHBOUR: 'it returns false'. Refute it at one input. -/
def fnExactPathTriangleWrong : ChangeSpec := { name := "fnExactPathTriangle", fn := fun _ => fun
  | [d] => { results := [.lit (.bool false)], args := [d] }
  | _ => none }
def FnExactPathTriangleWrongFalsely : Prop := fnExactPathTriangleRow.holds Try.pinned (OpenSpec.ofChange fnExactPathTriangleWrong)

/-- 'laws.FnExactInverseTriangle': WHATEVER THE INPUT: true; the input reads as it did. -/
def fnExactInverseTriangleSpec : ChangeSpec := { name := "fnExactInverseTriangle", fn := fun _ => fun
  | [d] => { results := [.lit (.bool true)], args := [d] }
  | _ => none }
def fnExactInverseTriangleRow : OpenClaim := { program := "ytcadiepghhnbeaa", sum := "d8dde5ebb53463c2fd50e0ff065aa6d7697bc8a2fcf643f49fd6d1f369579ca0", func := "loop.example/g01283/laws.FnExactInverseTriangle", spec := "fnExactInverseTriangle", unfollowed := true, recurses := true, plainKeys := false, apart := false }
def FnExactInverseTriangleSaid : Prop := fnExactInverseTriangleRow.holds Try.pinned (OpenSpec.ofChange fnExactInverseTriangleSpec)

/-- ITS FALSE NEIGHBOUR: 'it returns false'. Refute it at one input. -/
def fnExactInverseTriangleWrong : ChangeSpec := { name := "fnExactInverseTriangle", fn := fun _ => fun
  | [d] => { results := [.lit (.bool false)], args := [d] }
  | _ => none }
def FnExactInverseTriangleWrongFalsely : Prop := fnExactInverseTriangleRow.holds Try.pinned (OpenSpec.ofChange fnExactInverseTriangleWrong)

/-- 'laws.FnExactCountPaths': WHATEVER THE INPUT: true; the input reads as it did. -/
def fnExactCountPathsSpec : ChangeSpec := { name := "fnExactCountPaths", fn := fun _ => fun
  | [d1, d2, d3, d4] => { results := [.lit (.bool true)], args := [d1, d2, d3, d4] }
  | _ => none }
def fnExactCountPathsRow : OpenClaim := { program := "ytcadiepghhnbeaa", sum := "d8dde5ebb53463c2fd50e0ff065aa6d7697bc8a2fcf643f49fd6d1f369579ca0", func := "loop.example/g01283/laws.FnExactCountPaths", spec := "fnExactCountPaths", unfollowed := true, recurses := true, plainKeys := false, apart := false }
def FnExactCountPathsSaid : Prop := fnExactCountPathsRow.holds Try.pinned (OpenSpec.ofChange fnExactCountPathsSpec)

/-- ITS FALSE NEIGHBOUR: 'it returns false'. Refute it at one input. -/
def fnExactCountPathsWrong : ChangeSpec := { name := "fnExactCountPaths", fn := fun _ => fun
  | [d1, d2, d3, d4] => { results := [.lit (.bool false)], args := [d1, d2, d3, d4] }
  | _ => none }
def FnExactCountPathsWrongFalsely : Prop := fnExactCountPathsRow.holds Try.pinned (OpenSpec.ofChange fnExactCountPathsWrong)

/-- 'laws.FnExactCountLevelPaths': WHATEVER THE INPUT: true; the input reads as it did. -/
def fnExactCountLevelPathsSpec : ChangeSpec := { name := "fnExactCountLevelPaths", fn := fun _ => fun
  | [d1, d2, d3, d4] => { results := [.lit (.bool true)], args := [d1, d2, d3, d4] }
  | _ => none }
def fnExactCountLevelPathsRow : OpenClaim := { program := "ytcadiepghhnbeaa", sum := "d8dde5ebb53463c2fd50e0ff065aa6d7697bc8a2fcf643f49fd6d1f369579ca0", func := "loop.example/g01283/laws.FnExactCountLevelPaths", spec := "fnExactCountLevelPaths", unfollowed := true, recurses := true, plainKeys := false, apart := false }
def FnExactCountLevelPathsSaid : Prop := fnExactCountLevelPathsRow.holds Try.pinned (OpenSpec.ofChange fnExactCountLevelPathsSpec)

/-- ITS FALSE NEIGHBOUR: 'it returns false'. Refute it at one input. -/
def fnExactCountLevelPathsWrong : ChangeSpec := { name := "fnExactCountLevelPaths", fn := fun _ => fun
  | [d1, d2, d3, d4] => { results := [.lit (.bool false)], args := [d1, d2, d3, d4] }
  | _ => none }
def FnExactCountLevelPathsWrongFalsely : Prop := fnExactCountLevelPathsRow.holds Try.pinned (OpenSpec.ofChange fnExactCountLevelPathsWrong)

/-- 'laws.FnExactBallotNumber': WHATEVER THE INPUT: true; the input reads as it did. -/
def fnExactBallotNumberSpec : ChangeSpec := { name := "fnExactBallotNumber", fn := fun _ => fun
  | [d1, d2] => { results := [.lit (.bool true)], args := [d1, d2] }
  | _ => none }
def fnExactBallotNumberRow : OpenClaim := { program := "ytcadiepghhnbeaa", sum := "d8dde5ebb53463c2fd50e0ff065aa6d7697bc8a2fcf643f49fd6d1f369579ca0", func := "loop.example/g01283/laws.FnExactBallotNumber", spec := "fnExactBallotNumber", unfollowed := true, recurses := true, plainKeys := false, apart := false }
def FnExactBallotNumberSaid : Prop := fnExactBallotNumberRow.holds Try.pinned (OpenSpec.ofChange fnExactBallotNumberSpec)

/-- ITS FALSE NEIGHBOUR: 'it returns false'. Refute it at one input. -/
def fnExactBallotNumberWrong : ChangeSpec := { name := "fnExactBallotNumber", fn := fun _ => fun
  | [d1, d2] => { results := [.lit (.bool false)], args := [d1, d2] }
  | _ => none }
def FnExactBallotNumberWrongFalsely : Prop := fnExactBallotNumberRow.holds Try.pinned (OpenSpec.ofChange fnExactBallotNumberWrong)

/-- 'laws.FnExactTurningSums': WHATEVER THE INPUT: true; the input reads as it did. -/
def fnExactTurningSumsSpec : ChangeSpec := { name := "fnExactTurningSums", fn := fun _ => fun
  | [d1, d2] => { results := [.lit (.bool true)], args := [d1, d2] }
  | _ => none }
def fnExactTurningSumsRow : OpenClaim := { program := "ytcadiepghhnbeaa", sum := "d8dde5ebb53463c2fd50e0ff065aa6d7697bc8a2fcf643f49fd6d1f369579ca0", func := "loop.example/g01283/laws.FnExactTurningSums", spec := "fnExactTurningSums", unfollowed := true, recurses := true, plainKeys := false, apart := false }
def FnExactTurningSumsSaid : Prop := fnExactTurningSumsRow.holds Try.pinned (OpenSpec.ofChange fnExactTurningSumsSpec)

/-- ITS FALSE NEIGHBOUR: 'it returns false'. Refute it at one input. -/
def fnExactTurningSumsWrong : ChangeSpec := { name := "fnExactTurningSums", fn := fun _ => fun
  | [d1, d2] => { results := [.lit (.bool false)], args := [d1, d2] }
  | _ => none }
def FnExactTurningSumsWrongFalsely : Prop := fnExactTurningSumsRow.holds Try.pinned (OpenSpec.ofChange fnExactTurningSumsWrong)

/- THE SECOND FORM. 'bulk': how many values and letters a reading holds, each counted each time it is reached (what is shared counts as often as it is met; a slice's spare places count too). A statement '..UptoSaid' is the law's where the arguments, and the package variables that the reading takes, are together of bulk at most 1048576: NARROWER than '..Said'. Prove '..Said' where nothing that the law and all that it calls make is longer than what came in: it says more and counts as full. Else prove '..UptoSaid'. A law counts once. -/
mutual
def uptoBulk {H : Type} : DataW H → Nat
  | .lit (.string bytes) => bytes.length + 1
  | .lit _ => 1
  | .nil => 1
  | .ptr d => uptoBulk d + 1
  | .slice elems spare => uptoBulkAll elems + uptoBulkAll spare + 1
  | .agg parts => uptoBulkAll parts + 1
  | .iface _ d => uptoBulk d + 1
  | .map entries => uptoBulkEntries entries + 1
  | .held _ => 1
def uptoBulkAll {H : Type} : List (DataW H) → Nat
  | [] => 0
  | d :: r => uptoBulk d + uptoBulkAll r
def uptoBulkEntries {H : Type} : List (Lit × DataW H) → Nat
  | [] => 0
  | x :: r => uptoBulkEntry x + uptoBulkEntries r
def uptoBulkEntry {H : Type} : Lit × DataW H → Nat
  | (.string bytes, d) => bytes.length + uptoBulk d + 1
  | (_, d) => uptoBulk d + 1
 end
def uptoSmall : (H : Type) → List (DataW H) → Bool := fun _ ds => decide (uptoBulkAll ds ≤ 1048576)
def OpenSpec.upto (s : _root_.Go.ChangeSpec) : _root_.Go.OpenSpec := { _root_.Go.OpenSpec.ofChange s with cond := some uptoSmall }

/-- 'laws.FnExactWeightsFor', WHERE WHAT IT READS IS OF BULK AT MOST 1048576: true; the input reads as it did. -/
def fnExactWeightsForUptoRow : OpenClaim := { program := "ytcadiepghhnbeaa", sum := "d8dde5ebb53463c2fd50e0ff065aa6d7697bc8a2fcf643f49fd6d1f369579ca0", func := "loop.example/g01283/laws.FnExactWeightsFor", spec := "fnExactWeightsFor", unfollowed := true, recurses := true, plainKeys := false, apart := false, narrowed := true }
def FnExactWeightsForUptoSaid : Prop := fnExactWeightsForUptoRow.holds Try.pinned (OpenSpec.upto fnExactWeightsForSpec)

/-- 'laws.FnExactPathSum', WHERE WHAT IT READS IS OF BULK AT MOST 1048576: true; the input reads as it did. -/
def fnExactPathSumUptoRow : OpenClaim := { program := "ytcadiepghhnbeaa", sum := "d8dde5ebb53463c2fd50e0ff065aa6d7697bc8a2fcf643f49fd6d1f369579ca0", func := "loop.example/g01283/laws.FnExactPathSum", spec := "fnExactPathSum", unfollowed := true, recurses := true, plainKeys := false, apart := false, narrowed := true }
def FnExactPathSumUptoSaid : Prop := fnExactPathSumUptoRow.holds Try.pinned (OpenSpec.upto fnExactPathSumSpec)

/-- 'laws.FnExactPathTriangle', WHERE WHAT IT READS IS OF BULK AT MOST 1048576: true; the input reads as it did. -/
def fnExactPathTriangleUptoRow : OpenClaim := { program := "ytcadiepghhnbeaa", sum := "d8dde5ebb53463c2fd50e0ff065aa6d7697bc8a2fcf643f49fd6d1f369579ca0", func := "loop.example/g01283/laws.FnExactPathTriangle", spec := "fnExactPathTriangle", unfollowed := true, recurses := true, plainKeys := false, apart := false, narrowed := true }
def FnExactPathTriangleUptoSaid : Prop := fnExactPathTriangleUptoRow.holds Try.pinned (OpenSpec.upto fnExactPathTriangleSpec)

/-- 'laws.FnExactInverseTriangle', WHERE WHAT IT READS IS OF BULK AT MOST 1048576: true; the input reads as it did. -/
def fnExactInverseTriangleUptoRow : OpenClaim := { program := "ytcadiepghhnbeaa", sum := "d8dde5ebb53463c2fd50e0ff065aa6d7697bc8a2fcf643f49fd6d1f369579ca0", func := "loop.example/g01283/laws.FnExactInverseTriangle", spec := "fnExactInverseTriangle", unfollowed := true, recurses := true, plainKeys := false, apart := false, narrowed := true }
def FnExactInverseTriangleUptoSaid : Prop := fnExactInverseTriangleUptoRow.holds Try.pinned (OpenSpec.upto fnExactInverseTriangleSpec)

/-- 'laws.FnExactCountPaths', WHERE WHAT IT READS IS OF BULK AT MOST 1048576: true; the input reads as it did. -/
def fnExactCountPathsUptoRow : OpenClaim := { program := "ytcadiepghhnbeaa", sum := "d8dde5ebb53463c2fd50e0ff065aa6d7697bc8a2fcf643f49fd6d1f369579ca0", func := "loop.example/g01283/laws.FnExactCountPaths", spec := "fnExactCountPaths", unfollowed := true, recurses := true, plainKeys := false, apart := false, narrowed := true }
def FnExactCountPathsUptoSaid : Prop := fnExactCountPathsUptoRow.holds Try.pinned (OpenSpec.upto fnExactCountPathsSpec)

/-- 'laws.FnExactCountLevelPaths', WHERE WHAT IT READS IS OF BULK AT MOST 1048576: true; the input reads as it did. -/
def fnExactCountLevelPathsUptoRow : OpenClaim := { program := "ytcadiepghhnbeaa", sum := "d8dde5ebb53463c2fd50e0ff065aa6d7697bc8a2fcf643f49fd6d1f369579ca0", func := "loop.example/g01283/laws.FnExactCountLevelPaths", spec := "fnExactCountLevelPaths", unfollowed := true, recurses := true, plainKeys := false, apart := false, narrowed := true }
def FnExactCountLevelPathsUptoSaid : Prop := fnExactCountLevelPathsUptoRow.holds Try.pinned (OpenSpec.upto fnExactCountLevelPathsSpec)

/-- 'laws.FnExactBallotNumber', WHERE WHAT IT READS IS OF BULK AT MOST 1048576: true; the input reads as it did. -/
def fnExactBallotNumberUptoRow : OpenClaim := { program := "ytcadiepghhnbeaa", sum := "d8dde5ebb53463c2fd50e0ff065aa6d7697bc8a2fcf643f49fd6d1f369579ca0", func := "loop.example/g01283/laws.FnExactBallotNumber", spec := "fnExactBallotNumber", unfollowed := true, recurses := true, plainKeys := false, apart := false, narrowed := true }
def FnExactBallotNumberUptoSaid : Prop := fnExactBallotNumberUptoRow.holds Try.pinned (OpenSpec.upto fnExactBallotNumberSpec)

/-- 'laws.FnExactTurningSums', WHERE WHAT IT READS IS OF BULK AT MOST 1048576: true; the input reads as it did. -/
def fnExactTurningSumsUptoRow : OpenClaim := { program := "ytcadiepghhnbeaa", sum := "d8dde5ebb53463c2fd50e0ff065aa6d7697bc8a2fcf643f49fd6d1f369579ca0", func := "loop.example/g01283/laws.FnExactTurningSums", spec := "fnExactTurningSums", unfollowed := true, recurses := true, plainKeys := false, apart := false, narrowed := true }
def FnExactTurningSumsUptoSaid : Prop := fnExactTurningSumsUptoRow.holds Try.pinned (OpenSpec.upto fnExactTurningSumsSpec)

end Rows
end Go.Proofs.Ytcadiepghhnbeaa
