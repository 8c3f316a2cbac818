/-
  No cell of these rows narrows 'for every input' (looked for: loops, veiled, ifaces, maps, wideKeys, modest, calm, conditions, laid).
  DERIVED. THE GIVEN ROWS OF THIS SEAT. 12 by the template 'for every input the law returns true; each argument reads behind the call as it read before'; 0 by the template 'total and deterministic' (their statements: YtkpmonopjkjflaaTotals.lean).
  GIVEN WITH THE SEED: the statements are not yours to turn. If you find one false, say at which input.
  Laid BY PROGRAM, IN A SANDBOX (cutbox-rows.mjs): the forced cells as the released guide's own fill.sh prints them over the translation 9f37a1951444cf0f… (all of the seat's roots in one cut). By AI agents, Wed Nov 11 2026. No macro, syntax, notation, axiom, sorry.
-/
import Derived.Test.YtkpmonopjkjflaaChecked
import GoSem.Claim
import GoSem.ClaimJoined
import GoSem.ClaimMapViews
import Derived.JoinedTies
import Derived.KernelRfl
namespace Go.Proofs.Ytkpmonopjkjflaa
/- THE CELL 'sum', in the pinned program and in every row, IS THE sha256 OF THE DUMP (.gsa) THAT YtkpmonopjkjflaaProg.lean LOADS. Nothing in Lean hashes anything: it is a label: what it is worth is what the hold of that sum in a sandbox is worth. -/
noncomputable def Try.pinned : Pinned := { name := "ytkpmonopjkjflaa", sum := "9f37a1951444cf0f6f04b12dbb7a135f6d6a318c5453cd320f02c85284602be3", checked := Try.checked }
namespace Rows
def none {H : Type} : Left H := { results := [], args := [] }

/-- 'laws.FnExactAffineMoments': WHATEVER THE INPUT: true; the input reads as it did. -/
def fnExactAffineMomentsSpec : ChangeSpec := { name := "fnExactAffineMoments", fn := fun _ => fun
  | [d1, d2, d3] => { results := [.lit (.bool true)], args := [d1, d2, d3] }
  | _ => none }
def fnExactAffineMomentsRow : OpenClaim := { program := "ytkpmonopjkjflaa", sum := "9f37a1951444cf0f6f04b12dbb7a135f6d6a318c5453cd320f02c85284602be3", func := "loop.example/g01283/laws.FnExactAffineMoments", spec := "fnExactAffineMoments", unfollowed := true, recurses := true, plainKeys := false, apart := false }
def FnExactAffineMomentsSaid : Prop := fnExactAffineMomentsRow.holds Try.pinned (OpenSpec.ofChange fnExactAffineMomentsSpec)

/-- ITS FALSE NEIGHBOUR: 'it returns false'. Refute it at one input. -/
def fnExactAffineMomentsWrong : ChangeSpec := { name := "fnExactAffineMoments", fn := fun _ => fun
  | [d1, d2, d3] => { results := [.lit (.bool false)], args := [d1, d2, d3] }
  | _ => none }
def FnExactAffineMomentsWrongFalsely : Prop := fnExactAffineMomentsRow.holds Try.pinned (OpenSpec.ofChange fnExactAffineMomentsWrong)

/-- 'laws.FnExactCharacteristicPoly': WHATEVER THE INPUT: true; the input reads as it did. -/
def fnExactCharacteristicPolySpec : ChangeSpec := { name := "fnExactCharacteristicPoly", fn := fun _ => fun
  | [d1, d2] => { results := [.lit (.bool true)], args := [d1, d2] }
  | _ => none }
def fnExactCharacteristicPolyRow : OpenClaim := { program := "ytkpmonopjkjflaa", sum := "9f37a1951444cf0f6f04b12dbb7a135f6d6a318c5453cd320f02c85284602be3", func := "loop.example/g01283/laws.FnExactCharacteristicPoly", spec := "fnExactCharacteristicPoly", unfollowed := true, recurses := true, plainKeys := false, apart := false }
def FnExactCharacteristicPolySaid : Prop := fnExactCharacteristicPolyRow.holds Try.pinned (OpenSpec.ofChange fnExactCharacteristicPolySpec)

/-- ITS FALSE NEIGHBOUR: 'it returns false'. Refute it at one input. -/
def fnExactCharacteristicPolyWrong : ChangeSpec := { name := "fnExactCharacteristicPoly", fn := fun _ => fun
  | [d1, d2] => { results := [.lit (.bool false)], args := [d1, d2] }
  | _ => none }
def FnExactCharacteristicPolyWrongFalsely : Prop := fnExactCharacteristicPolyRow.holds Try.pinned (OpenSpec.ofChange fnExactCharacteristicPolyWrong)

/-- 'laws.FnExactConvergentsOf': WHATEVER THE INPUT: true; the input reads as it did. -/
def fnExactConvergentsOfSpec : ChangeSpec := { name := "fnExactConvergentsOf", fn := fun _ => fun
  | [d1, d2] => { results := [.lit (.bool true)], args := [d1, d2] }
  | _ => none }
def fnExactConvergentsOfRow : OpenClaim := { program := "ytkpmonopjkjflaa", sum := "9f37a1951444cf0f6f04b12dbb7a135f6d6a318c5453cd320f02c85284602be3", func := "loop.example/g01283/laws.FnExactConvergentsOf", spec := "fnExactConvergentsOf", plainKeys := false, apart := false }
def FnExactConvergentsOfSaid : Prop := fnExactConvergentsOfRow.holds Try.pinned (OpenSpec.ofChange fnExactConvergentsOfSpec)

/-- ITS FALSE NEIGHBOUR: 'it returns false'. Refute it at one input. -/
def fnExactConvergentsOfWrong : ChangeSpec := { name := "fnExactConvergentsOf", fn := fun _ => fun
  | [d1, d2] => { results := [.lit (.bool false)], args := [d1, d2] }
  | _ => none }
def FnExactConvergentsOfWrongFalsely : Prop := fnExactConvergentsOfRow.holds Try.pinned (OpenSpec.ofChange fnExactConvergentsOfWrong)

/-- 'laws.FnExactMultiplicityOf': WHATEVER THE INPUT: true; the input reads as it did. -/
def fnExactMultiplicityOfSpec : ChangeSpec := { name := "fnExactMultiplicityOf", fn := fun _ => fun
  | [d1, d2, d3] => { results := [.lit (.bool true)], args := [d1, d2, d3] }
  | _ => none }
def fnExactMultiplicityOfRow : OpenClaim := { program := "ytkpmonopjkjflaa", sum := "9f37a1951444cf0f6f04b12dbb7a135f6d6a318c5453cd320f02c85284602be3", func := "loop.example/g01283/laws.FnExactMultiplicityOf", spec := "fnExactMultiplicityOf", unfollowed := true, recurses := true, plainKeys := false, apart := false }
def FnExactMultiplicityOfSaid : Prop := fnExactMultiplicityOfRow.holds Try.pinned (OpenSpec.ofChange fnExactMultiplicityOfSpec)

/-- ITS FALSE NEIGHBOUR: 'it returns false'. Refute it at one input. -/
def fnExactMultiplicityOfWrong : ChangeSpec := { name := "fnExactMultiplicityOf", fn := fun _ => fun
  | [d1, d2, d3] => { results := [.lit (.bool false)], args := [d1, d2, d3] }
  | _ => none }
def FnExactMultiplicityOfWrongFalsely : Prop := fnExactMultiplicityOfRow.holds Try.pinned (OpenSpec.ofChange fnExactMultiplicityOfWrong)

/-- 'laws.FnExactIsRule': WHATEVER THE INPUT: true; the input reads as it did. -/
def fnExactIsRuleSpec : ChangeSpec := { name := "fnExactIsRule", fn := fun _ => fun
  | [d] => { results := [.lit (.bool true)], args := [d] }
  | _ => none }
def fnExactIsRuleRow : OpenClaim := { program := "ytkpmonopjkjflaa", sum := "9f37a1951444cf0f6f04b12dbb7a135f6d6a318c5453cd320f02c85284602be3", func := "loop.example/g01283/laws.FnExactIsRule", spec := "fnExactIsRule", plainKeys := false, apart := false }
def FnExactIsRuleSaid : Prop := fnExactIsRuleRow.holds Try.pinned (OpenSpec.ofChange fnExactIsRuleSpec)

/-- ITS FALSE NEIGHBOUR: 'it returns false'. Refute it at one input. -/
def fnExactIsRuleWrong : ChangeSpec := { name := "fnExactIsRule", fn := fun _ => fun
  | [d] => { results := [.lit (.bool false)], args := [d] }
  | _ => none }
def FnExactIsRuleWrongFalsely : Prop := fnExactIsRuleRow.holds Try.pinned (OpenSpec.ofChange fnExactIsRuleWrong)

/-- 'laws.FnExactWeightsFor': WHATEVER THE INPUT: true; the input reads as it did. -/
def fnExactWeightsForSpec : ChangeSpec := { name := "fnExactWeightsFor", fn := fun _ => fun
  | [d1, d2] => { results := [.lit (.bool true)], args := [d1, d2] }
  | _ => none }
def fnExactWeightsForRow : OpenClaim := { program := "ytkpmonopjkjflaa", sum := "9f37a1951444cf0f6f04b12dbb7a135f6d6a318c5453cd320f02c85284602be3", func := "loop.example/g01283/laws.FnExactWeightsFor", spec := "fnExactWeightsFor", unfollowed := true, recurses := true, plainKeys := false, apart := false }
def FnExactWeightsForSaid : Prop := fnExactWeightsForRow.holds Try.pinned (OpenSpec.ofChange fnExactWeightsForSpec)

/-- ITS FALSE NEIGHBOUR: 'it returns false'. Refute it at one input. -/
def fnExactWeightsForWrong : ChangeSpec := { name := "fnExactWeightsFor", fn := fun _ => fun
  | [d1, d2] => { results := [.lit (.bool false)], args := [d1, d2] }
  | _ => none }
def FnExactWeightsForWrongFalsely : Prop := fnExactWeightsForRow.holds Try.pinned (OpenSpec.ofChange fnExactWeightsForWrong)

/-- 'laws.FnExactRadauJacobi': WHATEVER THE INPUT: true; the input reads as it did. -/
def fnExactRadauJacobiSpec : ChangeSpec := { name := "fnExactRadauJacobi", fn := fun _ => fun
  | [d1, d2] => { results := [.lit (.bool true)], args := [d1, d2] }
  | _ => none }
def fnExactRadauJacobiRow : OpenClaim := { program := "ytkpmonopjkjflaa", sum := "9f37a1951444cf0f6f04b12dbb7a135f6d6a318c5453cd320f02c85284602be3", func := "loop.example/g01283/laws.FnExactRadauJacobi", spec := "fnExactRadauJacobi", unfollowed := true, recurses := true, plainKeys := false, apart := false }
def FnExactRadauJacobiSaid : Prop := fnExactRadauJacobiRow.holds Try.pinned (OpenSpec.ofChange fnExactRadauJacobiSpec)

/-- ITS FALSE NEIGHBOUR: 'it returns false'. Refute it at one input. -/
def fnExactRadauJacobiWrong : ChangeSpec := { name := "fnExactRadauJacobi", fn := fun _ => fun
  | [d1, d2] => { results := [.lit (.bool false)], args := [d1, d2] }
  | _ => none }
def FnExactRadauJacobiWrongFalsely : Prop := fnExactRadauJacobiRow.holds Try.pinned (OpenSpec.ofChange fnExactRadauJacobiWrong)

/-- 'laws.FnExactMoveRule': WHATEVER THE INPUT: true; the input reads as it did. -/
def fnExactMoveRuleSpec : ChangeSpec := { name := "fnExactMoveRule", fn := fun _ => fun
  | [d1, d2, d3] => { results := [.lit (.bool true)], args := [d1, d2, d3] }
  | _ => none }
def fnExactMoveRuleRow : OpenClaim := { program := "ytkpmonopjkjflaa", sum := "9f37a1951444cf0f6f04b12dbb7a135f6d6a318c5453cd320f02c85284602be3", func := "loop.example/g01283/laws.FnExactMoveRule", spec := "fnExactMoveRule", unfollowed := true, recurses := true, plainKeys := false, apart := false }
def FnExactMoveRuleSaid : Prop := fnExactMoveRuleRow.holds Try.pinned (OpenSpec.ofChange fnExactMoveRuleSpec)

/-- ITS FALSE NEIGHBOUR: 'it returns false'. Refute it at one input. -/
def fnExactMoveRuleWrong : ChangeSpec := { name := "fnExactMoveRule", fn := fun _ => fun
  | [d1, d2, d3] => { results := [.lit (.bool false)], args := [d1, d2, d3] }
  | _ => none }
def FnExactMoveRuleWrongFalsely : Prop := fnExactMoveRuleRow.holds Try.pinned (OpenSpec.ofChange fnExactMoveRuleWrong)

/-- 'laws.FnExactMergeRules': WHATEVER THE INPUT: true; the input reads as it did. -/
def fnExactMergeRulesSpec : ChangeSpec := { name := "fnExactMergeRules", fn := fun _ => fun
  | [d1, d2, d3] => { results := [.lit (.bool true)], args := [d1, d2, d3] }
  | _ => none }
def fnExactMergeRulesRow : OpenClaim := { program := "ytkpmonopjkjflaa", sum := "9f37a1951444cf0f6f04b12dbb7a135f6d6a318c5453cd320f02c85284602be3", func := "loop.example/g01283/laws.FnExactMergeRules", spec := "fnExactMergeRules", unfollowed := true, recurses := true, plainKeys := false, apart := false }
def FnExactMergeRulesSaid : Prop := fnExactMergeRulesRow.holds Try.pinned (OpenSpec.ofChange fnExactMergeRulesSpec)

/-- ITS FALSE NEIGHBOUR: 'it returns false'. Refute it at one input. -/
def fnExactMergeRulesWrong : ChangeSpec := { name := "fnExactMergeRules", fn := fun _ => fun
  | [d1, d2, d3] => { results := [.lit (.bool false)], args := [d1, d2, d3] }
  | _ => none }
def FnExactMergeRulesWrongFalsely : Prop := fnExactMergeRulesRow.holds Try.pinned (OpenSpec.ofChange fnExactMergeRulesWrong)

/-- 'laws.FnExactWithoutRests': WHATEVER THE INPUT: true; the input reads as it did. -/
def fnExactWithoutRestsSpec : ChangeSpec := { name := "fnExactWithoutRests", fn := fun _ => fun
  | [d] => { results := [.lit (.bool true)], args := [d] }
  | _ => none }
def fnExactWithoutRestsRow : OpenClaim := { program := "ytkpmonopjkjflaa", sum := "9f37a1951444cf0f6f04b12dbb7a135f6d6a318c5453cd320f02c85284602be3", func := "loop.example/g01283/laws.FnExactWithoutRests", spec := "fnExactWithoutRests", unfollowed := true, recurses := true, plainKeys := false, apart := false }
def FnExactWithoutRestsSaid : Prop := fnExactWithoutRestsRow.holds Try.pinned (OpenSpec.ofChange fnExactWithoutRestsSpec)

/-- ITS FALSE NEIGHBOUR: 'it returns false'. Refute it at one input. -/
def fnExactWithoutRestsWrong : ChangeSpec := { name := "fnExactWithoutRests", fn := fun _ => fun
  | [d] => { results := [.lit (.bool false)], args := [d] }
  | _ => none }
def FnExactWithoutRestsWrongFalsely : Prop := fnExactWithoutRestsRow.holds Try.pinned (OpenSpec.ofChange fnExactWithoutRestsWrong)

/-- 'laws.FnExactNodePoly': WHATEVER THE INPUT: true; the input reads as it did. -/
def fnExactNodePolySpec : ChangeSpec := { name := "fnExactNodePoly", fn := fun _ => fun
  | [d] => { results := [.lit (.bool true)], args := [d] }
  | _ => none }
def fnExactNodePolyRow : OpenClaim := { program := "ytkpmonopjkjflaa", sum := "9f37a1951444cf0f6f04b12dbb7a135f6d6a318c5453cd320f02c85284602be3", func := "loop.example/g01283/laws.FnExactNodePoly", spec := "fnExactNodePoly", plainKeys := false, apart := false }
def FnExactNodePolySaid : Prop := fnExactNodePolyRow.holds Try.pinned (OpenSpec.ofChange fnExactNodePolySpec)

/-- ITS FALSE NEIGHBOUR: 'it returns false'. Refute it at one input. -/
def fnExactNodePolyWrong : ChangeSpec := { name := "fnExactNodePoly", fn := fun _ => fun
  | [d] => { results := [.lit (.bool false)], args := [d] }
  | _ => none }
def FnExactNodePolyWrongFalsely : Prop := fnExactNodePolyRow.holds Try.pinned (OpenSpec.ofChange fnExactNodePolyWrong)

/-- 'laws.FnExactChristoffelAt': WHATEVER THE INPUT: true; the input reads as it did. -/
def fnExactChristoffelAtSpec : ChangeSpec := { name := "fnExactChristoffelAt", fn := fun _ => fun
  | [d1, d2] => { results := [.lit (.bool true)], args := [d1, d2] }
  | _ => none }
def fnExactChristoffelAtRow : OpenClaim := { program := "ytkpmonopjkjflaa", sum := "9f37a1951444cf0f6f04b12dbb7a135f6d6a318c5453cd320f02c85284602be3", func := "loop.example/g01283/laws.FnExactChristoffelAt", spec := "fnExactChristoffelAt", unfollowed := true, recurses := true, plainKeys := false, apart := false }
def FnExactChristoffelAtSaid : Prop := fnExactChristoffelAtRow.holds Try.pinned (OpenSpec.ofChange fnExactChristoffelAtSpec)

/-- ITS FALSE NEIGHBOUR: 'it returns false'. Refute it at one input. -/
def fnExactChristoffelAtWrong : ChangeSpec := { name := "fnExactChristoffelAt", fn := fun _ => fun
  | [d1, d2] => { results := [.lit (.bool false)], args := [d1, d2] }
  | _ => none }
def FnExactChristoffelAtWrongFalsely : Prop := fnExactChristoffelAtRow.holds Try.pinned (OpenSpec.ofChange fnExactChristoffelAtWrong)

/- THE SECOND FORM. 'bulk': how many values and letters a reading holds, each counted each time it is reached (what is shared counts as often as it is met; a slice's spare places count too). A statement '..UptoSaid' is the law's where the arguments, and the package variables that the reading takes, are together of bulk at most 1048576: NARROWER than '..Said'. Prove '..Said' where nothing that the law and all that it calls make is longer than what came in: it says more and counts as full. Else prove '..UptoSaid'. A law counts once. -/
mutual
def uptoBulk {H : Type} : DataW H → Nat
  | .lit (.string bytes) => bytes.length + 1
  | .lit _ => 1
  | .nil => 1
  | .ptr d => uptoBulk d + 1
  | .slice elems spare => uptoBulkAll elems + uptoBulkAll spare + 1
  | .agg parts => uptoBulkAll parts + 1
  | .iface _ d => uptoBulk d + 1
  | .map entries => uptoBulkEntries entries + 1
  | .held _ => 1
def uptoBulkAll {H : Type} : List (DataW H) → Nat
  | [] => 0
  | d :: r => uptoBulk d + uptoBulkAll r
def uptoBulkEntries {H : Type} : List (Lit × DataW H) → Nat
  | [] => 0
  | x :: r => uptoBulkEntry x + uptoBulkEntries r
def uptoBulkEntry {H : Type} : Lit × DataW H → Nat
  | (.string bytes, d) => bytes.length + uptoBulk d + 1
  | (_, d) => uptoBulk d + 1
 end
def uptoSmall : (H : Type) → List (DataW H) → Bool := fun _ ds => decide (uptoBulkAll ds ≤ 1048576)
def OpenSpec.upto (s : _root_.Go.ChangeSpec) : _root_.Go.OpenSpec := { _root_.Go.OpenSpec.ofChange s with cond := some uptoSmall }

/-- 'laws.FnExactAffineMoments', WHERE WHAT IT READS IS OF BULK AT MOST 1048576: true; the input reads as it did. -/
def fnExactAffineMomentsUptoRow : OpenClaim := { program := "ytkpmonopjkjflaa", sum := "9f37a1951444cf0f6f04b12dbb7a135f6d6a318c5453cd320f02c85284602be3", func := "loop.example/g01283/laws.FnExactAffineMoments", spec := "fnExactAffineMoments", unfollowed := true, recurses := true, plainKeys := false, apart := false, narrowed := true }
def FnExactAffineMomentsUptoSaid : Prop := fnExactAffineMomentsUptoRow.holds Try.pinned (OpenSpec.upto fnExactAffineMomentsSpec)

/-- 'laws.FnExactCharacteristicPoly', WHERE WHAT IT READS IS OF BULK AT MOST 1048576: true; the input reads as it did. -/
def fnExactCharacteristicPolyUptoRow : OpenClaim := { program := "ytkpmonopjkjflaa", sum := "9f37a1951444cf0f6f04b12dbb7a135f6d6a318c5453cd320f02c85284602be3", func := "loop.example/g01283/laws.FnExactCharacteristicPoly", spec := "fnExactCharacteristicPoly", unfollowed := true, recurses := true, plainKeys := false, apart := false, narrowed := true }
def FnExactCharacteristicPolyUptoSaid : Prop := fnExactCharacteristicPolyUptoRow.holds Try.pinned (OpenSpec.upto fnExactCharacteristicPolySpec)

/-- 'laws.FnExactConvergentsOf', WHERE WHAT IT READS IS OF BULK AT MOST 1048576: true; the input reads as it did. -/
def fnExactConvergentsOfUptoRow : OpenClaim := { program := "ytkpmonopjkjflaa", sum := "9f37a1951444cf0f6f04b12dbb7a135f6d6a318c5453cd320f02c85284602be3", func := "loop.example/g01283/laws.FnExactConvergentsOf", spec := "fnExactConvergentsOf", plainKeys := false, apart := false, narrowed := true }
def FnExactConvergentsOfUptoSaid : Prop := fnExactConvergentsOfUptoRow.holds Try.pinned (OpenSpec.upto fnExactConvergentsOfSpec)

/-- 'laws.FnExactMultiplicityOf', WHERE WHAT IT READS IS OF BULK AT MOST 1048576: true; the input reads as it did. -/
def fnExactMultiplicityOfUptoRow : OpenClaim := { program := "ytkpmonopjkjflaa", sum := "9f37a1951444cf0f6f04b12dbb7a135f6d6a318c5453cd320f02c85284602be3", func := "loop.example/g01283/laws.FnExactMultiplicityOf", spec := "fnExactMultiplicityOf", unfollowed := true, recurses := true, plainKeys := false, apart := false, narrowed := true }
def FnExactMultiplicityOfUptoSaid : Prop := fnExactMultiplicityOfUptoRow.holds Try.pinned (OpenSpec.upto fnExactMultiplicityOfSpec)

/-- 'laws.FnExactIsRule', WHERE WHAT IT READS IS OF BULK AT MOST 1048576: true; the input reads as it did. -/
def fnExactIsRuleUptoRow : OpenClaim := { program := "ytkpmonopjkjflaa", sum := "9f37a1951444cf0f6f04b12dbb7a135f6d6a318c5453cd320f02c85284602be3", func := "loop.example/g01283/laws.FnExactIsRule", spec := "fnExactIsRule", plainKeys := false, apart := false, narrowed := true }
def FnExactIsRuleUptoSaid : Prop := fnExactIsRuleUptoRow.holds Try.pinned (OpenSpec.upto fnExactIsRuleSpec)

/-- 'laws.FnExactWeightsFor', WHERE WHAT IT READS IS OF BULK AT MOST 1048576: true; the input reads as it did. -/
def fnExactWeightsForUptoRow : OpenClaim := { program := "ytkpmonopjkjflaa", sum := "9f37a1951444cf0f6f04b12dbb7a135f6d6a318c5453cd320f02c85284602be3", func := "loop.example/g01283/laws.FnExactWeightsFor", spec := "fnExactWeightsFor", unfollowed := true, recurses := true, plainKeys := false, apart := false, narrowed := true }
def FnExactWeightsForUptoSaid : Prop := fnExactWeightsForUptoRow.holds Try.pinned (OpenSpec.upto fnExactWeightsForSpec)

/-- 'laws.FnExactRadauJacobi', WHERE WHAT IT READS IS OF BULK AT MOST 1048576: true; the input reads as it did. -/
def fnExactRadauJacobiUptoRow : OpenClaim := { program := "ytkpmonopjkjflaa", sum := "9f37a1951444cf0f6f04b12dbb7a135f6d6a318c5453cd320f02c85284602be3", func := "loop.example/g01283/laws.FnExactRadauJacobi", spec := "fnExactRadauJacobi", unfollowed := true, recurses := true, plainKeys := false, apart := false, narrowed := true }
def FnExactRadauJacobiUptoSaid : Prop := fnExactRadauJacobiUptoRow.holds Try.pinned (OpenSpec.upto fnExactRadauJacobiSpec)

/-- 'laws.FnExactMoveRule', WHERE WHAT IT READS IS OF BULK AT MOST 1048576: true; the input reads as it did. -/
def fnExactMoveRuleUptoRow : OpenClaim := { program := "ytkpmonopjkjflaa", sum := "9f37a1951444cf0f6f04b12dbb7a135f6d6a318c5453cd320f02c85284602be3", func := "loop.example/g01283/laws.FnExactMoveRule", spec := "fnExactMoveRule", unfollowed := true, recurses := true, plainKeys := false, apart := false, narrowed := true }
def FnExactMoveRuleUptoSaid : Prop := fnExactMoveRuleUptoRow.holds Try.pinned (OpenSpec.upto fnExactMoveRuleSpec)

/-- 'laws.FnExactMergeRules', WHERE WHAT IT READS IS OF BULK AT MOST 1048576: true; the input reads as it did. -/
def fnExactMergeRulesUptoRow : OpenClaim := { program := "ytkpmonopjkjflaa", sum := "9f37a1951444cf0f6f04b12dbb7a135f6d6a318c5453cd320f02c85284602be3", func := "loop.example/g01283/laws.FnExactMergeRules", spec := "fnExactMergeRules", unfollowed := true, recurses := true, plainKeys := false, apart := false, narrowed := true }
def FnExactMergeRulesUptoSaid : Prop := fnExactMergeRulesUptoRow.holds Try.pinned (OpenSpec.upto fnExactMergeRulesSpec)

/-- 'laws.FnExactWithoutRests', WHERE WHAT IT READS IS OF BULK AT MOST 1048576: true; the input reads as it did. -/
def fnExactWithoutRestsUptoRow : OpenClaim := { program := "ytkpmonopjkjflaa", sum := "9f37a1951444cf0f6f04b12dbb7a135f6d6a318c5453cd320f02c85284602be3", func := "loop.example/g01283/laws.FnExactWithoutRests", spec := "fnExactWithoutRests", unfollowed := true, recurses := true, plainKeys := false, apart := false, narrowed := true }
def FnExactWithoutRestsUptoSaid : Prop := fnExactWithoutRestsUptoRow.holds Try.pinned (OpenSpec.upto fnExactWithoutRestsSpec)

/-- 'laws.FnExactNodePoly', WHERE WHAT IT READS IS OF BULK AT MOST 1048576: true; the input reads as it did. -/
def fnExactNodePolyUptoRow : OpenClaim := { program := "ytkpmonopjkjflaa", sum := "9f37a1951444cf0f6f04b12dbb7a135f6d6a318c5453cd320f02c85284602be3", func := "loop.example/g01283/laws.FnExactNodePoly", spec := "fnExactNodePoly", plainKeys := false, apart := false, narrowed := true }
def FnExactNodePolyUptoSaid : Prop := fnExactNodePolyUptoRow.holds Try.pinned (OpenSpec.upto fnExactNodePolySpec)

/-- 'laws.FnExactChristoffelAt', WHERE WHAT IT READS IS OF BULK AT MOST 1048576: true; the input reads as it did. -/
def fnExactChristoffelAtUptoRow : OpenClaim := { program := "ytkpmonopjkjflaa", sum := "9f37a1951444cf0f6f04b12dbb7a135f6d6a318c5453cd320f02c85284602be3", func := "loop.example/g01283/laws.FnExactChristoffelAt", spec := "fnExactChristoffelAt", unfollowed := true, recurses := true, plainKeys := false, apart := false, narrowed := true }
def FnExactChristoffelAtUptoSaid : Prop := fnExactChristoffelAtUptoRow.holds Try.pinned (OpenSpec.upto fnExactChristoffelAtSpec)

end Rows
end Go.Proofs.Ytkpmonopjkjflaa
