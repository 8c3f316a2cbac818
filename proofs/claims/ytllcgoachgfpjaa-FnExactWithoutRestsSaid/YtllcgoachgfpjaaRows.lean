/-
  No cell of these rows narrows 'for every input' (looked for: loops, veiled, ifaces, maps, wideKeys, modest, calm, conditions, laid).
  DERIVED. THE GIVEN ROWS OF THIS SEAT. 12 by the template 'for every input the law returns true; each argument reads behind the call as it read before'; 0 by the template 'total and deterministic' (their statements: YtllcgoachgfpjaaTotals.lean).
  GIVEN WITH THE SEED: the statements are not yours to turn. If you find one false, say at which input.
  Laid BY PROGRAM, IN A SANDBOX (cutbox-rows.mjs): the forced cells as the released guide's own fill.sh prints them over the translation dcb6458fd3dffc66… (all of the seat's roots in one cut). By AI agents, Wed Nov 11 2026. No macro, syntax, notation, axiom, sorry.
-/
import Derived.Test.YtllcgoachgfpjaaChecked
import GoSem.Claim
import GoSem.ClaimJoined
import GoSem.ClaimMapViews
import Derived.JoinedTies
import Derived.KernelRfl
namespace Go.Proofs.Ytllcgoachgfpjaa
/- THE CELL 'sum', in the pinned program and in every row, IS THE sha256 OF THE DUMP (.gsa) THAT YtllcgoachgfpjaaProg.lean LOADS. Nothing in Lean hashes anything: it is a label: what it is worth is what the hold of that sum in a sandbox is worth. -/
noncomputable def Try.pinned : Pinned := { name := "ytllcgoachgfpjaa", sum := "dcb6458fd3dffc66dab126592ea2dac0831d1a029023ddce4e0db2f1349008b5", checked := Try.checked }
namespace Rows
def none {H : Type} : Left H := { results := [], args := [] }

/-- 'laws.FnExactMultiplyMoments': WHATEVER THE INPUT: true; the input reads as it did. -/
def fnExactMultiplyMomentsSpec : ChangeSpec := { name := "fnExactMultiplyMoments", fn := fun _ => fun
  | [d1, d2] => { results := [.lit (.bool true)], args := [d1, d2] }
  | _ => none }
def fnExactMultiplyMomentsRow : OpenClaim := { program := "ytllcgoachgfpjaa", sum := "dcb6458fd3dffc66dab126592ea2dac0831d1a029023ddce4e0db2f1349008b5", func := "loop.example/g01283/laws.FnExactMultiplyMoments", spec := "fnExactMultiplyMoments", unfollowed := true, recurses := true, plainKeys := false, apart := false }
def FnExactMultiplyMomentsSaid : Prop := fnExactMultiplyMomentsRow.holds Try.pinned (OpenSpec.ofChange fnExactMultiplyMomentsSpec)

/-- ITS FALSE NEIGHBOUR: 'it returns false'. Refute it at one input. -/
def fnExactMultiplyMomentsWrong : ChangeSpec := { name := "fnExactMultiplyMoments", fn := fun _ => fun
  | [d1, d2] => { results := [.lit (.bool false)], args := [d1, d2] }
  | _ => none }
def FnExactMultiplyMomentsWrongFalsely : Prop := fnExactMultiplyMomentsRow.holds Try.pinned (OpenSpec.ofChange fnExactMultiplyMomentsWrong)

/-- 'laws.FnExactDivideMoments': WHATEVER THE INPUT: true; the input reads as it did. -/
def fnExactDivideMomentsSpec : ChangeSpec := { name := "fnExactDivideMoments", fn := fun _ => fun
  | [d1, d2, d3] => { results := [.lit (.bool true)], args := [d1, d2, d3] }
  | _ => none }
def fnExactDivideMomentsRow : OpenClaim := { program := "ytllcgoachgfpjaa", sum := "dcb6458fd3dffc66dab126592ea2dac0831d1a029023ddce4e0db2f1349008b5", func := "loop.example/g01283/laws.FnExactDivideMoments", spec := "fnExactDivideMoments", plainKeys := false, apart := false }
def FnExactDivideMomentsSaid : Prop := fnExactDivideMomentsRow.holds Try.pinned (OpenSpec.ofChange fnExactDivideMomentsSpec)

/-- ITS FALSE NEIGHBOUR: 'it returns false'. Refute it at one input. -/
def fnExactDivideMomentsWrong : ChangeSpec := { name := "fnExactDivideMoments", fn := fun _ => fun
  | [d1, d2, d3] => { results := [.lit (.bool false)], args := [d1, d2, d3] }
  | _ => none }
def FnExactDivideMomentsWrongFalsely : Prop := fnExactDivideMomentsRow.holds Try.pinned (OpenSpec.ofChange fnExactDivideMomentsWrong)

/-- 'laws.FnExactAddMass': WHATEVER THE INPUT: true; the input reads as it did. -/
def fnExactAddMassSpec : ChangeSpec := { name := "fnExactAddMass", fn := fun _ => fun
  | [d1, d2, d3] => { results := [.lit (.bool true)], args := [d1, d2, d3] }
  | _ => none }
def fnExactAddMassRow : OpenClaim := { program := "ytllcgoachgfpjaa", sum := "dcb6458fd3dffc66dab126592ea2dac0831d1a029023ddce4e0db2f1349008b5", func := "loop.example/g01283/laws.FnExactAddMass", spec := "fnExactAddMass", plainKeys := false, apart := false }
def FnExactAddMassSaid : Prop := fnExactAddMassRow.holds Try.pinned (OpenSpec.ofChange fnExactAddMassSpec)

/-- ITS FALSE NEIGHBOUR: 'it returns false'. Refute it at one input. -/
def fnExactAddMassWrong : ChangeSpec := { name := "fnExactAddMass", fn := fun _ => fun
  | [d1, d2, d3] => { results := [.lit (.bool false)], args := [d1, d2, d3] }
  | _ => none }
def FnExactAddMassWrongFalsely : Prop := fnExactAddMassRow.holds Try.pinned (OpenSpec.ofChange fnExactAddMassWrong)

/-- 'laws.FnExactStepOfJacobi': WHATEVER THE INPUT: true; the input reads as it did. -/
def fnExactStepOfJacobiSpec : ChangeSpec := { name := "fnExactStepOfJacobi", fn := fun _ => fun
  | [d1, d2] => { results := [.lit (.bool true)], args := [d1, d2] }
  | _ => none }
def fnExactStepOfJacobiRow : OpenClaim := { program := "ytllcgoachgfpjaa", sum := "dcb6458fd3dffc66dab126592ea2dac0831d1a029023ddce4e0db2f1349008b5", func := "loop.example/g01283/laws.FnExactStepOfJacobi", spec := "fnExactStepOfJacobi", unfollowed := true, recurses := true, plainKeys := false, apart := false }
def FnExactStepOfJacobiSaid : Prop := fnExactStepOfJacobiRow.holds Try.pinned (OpenSpec.ofChange fnExactStepOfJacobiSpec)

/-- ITS FALSE NEIGHBOUR: 'it returns false'. Refute it at one input. -/
def fnExactStepOfJacobiWrong : ChangeSpec := { name := "fnExactStepOfJacobi", fn := fun _ => fun
  | [d1, d2] => { results := [.lit (.bool false)], args := [d1, d2] }
  | _ => none }
def FnExactStepOfJacobiWrongFalsely : Prop := fnExactStepOfJacobiRow.holds Try.pinned (OpenSpec.ofChange fnExactStepOfJacobiWrong)

/-- 'laws.FnExactStepBack': WHATEVER THE INPUT: true; the input reads as it did. -/
def fnExactStepBackSpec : ChangeSpec := { name := "fnExactStepBack", fn := fun _ => fun
  | [d1, d2, d3] => { results := [.lit (.bool true)], args := [d1, d2, d3] }
  | _ => none }
def fnExactStepBackRow : OpenClaim := { program := "ytllcgoachgfpjaa", sum := "dcb6458fd3dffc66dab126592ea2dac0831d1a029023ddce4e0db2f1349008b5", func := "loop.example/g01283/laws.FnExactStepBack", spec := "fnExactStepBack", unfollowed := true, recurses := true, plainKeys := false, apart := false }
def FnExactStepBackSaid : Prop := fnExactStepBackRow.holds Try.pinned (OpenSpec.ofChange fnExactStepBackSpec)

/-- ITS FALSE NEIGHBOUR: 'it returns false'. Refute it at one input. -/
def fnExactStepBackWrong : ChangeSpec := { name := "fnExactStepBack", fn := fun _ => fun
  | [d1, d2, d3] => { results := [.lit (.bool false)], args := [d1, d2, d3] }
  | _ => none }
def FnExactStepBackWrongFalsely : Prop := fnExactStepBackRow.holds Try.pinned (OpenSpec.ofChange fnExactStepBackWrong)

/-- 'laws.FnExactHalveJacobi': WHATEVER THE INPUT: true; the input reads as it did. -/
def fnExactHalveJacobiSpec : ChangeSpec := { name := "fnExactHalveJacobi", fn := fun _ => fun
  | [d] => { results := [.lit (.bool true)], args := [d] }
  | _ => none }
def fnExactHalveJacobiRow : OpenClaim := { program := "ytllcgoachgfpjaa", sum := "dcb6458fd3dffc66dab126592ea2dac0831d1a029023ddce4e0db2f1349008b5", func := "loop.example/g01283/laws.FnExactHalveJacobi", spec := "fnExactHalveJacobi", plainKeys := false, apart := false }
def FnExactHalveJacobiSaid : Prop := fnExactHalveJacobiRow.holds Try.pinned (OpenSpec.ofChange fnExactHalveJacobiSpec)

/-- ITS FALSE NEIGHBOUR: 'it returns false'. Refute it at one input. -/
def fnExactHalveJacobiWrong : ChangeSpec := { name := "fnExactHalveJacobi", fn := fun _ => fun
  | [d] => { results := [.lit (.bool false)], args := [d] }
  | _ => none }
def FnExactHalveJacobiWrongFalsely : Prop := fnExactHalveJacobiRow.holds Try.pinned (OpenSpec.ofChange fnExactHalveJacobiWrong)

/-- 'laws.FnExactAreSymmetric': WHATEVER THE INPUT: true; the input reads as it did. -/
def fnExactAreSymmetricSpec : ChangeSpec := { name := "fnExactAreSymmetric", fn := fun _ => fun
  | [d] => { results := [.lit (.bool true)], args := [d] }
  | _ => none }
def fnExactAreSymmetricRow : OpenClaim := { program := "ytllcgoachgfpjaa", sum := "dcb6458fd3dffc66dab126592ea2dac0831d1a029023ddce4e0db2f1349008b5", func := "loop.example/g01283/laws.FnExactAreSymmetric", spec := "fnExactAreSymmetric", plainKeys := false, apart := false }
def FnExactAreSymmetricSaid : Prop := fnExactAreSymmetricRow.holds Try.pinned (OpenSpec.ofChange fnExactAreSymmetricSpec)

/-- ITS FALSE NEIGHBOUR: 'it returns false'. Refute it at one input. -/
def fnExactAreSymmetricWrong : ChangeSpec := { name := "fnExactAreSymmetric", fn := fun _ => fun
  | [d] => { results := [.lit (.bool false)], args := [d] }
  | _ => none }
def FnExactAreSymmetricWrongFalsely : Prop := fnExactAreSymmetricRow.holds Try.pinned (OpenSpec.ofChange fnExactAreSymmetricWrong)

/-- 'laws.FnExactHalveMoments': WHATEVER THE INPUT: true; the input reads as it did. -/
def fnExactHalveMomentsSpec : ChangeSpec := { name := "fnExactHalveMoments", fn := fun _ => fun
  | [d] => { results := [.lit (.bool true)], args := [d] }
  | _ => none }
def fnExactHalveMomentsRow : OpenClaim := { program := "ytllcgoachgfpjaa", sum := "dcb6458fd3dffc66dab126592ea2dac0831d1a029023ddce4e0db2f1349008b5", func := "loop.example/g01283/laws.FnExactHalveMoments", spec := "fnExactHalveMoments", plainKeys := false, apart := false }
def FnExactHalveMomentsSaid : Prop := fnExactHalveMomentsRow.holds Try.pinned (OpenSpec.ofChange fnExactHalveMomentsSpec)

/-- ITS FALSE NEIGHBOUR: 'it returns false'. Refute it at one input. -/
def fnExactHalveMomentsWrong : ChangeSpec := { name := "fnExactHalveMoments", fn := fun _ => fun
  | [d] => { results := [.lit (.bool false)], args := [d] }
  | _ => none }
def FnExactHalveMomentsWrongFalsely : Prop := fnExactHalveMomentsRow.holds Try.pinned (OpenSpec.ofChange fnExactHalveMomentsWrong)

/-- 'laws.FnExactDoubleMoments': WHATEVER THE INPUT: true; the input reads as it did. -/
def fnExactDoubleMomentsSpec : ChangeSpec := { name := "fnExactDoubleMoments", fn := fun _ => fun
  | [d] => { results := [.lit (.bool true)], args := [d] }
  | _ => none }
def fnExactDoubleMomentsRow : OpenClaim := { program := "ytllcgoachgfpjaa", sum := "dcb6458fd3dffc66dab126592ea2dac0831d1a029023ddce4e0db2f1349008b5", func := "loop.example/g01283/laws.FnExactDoubleMoments", spec := "fnExactDoubleMoments", plainKeys := false, apart := false }
def FnExactDoubleMomentsSaid : Prop := fnExactDoubleMomentsRow.holds Try.pinned (OpenSpec.ofChange fnExactDoubleMomentsSpec)

/-- ITS FALSE NEIGHBOUR: 'it returns false'. Refute it at one input. -/
def fnExactDoubleMomentsWrong : ChangeSpec := { name := "fnExactDoubleMoments", fn := fun _ => fun
  | [d] => { results := [.lit (.bool false)], args := [d] }
  | _ => none }
def FnExactDoubleMomentsWrongFalsely : Prop := fnExactDoubleMomentsRow.holds Try.pinned (OpenSpec.ofChange fnExactDoubleMomentsWrong)

/-- 'laws.FnExactScaleJacobi': WHATEVER THE INPUT: true; the input reads as it did. -/
def fnExactScaleJacobiSpec : ChangeSpec := { name := "fnExactScaleJacobi", fn := fun _ => fun
  | [d1, d2] => { results := [.lit (.bool true)], args := [d1, d2] }
  | _ => none }
def fnExactScaleJacobiRow : OpenClaim := { program := "ytllcgoachgfpjaa", sum := "dcb6458fd3dffc66dab126592ea2dac0831d1a029023ddce4e0db2f1349008b5", func := "loop.example/g01283/laws.FnExactScaleJacobi", spec := "fnExactScaleJacobi", plainKeys := false, apart := false }
def FnExactScaleJacobiSaid : Prop := fnExactScaleJacobiRow.holds Try.pinned (OpenSpec.ofChange fnExactScaleJacobiSpec)

/-- ITS FALSE NEIGHBOUR: 'it returns false'. Refute it at one input. -/
def fnExactScaleJacobiWrong : ChangeSpec := { name := "fnExactScaleJacobi", fn := fun _ => fun
  | [d1, d2] => { results := [.lit (.bool false)], args := [d1, d2] }
  | _ => none }
def FnExactScaleJacobiWrongFalsely : Prop := fnExactScaleJacobiRow.holds Try.pinned (OpenSpec.ofChange fnExactScaleJacobiWrong)

/-- 'laws.FnExactWithoutRests': WHATEVER THE INPUT: true; the input reads as it did. -/
def fnExactWithoutRestsSpec : ChangeSpec := { name := "fnExactWithoutRests", fn := fun _ => fun
  | [d] => { results := [.lit (.bool true)], args := [d] }
  | _ => none }
def fnExactWithoutRestsRow : OpenClaim := { program := "ytllcgoachgfpjaa", sum := "dcb6458fd3dffc66dab126592ea2dac0831d1a029023ddce4e0db2f1349008b5", func := "loop.example/g01283/laws.FnExactWithoutRests", spec := "fnExactWithoutRests", unfollowed := true, recurses := true, plainKeys := false, apart := false }
def FnExactWithoutRestsSaid : Prop := fnExactWithoutRestsRow.holds Try.pinned (OpenSpec.ofChange fnExactWithoutRestsSpec)

/-- ITS FALSE NEIGHBOUR: 'it returns false'. Refute it at one input. -/
def fnExactWithoutRestsWrong : ChangeSpec := { name := "fnExactWithoutRests", fn := fun _ => fun
  | [d] => { results := [.lit (.bool false)], args := [d] }
  | _ => none }
def FnExactWithoutRestsWrongFalsely : Prop := fnExactWithoutRestsRow.holds Try.pinned (OpenSpec.ofChange fnExactWithoutRestsWrong)

/-- 'laws.FnExactWeightsFor': WHATEVER THE INPUT: true; the input reads as it did. -/
def fnExactWeightsForSpec : ChangeSpec := { name := "fnExactWeightsFor", fn := fun _ => fun
  | [d1, d2] => { results := [.lit (.bool true)], args := [d1, d2] }
  | _ => none }
def fnExactWeightsForRow : OpenClaim := { program := "ytllcgoachgfpjaa", sum := "dcb6458fd3dffc66dab126592ea2dac0831d1a029023ddce4e0db2f1349008b5", func := "loop.example/g01283/laws.FnExactWeightsFor", spec := "fnExactWeightsFor", unfollowed := true, recurses := true, plainKeys := false, apart := false }
def FnExactWeightsForSaid : Prop := fnExactWeightsForRow.holds Try.pinned (OpenSpec.ofChange fnExactWeightsForSpec)

/-- ITS FALSE NEIGHBOUR: 'it returns false'. Refute it at one input. -/
def fnExactWeightsForWrong : ChangeSpec := { name := "fnExactWeightsFor", fn := fun _ => fun
  | [d1, d2] => { results := [.lit (.bool false)], args := [d1, d2] }
  | _ => none }
def FnExactWeightsForWrongFalsely : Prop := fnExactWeightsForRow.holds Try.pinned (OpenSpec.ofChange fnExactWeightsForWrong)

/- THE SECOND FORM. 'bulk': how many values and letters a reading holds, each counted each time it is reached (what is shared counts as often as it is met; a slice's spare places count too). A statement '..UptoSaid' is the law's where the arguments, and the package variables that the reading takes, are together of bulk at most 1048576: NARROWER than '..Said'. Prove '..Said' where nothing that the law and all that it calls make is longer than what came in: it says more and counts as full. Else prove '..UptoSaid'. A law counts once. -/
mutual
def uptoBulk {H : Type} : DataW H → Nat
  | .lit (.string bytes) => bytes.length + 1
  | .lit _ => 1
  | .nil => 1
  | .ptr d => uptoBulk d + 1
  | .slice elems spare => uptoBulkAll elems + uptoBulkAll spare + 1
  | .agg parts => uptoBulkAll parts + 1
  | .iface _ d => uptoBulk d + 1
  | .map entries => uptoBulkEntries entries + 1
  | .held _ => 1
def uptoBulkAll {H : Type} : List (DataW H) → Nat
  | [] => 0
  | d :: r => uptoBulk d + uptoBulkAll r
def uptoBulkEntries {H : Type} : List (Lit × DataW H) → Nat
  | [] => 0
  | x :: r => uptoBulkEntry x + uptoBulkEntries r
def uptoBulkEntry {H : Type} : Lit × DataW H → Nat
  | (.string bytes, d) => bytes.length + uptoBulk d + 1
  | (_, d) => uptoBulk d + 1
 end
def uptoSmall : (H : Type) → List (DataW H) → Bool := fun _ ds => decide (uptoBulkAll ds ≤ 1048576)
def OpenSpec.upto (s : _root_.Go.ChangeSpec) : _root_.Go.OpenSpec := { _root_.Go.OpenSpec.ofChange s with cond := some uptoSmall }

/-- 'laws.FnExactMultiplyMoments', WHERE WHAT IT READS IS OF BULK AT MOST 1048576: true; the input reads as it did. -/
def fnExactMultiplyMomentsUptoRow : OpenClaim := { program := "ytllcgoachgfpjaa", sum := "dcb6458fd3dffc66dab126592ea2dac0831d1a029023ddce4e0db2f1349008b5", func := "loop.example/g01283/laws.FnExactMultiplyMoments", spec := "fnExactMultiplyMoments", unfollowed := true, recurses := true, plainKeys := false, apart := false, narrowed := true }
def FnExactMultiplyMomentsUptoSaid : Prop := fnExactMultiplyMomentsUptoRow.holds Try.pinned (OpenSpec.upto fnExactMultiplyMomentsSpec)

/-- 'laws.FnExactDivideMoments', WHERE WHAT IT READS IS OF BULK AT MOST 1048576: true; the input reads as it did. -/
def fnExactDivideMomentsUptoRow : OpenClaim := { program := "ytllcgoachgfpjaa", sum := "dcb6458fd3dffc66dab126592ea2dac0831d1a029023ddce4e0db2f1349008b5", func := "loop.example/g01283/laws.FnExactDivideMoments", spec := "fnExactDivideMoments", plainKeys := false, apart := false, narrowed := true }
def FnExactDivideMomentsUptoSaid : Prop := fnExactDivideMomentsUptoRow.holds Try.pinned (OpenSpec.upto fnExactDivideMomentsSpec)

/-- 'laws.FnExactAddMass', WHERE WHAT IT READS IS OF BULK AT MOST 1048576: true; the input reads as it did. -/
def fnExactAddMassUptoRow : OpenClaim := { program := "ytllcgoachgfpjaa", sum := "dcb6458fd3dffc66dab126592ea2dac0831d1a029023ddce4e0db2f1349008b5", func := "loop.example/g01283/laws.FnExactAddMass", spec := "fnExactAddMass", plainKeys := false, apart := false, narrowed := true }
def FnExactAddMassUptoSaid : Prop := fnExactAddMassUptoRow.holds Try.pinned (OpenSpec.upto fnExactAddMassSpec)

/-- 'laws.FnExactStepOfJacobi', WHERE WHAT IT READS IS OF BULK AT MOST 1048576: true; the input reads as it did. -/
def fnExactStepOfJacobiUptoRow : OpenClaim := { program := "ytllcgoachgfpjaa", sum := "dcb6458fd3dffc66dab126592ea2dac0831d1a029023ddce4e0db2f1349008b5", func := "loop.example/g01283/laws.FnExactStepOfJacobi", spec := "fnExactStepOfJacobi", unfollowed := true, recurses := true, plainKeys := false, apart := false, narrowed := true }
def FnExactStepOfJacobiUptoSaid : Prop := fnExactStepOfJacobiUptoRow.holds Try.pinned (OpenSpec.upto fnExactStepOfJacobiSpec)

/-- 'laws.FnExactStepBack', WHERE WHAT IT READS IS OF BULK AT MOST 1048576: true; the input reads as it did. -/
def fnExactStepBackUptoRow : OpenClaim := { program := "ytllcgoachgfpjaa", sum := "dcb6458fd3dffc66dab126592ea2dac0831d1a029023ddce4e0db2f1349008b5", func := "loop.example/g01283/laws.FnExactStepBack", spec := "fnExactStepBack", unfollowed := true, recurses := true, plainKeys := false, apart := false, narrowed := true }
def FnExactStepBackUptoSaid : Prop := fnExactStepBackUptoRow.holds Try.pinned (OpenSpec.upto fnExactStepBackSpec)

/-- 'laws.FnExactHalveJacobi', WHERE WHAT IT READS IS OF BULK AT MOST 1048576: true; the input reads as it did. -/
def fnExactHalveJacobiUptoRow : OpenClaim := { program := "ytllcgoachgfpjaa", sum := "dcb6458fd3dffc66dab126592ea2dac0831d1a029023ddce4e0db2f1349008b5", func := "loop.example/g01283/laws.FnExactHalveJacobi", spec := "fnExactHalveJacobi", plainKeys := false, apart := false, narrowed := true }
def FnExactHalveJacobiUptoSaid : Prop := fnExactHalveJacobiUptoRow.holds Try.pinned (OpenSpec.upto fnExactHalveJacobiSpec)

/-- 'laws.FnExactAreSymmetric', WHERE WHAT IT READS IS OF BULK AT MOST 1048576: true; the input reads as it did. -/
def fnExactAreSymmetricUptoRow : OpenClaim := { program := "ytllcgoachgfpjaa", sum := "dcb6458fd3dffc66dab126592ea2dac0831d1a029023ddce4e0db2f1349008b5", func := "loop.example/g01283/laws.FnExactAreSymmetric", spec := "fnExactAreSymmetric", plainKeys := false, apart := false, narrowed := true }
def FnExactAreSymmetricUptoSaid : Prop := fnExactAreSymmetricUptoRow.holds Try.pinned (OpenSpec.upto fnExactAreSymmetricSpec)

/-- 'laws.FnExactHalveMoments', WHERE WHAT IT READS IS OF BULK AT MOST 1048576: true; the input reads as it did. -/
def fnExactHalveMomentsUptoRow : OpenClaim := { program := "ytllcgoachgfpjaa", sum := "dcb6458fd3dffc66dab126592ea2dac0831d1a029023ddce4e0db2f1349008b5", func := "loop.example/g01283/laws.FnExactHalveMoments", spec := "fnExactHalveMoments", plainKeys := false, apart := false, narrowed := true }
def FnExactHalveMomentsUptoSaid : Prop := fnExactHalveMomentsUptoRow.holds Try.pinned (OpenSpec.upto fnExactHalveMomentsSpec)

/-- 'laws.FnExactDoubleMoments', WHERE WHAT IT READS IS OF BULK AT MOST 1048576: true; the input reads as it did. -/
def fnExactDoubleMomentsUptoRow : OpenClaim := { program := "ytllcgoachgfpjaa", sum := "dcb6458fd3dffc66dab126592ea2dac0831d1a029023ddce4e0db2f1349008b5", func := "loop.example/g01283/laws.FnExactDoubleMoments", spec := "fnExactDoubleMoments", plainKeys := false, apart := false, narrowed := true }
def FnExactDoubleMomentsUptoSaid : Prop := fnExactDoubleMomentsUptoRow.holds Try.pinned (OpenSpec.upto fnExactDoubleMomentsSpec)

/-- 'laws.FnExactScaleJacobi', WHERE WHAT IT READS IS OF BULK AT MOST 1048576: true; the input reads as it did. -/
def fnExactScaleJacobiUptoRow : OpenClaim := { program := "ytllcgoachgfpjaa", sum := "dcb6458fd3dffc66dab126592ea2dac0831d1a029023ddce4e0db2f1349008b5", func := "loop.example/g01283/laws.FnExactScaleJacobi", spec := "fnExactScaleJacobi", plainKeys := false, apart := false, narrowed := true }
def FnExactScaleJacobiUptoSaid : Prop := fnExactScaleJacobiUptoRow.holds Try.pinned (OpenSpec.upto fnExactScaleJacobiSpec)

/-- 'laws.FnExactWithoutRests', WHERE WHAT IT READS IS OF BULK AT MOST 1048576: true; the input reads as it did. -/
def fnExactWithoutRestsUptoRow : OpenClaim := { program := "ytllcgoachgfpjaa", sum := "dcb6458fd3dffc66dab126592ea2dac0831d1a029023ddce4e0db2f1349008b5", func := "loop.example/g01283/laws.FnExactWithoutRests", spec := "fnExactWithoutRests", unfollowed := true, recurses := true, plainKeys := false, apart := false, narrowed := true }
def FnExactWithoutRestsUptoSaid : Prop := fnExactWithoutRestsUptoRow.holds Try.pinned (OpenSpec.upto fnExactWithoutRestsSpec)

/-- 'laws.FnExactWeightsFor', WHERE WHAT IT READS IS OF BULK AT MOST 1048576: true; the input reads as it did. -/
def fnExactWeightsForUptoRow : OpenClaim := { program := "ytllcgoachgfpjaa", sum := "dcb6458fd3dffc66dab126592ea2dac0831d1a029023ddce4e0db2f1349008b5", func := "loop.example/g01283/laws.FnExactWeightsFor", spec := "fnExactWeightsFor", unfollowed := true, recurses := true, plainKeys := false, apart := false, narrowed := true }
def FnExactWeightsForUptoSaid : Prop := fnExactWeightsForUptoRow.holds Try.pinned (OpenSpec.upto fnExactWeightsForSpec)

end Rows
end Go.Proofs.Ytllcgoachgfpjaa
