/-
  No cell of these rows narrows 'for every input' (looked for: loops, veiled, ifaces, maps, wideKeys, modest, calm, conditions, laid).
  DERIVED. THE GIVEN ROWS OF THIS SEAT. 8 by the template 'for every input the law returns true; each argument reads behind the call as it read before'; 0 by the template 'total and deterministic' (their statements: YtmdfgibpkfkceaaTotals.lean).
  GIVEN WITH THE SEED: the statements are not yours to turn. If you find one false, say at which input.
  Laid BY PROGRAM, IN A SANDBOX (cutbox-rows.mjs): the forced cells as the released guide's own fill.sh prints them over the translation e4a5195ee46e69c9… (all of the seat's roots in one cut). By AI agents, Wed Nov 11 2026. No macro, syntax, notation, axiom, sorry.
-/
import Derived.Test.YtmdfgibpkfkceaaChecked
import GoSem.Claim
import GoSem.ClaimJoined
import GoSem.ClaimMapViews
import Derived.JoinedTies
import Derived.KernelRfl
namespace Go.Proofs.Ytmdfgibpkfkceaa
/- THE CELL 'sum', in the pinned program and in every row, IS THE sha256 OF THE DUMP (.gsa) THAT YtmdfgibpkfkceaaProg.lean LOADS. Nothing in Lean hashes anything: it is a label: what it is worth is what the hold of that sum in a sandbox is worth. -/
noncomputable def Try.pinned : Pinned := { name := "ytmdfgibpkfkceaa", sum := "e4a5195ee46e69c92c0491b4a8e0a5906d2b7631fd87d92b2a5b9f7f696a554c", checked := Try.checked }
namespace Rows
def none {H : Type} : Left H := { results := [], args := [] }

/-- 'laws.FnExactCharacteristicPoly': WHATEVER THE INPUT: true; the input reads as it did. -/
def fnExactCharacteristicPolySpec : ChangeSpec := { name := "fnExactCharacteristicPoly", fn := fun _ => fun
  | [d1, d2] => { results := [.lit (.bool true)], args := [d1, d2] }
  | _ => none }
def fnExactCharacteristicPolyRow : OpenClaim := { program := "ytmdfgibpkfkceaa", sum := "e4a5195ee46e69c92c0491b4a8e0a5906d2b7631fd87d92b2a5b9f7f696a554c", func := "loop.example/g01283/laws.FnExactCharacteristicPoly", spec := "fnExactCharacteristicPoly", unfollowed := true, recurses := true, plainKeys := false, apart := false }
def FnExactCharacteristicPolySaid : Prop := fnExactCharacteristicPolyRow.holds Try.pinned (OpenSpec.ofChange fnExactCharacteristicPolySpec)

/-- ITS FALSE NEIGHBOUR: 'it returns false'. Refute it at one input. -/
def fnExactCharacteristicPolyWrong : ChangeSpec := { name := "fnExactCharacteristicPoly", fn := fun _ => fun
  | [d1, d2] => { results := [.lit (.bool false)], args := [d1, d2] }
  | _ => none }
def FnExactCharacteristicPolyWrongFalsely : Prop := fnExactCharacteristicPolyRow.holds Try.pinned (OpenSpec.ofChange fnExactCharacteristicPolyWrong)

/-- 'laws.FnExactMomentsOfJacobi': WHATEVER THE INPUT: true; the input reads as it did. -/
def fnExactMomentsOfJacobiSpec : ChangeSpec := { name := "fnExactMomentsOfJacobi", fn := fun _ => fun
  | [d1, d2] => { results := [.lit (.bool true)], args := [d1, d2] }
  | _ => none }
def fnExactMomentsOfJacobiRow : OpenClaim := { program := "ytmdfgibpkfkceaa", sum := "e4a5195ee46e69c92c0491b4a8e0a5906d2b7631fd87d92b2a5b9f7f696a554c", func := "loop.example/g01283/laws.FnExactMomentsOfJacobi", spec := "fnExactMomentsOfJacobi", unfollowed := true, recurses := true, plainKeys := false, apart := false }
def FnExactMomentsOfJacobiSaid : Prop := fnExactMomentsOfJacobiRow.holds Try.pinned (OpenSpec.ofChange fnExactMomentsOfJacobiSpec)

/-- ITS FALSE NEIGHBOUR: 'it returns false'. Refute it at one input. -/
def fnExactMomentsOfJacobiWrong : ChangeSpec := { name := "fnExactMomentsOfJacobi", fn := fun _ => fun
  | [d1, d2] => { results := [.lit (.bool false)], args := [d1, d2] }
  | _ => none }
def FnExactMomentsOfJacobiWrongFalsely : Prop := fnExactMomentsOfJacobiRow.holds Try.pinned (OpenSpec.ofChange fnExactMomentsOfJacobiWrong)

/-- 'laws.FnFunctionals': WHATEVER THE INPUT: true; the input reads as it did. -/
def fnFunctionalsSpec : ChangeSpec := { name := "fnFunctionals", fn := fun _ => fun
  | [d] => { results := [.lit (.bool true)], args := [d] }
  | _ => none }
def fnFunctionalsRow : OpenClaim := { program := "ytmdfgibpkfkceaa", sum := "e4a5195ee46e69c92c0491b4a8e0a5906d2b7631fd87d92b2a5b9f7f696a554c", func := "loop.example/g01283/laws.FnFunctionals", spec := "fnFunctionals", unfollowed := true, recurses := true, plainKeys := false, apart := false }
def FnFunctionalsSaid : Prop := fnFunctionalsRow.holds Try.pinned (OpenSpec.ofChange fnFunctionalsSpec)

/-- ITS FALSE NEIGHBOUR: 'it returns false'. Refute it at one input. -/
def fnFunctionalsWrong : ChangeSpec := { name := "fnFunctionals", fn := fun _ => fun
  | [d] => { results := [.lit (.bool false)], args := [d] }
  | _ => none }
def FnFunctionalsWrongFalsely : Prop := fnFunctionalsRow.holds Try.pinned (OpenSpec.ofChange fnFunctionalsWrong)

/-- 'laws.FnMomentChanges': WHATEVER THE INPUT: true; the input reads as it did. -/
def fnMomentChangesSpec : ChangeSpec := { name := "fnMomentChanges", fn := fun _ => fun
  | [d] => { results := [.lit (.bool true)], args := [d] }
  | _ => none }
def fnMomentChangesRow : OpenClaim := { program := "ytmdfgibpkfkceaa", sum := "e4a5195ee46e69c92c0491b4a8e0a5906d2b7631fd87d92b2a5b9f7f696a554c", func := "loop.example/g01283/laws.FnMomentChanges", spec := "fnMomentChanges", unfollowed := true, recurses := true, plainKeys := false, apart := false }
def FnMomentChangesSaid : Prop := fnMomentChangesRow.holds Try.pinned (OpenSpec.ofChange fnMomentChangesSpec)

/-- ITS FALSE NEIGHBOUR: 'it returns false'. Refute it at one input. -/
def fnMomentChangesWrong : ChangeSpec := { name := "fnMomentChanges", fn := fun _ => fun
  | [d] => { results := [.lit (.bool false)], args := [d] }
  | _ => none }
def FnMomentChangesWrongFalsely : Prop := fnMomentChangesRow.holds Try.pinned (OpenSpec.ofChange fnMomentChangesWrong)

/-- 'laws.FnRecurrences': WHATEVER THE INPUT: true; the input reads as it did. -/
def fnRecurrencesSpec : ChangeSpec := { name := "fnRecurrences", fn := fun _ => fun
  | [d] => { results := [.lit (.bool true)], args := [d] }
  | _ => none }
def fnRecurrencesRow : OpenClaim := { program := "ytmdfgibpkfkceaa", sum := "e4a5195ee46e69c92c0491b4a8e0a5906d2b7631fd87d92b2a5b9f7f696a554c", func := "loop.example/g01283/laws.FnRecurrences", spec := "fnRecurrences", unfollowed := true, recurses := true, plainKeys := false, apart := false }
def FnRecurrencesSaid : Prop := fnRecurrencesRow.holds Try.pinned (OpenSpec.ofChange fnRecurrencesSpec)

/-- ITS FALSE NEIGHBOUR: 'it returns false'. Refute it at one input. -/
def fnRecurrencesWrong : ChangeSpec := { name := "fnRecurrences", fn := fun _ => fun
  | [d] => { results := [.lit (.bool false)], args := [d] }
  | _ => none }
def FnRecurrencesWrongFalsely : Prop := fnRecurrencesRow.holds Try.pinned (OpenSpec.ofChange fnRecurrencesWrong)

/-- 'laws.FnFoundData': WHATEVER THE INPUT: true; the input reads as it did. -/
def fnFoundDataSpec : ChangeSpec := { name := "fnFoundData", fn := fun _ => fun
  | [d] => { results := [.lit (.bool true)], args := [d] }
  | _ => none }
def fnFoundDataRow : OpenClaim := { program := "ytmdfgibpkfkceaa", sum := "e4a5195ee46e69c92c0491b4a8e0a5906d2b7631fd87d92b2a5b9f7f696a554c", func := "loop.example/g01283/laws.FnFoundData", spec := "fnFoundData", unfollowed := true, recurses := true, plainKeys := false, apart := false }
def FnFoundDataSaid : Prop := fnFoundDataRow.holds Try.pinned (OpenSpec.ofChange fnFoundDataSpec)

/-- ITS FALSE NEIGHBOUR: 'it returns false'. Refute it at one input. -/
def fnFoundDataWrong : ChangeSpec := { name := "fnFoundData", fn := fun _ => fun
  | [d] => { results := [.lit (.bool false)], args := [d] }
  | _ => none }
def FnFoundDataWrongFalsely : Prop := fnFoundDataRow.holds Try.pinned (OpenSpec.ofChange fnFoundDataWrong)

/-- 'laws.FnHankels': WHATEVER THE INPUT: true; the input reads as it did. -/
def fnHankelsSpec : ChangeSpec := { name := "fnHankels", fn := fun _ => fun
  | [d] => { results := [.lit (.bool true)], args := [d] }
  | _ => none }
def fnHankelsRow : OpenClaim := { program := "ytmdfgibpkfkceaa", sum := "e4a5195ee46e69c92c0491b4a8e0a5906d2b7631fd87d92b2a5b9f7f696a554c", func := "loop.example/g01283/laws.FnHankels", spec := "fnHankels", unfollowed := true, recurses := true, plainKeys := false, apart := false }
def FnHankelsSaid : Prop := fnHankelsRow.holds Try.pinned (OpenSpec.ofChange fnHankelsSpec)

/-- ITS FALSE NEIGHBOUR: 'it returns false'. Refute it at one input. -/
def fnHankelsWrong : ChangeSpec := { name := "fnHankels", fn := fun _ => fun
  | [d] => { results := [.lit (.bool false)], args := [d] }
  | _ => none }
def FnHankelsWrongFalsely : Prop := fnHankelsRow.holds Try.pinned (OpenSpec.ofChange fnHankelsWrong)

/-- 'laws.FnExactAffineMoments': WHATEVER THE INPUT: true; the input reads as it did. -/
def fnExactAffineMomentsSpec : ChangeSpec := { name := "fnExactAffineMoments", fn := fun _ => fun
  | [d1, d2, d3] => { results := [.lit (.bool true)], args := [d1, d2, d3] }
  | _ => none }
def fnExactAffineMomentsRow : OpenClaim := { program := "ytmdfgibpkfkceaa", sum := "e4a5195ee46e69c92c0491b4a8e0a5906d2b7631fd87d92b2a5b9f7f696a554c", func := "loop.example/g01283/laws.FnExactAffineMoments", spec := "fnExactAffineMoments", unfollowed := true, recurses := true, plainKeys := false, apart := false }
def FnExactAffineMomentsSaid : Prop := fnExactAffineMomentsRow.holds Try.pinned (OpenSpec.ofChange fnExactAffineMomentsSpec)

/-- ITS FALSE NEIGHBOUR: 'it returns false'. Refute it at one input. -/
def fnExactAffineMomentsWrong : ChangeSpec := { name := "fnExactAffineMoments", fn := fun _ => fun
  | [d1, d2, d3] => { results := [.lit (.bool false)], args := [d1, d2, d3] }
  | _ => none }
def FnExactAffineMomentsWrongFalsely : Prop := fnExactAffineMomentsRow.holds Try.pinned (OpenSpec.ofChange fnExactAffineMomentsWrong)

/- THE SECOND FORM. 'bulk': how many values and letters a reading holds, each counted each time it is reached (what is shared counts as often as it is met; a slice's spare places count too). A statement '..UptoSaid' is the law's where the arguments, and the package variables that the reading takes, are together of bulk at most 1048576: NARROWER than '..Said'. Prove '..Said' where nothing that the law and all that it calls make is longer than what came in: it says more and counts as full. Else prove '..UptoSaid'. A law counts once. -/
mutual
def uptoBulk {H : Type} : DataW H → Nat
  | .lit (.string bytes) => bytes.length + 1
  | .lit _ => 1
  | .nil => 1
  | .ptr d => uptoBulk d + 1
  | .slice elems spare => uptoBulkAll elems + uptoBulkAll spare + 1
  | .agg parts => uptoBulkAll parts + 1
  | .iface _ d => uptoBulk d + 1
  | .map entries => uptoBulkEntries entries + 1
  | .held _ => 1
def uptoBulkAll {H : Type} : List (DataW H) → Nat
  | [] => 0
  | d :: r => uptoBulk d + uptoBulkAll r
def uptoBulkEntries {H : Type} : List (Lit × DataW H) → Nat
  | [] => 0
  | x :: r => uptoBulkEntry x + uptoBulkEntries r
def uptoBulkEntry {H : Type} : Lit × DataW H → Nat
  | (.string bytes, d) => bytes.length + uptoBulk d + 1
  | (_, d) => uptoBulk d + 1
 end
def uptoSmall : (H : Type) → List (DataW H) → Bool := fun _ ds => decide (uptoBulkAll ds ≤ 1048576)
def OpenSpec.upto (s : _root_.Go.ChangeSpec) : _root_.Go.OpenSpec := { _root_.Go.OpenSpec.ofChange s with cond := some uptoSmall }

/-- 'laws.FnExactCharacteristicPoly', WHERE WHAT IT READS IS OF BULK AT MOST 1048576: true; the input reads as it did. -/
def fnExactCharacteristicPolyUptoRow : OpenClaim := { program := "ytmdfgibpkfkceaa", sum := "e4a5195ee46e69c92c0491b4a8e0a5906d2b7631fd87d92b2a5b9f7f696a554c", func := "loop.example/g01283/laws.FnExactCharacteristicPoly", spec := "fnExactCharacteristicPoly", unfollowed := true, recurses := true, plainKeys := false, apart := false, narrowed := true }
def FnExactCharacteristicPolyUptoSaid : Prop := fnExactCharacteristicPolyUptoRow.holds Try.pinned (OpenSpec.upto fnExactCharacteristicPolySpec)

/-- 'laws.FnExactMomentsOfJacobi', WHERE WHAT IT READS IS OF BULK AT MOST 1048576: true; the input reads as it did. -/
def fnExactMomentsOfJacobiUptoRow : OpenClaim := { program := "ytmdfgibpkfkceaa", sum := "e4a5195ee46e69c92c0491b4a8e0a5906d2b7631fd87d92b2a5b9f7f696a554c", func := "loop.example/g01283/laws.FnExactMomentsOfJacobi", spec := "fnExactMomentsOfJacobi", unfollowed := true, recurses := true, plainKeys := false, apart := false, narrowed := true }
def FnExactMomentsOfJacobiUptoSaid : Prop := fnExactMomentsOfJacobiUptoRow.holds Try.pinned (OpenSpec.upto fnExactMomentsOfJacobiSpec)

/-- 'laws.FnFunctionals', WHERE WHAT IT READS IS OF BULK AT MOST 1048576: true; the input reads as it did. -/
def fnFunctionalsUptoRow : OpenClaim := { program := "ytmdfgibpkfkceaa", sum := "e4a5195ee46e69c92c0491b4a8e0a5906d2b7631fd87d92b2a5b9f7f696a554c", func := "loop.example/g01283/laws.FnFunctionals", spec := "fnFunctionals", unfollowed := true, recurses := true, plainKeys := false, apart := false, narrowed := true }
def FnFunctionalsUptoSaid : Prop := fnFunctionalsUptoRow.holds Try.pinned (OpenSpec.upto fnFunctionalsSpec)

/-- 'laws.FnMomentChanges', WHERE WHAT IT READS IS OF BULK AT MOST 1048576: true; the input reads as it did. -/
def fnMomentChangesUptoRow : OpenClaim := { program := "ytmdfgibpkfkceaa", sum := "e4a5195ee46e69c92c0491b4a8e0a5906d2b7631fd87d92b2a5b9f7f696a554c", func := "loop.example/g01283/laws.FnMomentChanges", spec := "fnMomentChanges", unfollowed := true, recurses := true, plainKeys := false, apart := false, narrowed := true }
def FnMomentChangesUptoSaid : Prop := fnMomentChangesUptoRow.holds Try.pinned (OpenSpec.upto fnMomentChangesSpec)

/-- 'laws.FnRecurrences', WHERE WHAT IT READS IS OF BULK AT MOST 1048576: true; the input reads as it did. -/
def fnRecurrencesUptoRow : OpenClaim := { program := "ytmdfgibpkfkceaa", sum := "e4a5195ee46e69c92c0491b4a8e0a5906d2b7631fd87d92b2a5b9f7f696a554c", func := "loop.example/g01283/laws.FnRecurrences", spec := "fnRecurrences", unfollowed := true, recurses := true, plainKeys := false, apart := false, narrowed := true }
def FnRecurrencesUptoSaid : Prop := fnRecurrencesUptoRow.holds Try.pinned (OpenSpec.upto fnRecurrencesSpec)

/-- 'laws.FnFoundData', WHERE WHAT IT READS IS OF BULK AT MOST 1048576: true; the input reads as it did. -/
def fnFoundDataUptoRow : OpenClaim := { program := "ytmdfgibpkfkceaa", sum := "e4a5195ee46e69c92c0491b4a8e0a5906d2b7631fd87d92b2a5b9f7f696a554c", func := "loop.example/g01283/laws.FnFoundData", spec := "fnFoundData", unfollowed := true, recurses := true, plainKeys := false, apart := false, narrowed := true }
def FnFoundDataUptoSaid : Prop := fnFoundDataUptoRow.holds Try.pinned (OpenSpec.upto fnFoundDataSpec)

/-- 'laws.FnHankels', WHERE WHAT IT READS IS OF BULK AT MOST 1048576: true; the input reads as it did. -/
def fnHankelsUptoRow : OpenClaim := { program := "ytmdfgibpkfkceaa", sum := "e4a5195ee46e69c92c0491b4a8e0a5906d2b7631fd87d92b2a5b9f7f696a554c", func := "loop.example/g01283/laws.FnHankels", spec := "fnHankels", unfollowed := true, recurses := true, plainKeys := false, apart := false, narrowed := true }
def FnHankelsUptoSaid : Prop := fnHankelsUptoRow.holds Try.pinned (OpenSpec.upto fnHankelsSpec)

/-- 'laws.FnExactAffineMoments', WHERE WHAT IT READS IS OF BULK AT MOST 1048576: true; the input reads as it did. -/
def fnExactAffineMomentsUptoRow : OpenClaim := { program := "ytmdfgibpkfkceaa", sum := "e4a5195ee46e69c92c0491b4a8e0a5906d2b7631fd87d92b2a5b9f7f696a554c", func := "loop.example/g01283/laws.FnExactAffineMoments", spec := "fnExactAffineMoments", unfollowed := true, recurses := true, plainKeys := false, apart := false, narrowed := true }
def FnExactAffineMomentsUptoSaid : Prop := fnExactAffineMomentsUptoRow.holds Try.pinned (OpenSpec.upto fnExactAffineMomentsSpec)

end Rows
end Go.Proofs.Ytmdfgibpkfkceaa
