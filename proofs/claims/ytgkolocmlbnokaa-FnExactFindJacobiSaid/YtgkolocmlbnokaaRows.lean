/-
  No cell of these rows narrows 'for every input' (looked for: loops, veiled, ifaces, maps, wideKeys, modest, calm, conditions, laid).
  DERIVED. THE GIVEN ROWS OF THIS SEAT. 8 by the template 'for every input the law returns true; each argument reads behind the call as it read before'; 0 by the template 'total and deterministic' (their statements: YtgkolocmlbnokaaTotals.lean).
  GIVEN WITH THE SEED: the statements are not yours to turn. If you find one false, say at which input.
  Laid BY PROGRAM, IN A SANDBOX (cutbox-rows.mjs): the forced cells as the released guide's own fill.sh prints them over the translation 62a9ea13c6d66125… (all of the seat's roots in one cut). By AI agents, Wed Nov 11 2026. No macro, syntax, notation, axiom, sorry.
-/
import Derived.Test.YtgkolocmlbnokaaChecked
import GoSem.Claim
import GoSem.ClaimJoined
import GoSem.ClaimMapViews
import Derived.JoinedTies
import Derived.KernelRfl
namespace Go.Proofs.Ytgkolocmlbnokaa
/- THE CELL 'sum', in the pinned program and in every row, IS THE sha256 OF THE DUMP (.gsa) THAT YtgkolocmlbnokaaProg.lean LOADS. Nothing in Lean hashes anything: it is a label: what it is worth is what the hold of that sum in a sandbox is worth. -/
noncomputable def Try.pinned : Pinned := { name := "ytgkolocmlbnokaa", sum := "62a9ea13c6d66125c5e2276c6defb51b94910e403d8a078193d7548650aa8f85", checked := Try.checked }
namespace Rows
def none {H : Type} : Left H := { results := [], args := [] }

/-- 'laws.FnExactFindJacobi': WHATEVER THE INPUT: true; the input reads as it did. -/
def fnExactFindJacobiSpec : ChangeSpec := { name := "fnExactFindJacobi", fn := fun _ => fun
  | [d1, d2, d3, d4] => { results := [.lit (.bool true)], args := [d1, d2, d3, d4] }
  | _ => none }
def fnExactFindJacobiRow : OpenClaim := { program := "ytgkolocmlbnokaa", sum := "62a9ea13c6d66125c5e2276c6defb51b94910e403d8a078193d7548650aa8f85", func := "loop.example/g01283/laws.FnExactFindJacobi", spec := "fnExactFindJacobi", unfollowed := true, recurses := true, leaving := true, apart := false }
def FnExactFindJacobiSaid : Prop := fnExactFindJacobiRow.holds Try.pinned (OpenSpec.ofChange fnExactFindJacobiSpec)

/-- ITS FALSE NEIGHBOUR: 'it returns false'. Refute it at one input. -/
def fnExactFindJacobiWrong : ChangeSpec := { name := "fnExactFindJacobi", fn := fun _ => fun
  | [d1, d2, d3, d4] => { results := [.lit (.bool false)], args := [d1, d2, d3, d4] }
  | _ => none }
def FnExactFindJacobiWrongFalsely : Prop := fnExactFindJacobiRow.holds Try.pinned (OpenSpec.ofChange fnExactFindJacobiWrong)

/-- 'laws.FnExactQuotientsOf': WHATEVER THE INPUT: true; the input reads as it did. -/
def fnExactQuotientsOfSpec : ChangeSpec := { name := "fnExactQuotientsOf", fn := fun _ => fun
  | [d1, d2, d3] => { results := [.lit (.bool true)], args := [d1, d2, d3] }
  | _ => none }
def fnExactQuotientsOfRow : OpenClaim := { program := "ytgkolocmlbnokaa", sum := "62a9ea13c6d66125c5e2276c6defb51b94910e403d8a078193d7548650aa8f85", func := "loop.example/g01283/laws.FnExactQuotientsOf", spec := "fnExactQuotientsOf", unfollowed := true, recurses := true, leaving := true, apart := false }
def FnExactQuotientsOfSaid : Prop := fnExactQuotientsOfRow.holds Try.pinned (OpenSpec.ofChange fnExactQuotientsOfSpec)

/-- ITS FALSE NEIGHBOUR: 'it returns false'. Refute it at one input. -/
def fnExactQuotientsOfWrong : ChangeSpec := { name := "fnExactQuotientsOf", fn := fun _ => fun
  | [d1, d2, d3] => { results := [.lit (.bool false)], args := [d1, d2, d3] }
  | _ => none }
def FnExactQuotientsOfWrongFalsely : Prop := fnExactQuotientsOfRow.holds Try.pinned (OpenSpec.ofChange fnExactQuotientsOfWrong)

/-- 'laws.FnExactPadeOf': WHATEVER THE INPUT: true; the input reads as it did. -/
def fnExactPadeOfSpec : ChangeSpec := { name := "fnExactPadeOf", fn := fun _ => fun
  | [d1, d2, d3, d4] => { results := [.lit (.bool true)], args := [d1, d2, d3, d4] }
  | _ => none }
def fnExactPadeOfRow : OpenClaim := { program := "ytgkolocmlbnokaa", sum := "62a9ea13c6d66125c5e2276c6defb51b94910e403d8a078193d7548650aa8f85", func := "loop.example/g01283/laws.FnExactPadeOf", spec := "fnExactPadeOf", unfollowed := true, recurses := true, leaving := true, apart := false }
def FnExactPadeOfSaid : Prop := fnExactPadeOfRow.holds Try.pinned (OpenSpec.ofChange fnExactPadeOfSpec)

/-- ITS FALSE NEIGHBOUR: 'it returns false'. Refute it at one input. -/
def fnExactPadeOfWrong : ChangeSpec := { name := "fnExactPadeOf", fn := fun _ => fun
  | [d1, d2, d3, d4] => { results := [.lit (.bool false)], args := [d1, d2, d3, d4] }
  | _ => none }
def FnExactPadeOfWrongFalsely : Prop := fnExactPadeOfRow.holds Try.pinned (OpenSpec.ofChange fnExactPadeOfWrong)

/-- 'laws.FnSeriesOfQuotients': WHATEVER THE INPUT: true; the input reads as it did. -/
def fnSeriesOfQuotientsSpec : ChangeSpec := { name := "fnSeriesOfQuotients", fn := fun _ => fun
  | [d] => { results := [.lit (.bool true)], args := [d] }
  | _ => none }
def fnSeriesOfQuotientsRow : OpenClaim := { program := "ytgkolocmlbnokaa", sum := "62a9ea13c6d66125c5e2276c6defb51b94910e403d8a078193d7548650aa8f85", func := "loop.example/g01283/laws.FnSeriesOfQuotients", spec := "fnSeriesOfQuotients", unfollowed := true, recurses := true, leaving := true, apart := false }
def FnSeriesOfQuotientsSaid : Prop := fnSeriesOfQuotientsRow.holds Try.pinned (OpenSpec.ofChange fnSeriesOfQuotientsSpec)

/-- ITS FALSE NEIGHBOUR: 'it returns false'. Refute it at one input. -/
def fnSeriesOfQuotientsWrong : ChangeSpec := { name := "fnSeriesOfQuotients", fn := fun _ => fun
  | [d] => { results := [.lit (.bool false)], args := [d] }
  | _ => none }
def FnSeriesOfQuotientsWrongFalsely : Prop := fnSeriesOfQuotientsRow.holds Try.pinned (OpenSpec.ofChange fnSeriesOfQuotientsWrong)

/-- 'laws.FnFunctionals': WHATEVER THE INPUT: true; the input reads as it did. -/
def fnFunctionalsSpec : ChangeSpec := { name := "fnFunctionals", fn := fun _ => fun
  | [d] => { results := [.lit (.bool true)], args := [d] }
  | _ => none }
def fnFunctionalsRow : OpenClaim := { program := "ytgkolocmlbnokaa", sum := "62a9ea13c6d66125c5e2276c6defb51b94910e403d8a078193d7548650aa8f85", func := "loop.example/g01283/laws.FnFunctionals", spec := "fnFunctionals", unfollowed := true, recurses := true, leaving := true, apart := false }
def FnFunctionalsSaid : Prop := fnFunctionalsRow.holds Try.pinned (OpenSpec.ofChange fnFunctionalsSpec)

/-- ITS FALSE NEIGHBOUR: 'it returns false'. Refute it at one input. -/
def fnFunctionalsWrong : ChangeSpec := { name := "fnFunctionals", fn := fun _ => fun
  | [d] => { results := [.lit (.bool false)], args := [d] }
  | _ => none }
def FnFunctionalsWrongFalsely : Prop := fnFunctionalsRow.holds Try.pinned (OpenSpec.ofChange fnFunctionalsWrong)

/-- 'laws.FnMomentChanges': WHATEVER THE INPUT: true; the input reads as it did. -/
def fnMomentChangesSpec : ChangeSpec := { name := "fnMomentChanges", fn := fun _ => fun
  | [d] => { results := [.lit (.bool true)], args := [d] }
  | _ => none }
def fnMomentChangesRow : OpenClaim := { program := "ytgkolocmlbnokaa", sum := "62a9ea13c6d66125c5e2276c6defb51b94910e403d8a078193d7548650aa8f85", func := "loop.example/g01283/laws.FnMomentChanges", spec := "fnMomentChanges", unfollowed := true, recurses := true, leaving := true, apart := false }
def FnMomentChangesSaid : Prop := fnMomentChangesRow.holds Try.pinned (OpenSpec.ofChange fnMomentChangesSpec)

/-- ITS FALSE NEIGHBOUR: 'it returns false'. Refute it at one input. -/
def fnMomentChangesWrong : ChangeSpec := { name := "fnMomentChanges", fn := fun _ => fun
  | [d] => { results := [.lit (.bool false)], args := [d] }
  | _ => none }
def FnMomentChangesWrongFalsely : Prop := fnMomentChangesRow.holds Try.pinned (OpenSpec.ofChange fnMomentChangesWrong)

/-- 'laws.FnRecurrences': WHATEVER THE INPUT: true; the input reads as it did. -/
def fnRecurrencesSpec : ChangeSpec := { name := "fnRecurrences", fn := fun _ => fun
  | [d] => { results := [.lit (.bool true)], args := [d] }
  | _ => none }
def fnRecurrencesRow : OpenClaim := { program := "ytgkolocmlbnokaa", sum := "62a9ea13c6d66125c5e2276c6defb51b94910e403d8a078193d7548650aa8f85", func := "loop.example/g01283/laws.FnRecurrences", spec := "fnRecurrences", unfollowed := true, recurses := true, leaving := true, apart := false }
def FnRecurrencesSaid : Prop := fnRecurrencesRow.holds Try.pinned (OpenSpec.ofChange fnRecurrencesSpec)

/-- ITS FALSE NEIGHBOUR: 'it returns false'. Refute it at one input. -/
def fnRecurrencesWrong : ChangeSpec := { name := "fnRecurrences", fn := fun _ => fun
  | [d] => { results := [.lit (.bool false)], args := [d] }
  | _ => none }
def FnRecurrencesWrongFalsely : Prop := fnRecurrencesRow.holds Try.pinned (OpenSpec.ofChange fnRecurrencesWrong)

/-- 'laws.FnFoundData': WHATEVER THE INPUT: true; the input reads as it did. -/
def fnFoundDataSpec : ChangeSpec := { name := "fnFoundData", fn := fun _ => fun
  | [d] => { results := [.lit (.bool true)], args := [d] }
  | _ => none }
def fnFoundDataRow : OpenClaim := { program := "ytgkolocmlbnokaa", sum := "62a9ea13c6d66125c5e2276c6defb51b94910e403d8a078193d7548650aa8f85", func := "loop.example/g01283/laws.FnFoundData", spec := "fnFoundData", unfollowed := true, recurses := true, leaving := true, apart := false }
def FnFoundDataSaid : Prop := fnFoundDataRow.holds Try.pinned (OpenSpec.ofChange fnFoundDataSpec)

/-- ITS FALSE NEIGHBOUR: 'it returns false'. Refute it at one input. -/
def fnFoundDataWrong : ChangeSpec := { name := "fnFoundData", fn := fun _ => fun
  | [d] => { results := [.lit (.bool false)], args := [d] }
  | _ => none }
def FnFoundDataWrongFalsely : Prop := fnFoundDataRow.holds Try.pinned (OpenSpec.ofChange fnFoundDataWrong)

/- THE SECOND FORM. 'bulk': how many values and letters a reading holds, each counted each time it is reached (what is shared counts as often as it is met; a slice's spare places count too). A statement '..UptoSaid' is the law's where the arguments, and the package variables that the reading takes, are together of bulk at most 1048576: NARROWER than '..Said'. Prove '..Said' where nothing that the law and all that it calls make is longer than what came in: it says more and counts as full. Else prove '..UptoSaid'. A law counts once. -/
mutual
def uptoBulk {H : Type} : DataW H → Nat
  | .lit (.string bytes) => bytes.length + 1
  | .lit _ => 1
  | .nil => 1
  | .ptr d => uptoBulk d + 1
  | .slice elems spare => uptoBulkAll elems + uptoBulkAll spare + 1
  | .agg parts => uptoBulkAll parts + 1
  | .iface _ d => uptoBulk d + 1
  | .map entries => uptoBulkEntries entries + 1
  | .held _ => 1
def uptoBulkAll {H : Type} : List (DataW H) → Nat
  | [] => 0
  | d :: r => uptoBulk d + uptoBulkAll r
def uptoBulkEntries {H : Type} : List (Lit × DataW H) → Nat
  | [] => 0
  | x :: r => uptoBulkEntry x + uptoBulkEntries r
def uptoBulkEntry {H : Type} : Lit × DataW H → Nat
  | (.string bytes, d) => bytes.length + uptoBulk d + 1
  | (_, d) => uptoBulk d + 1
 end
def uptoSmall : (H : Type) → List (DataW H) → Bool := fun _ ds => decide (uptoBulkAll ds ≤ 1048576)
def OpenSpec.upto (s : _root_.Go.ChangeSpec) : _root_.Go.OpenSpec := { _root_.Go.OpenSpec.ofChange s with cond := some uptoSmall }

/-- 'laws.FnExactFindJacobi', WHERE WHAT IT READS IS OF BULK AT MOST 1048576: true; the input reads as it did. -/
def fnExactFindJacobiUptoRow : OpenClaim := { program := "ytgkolocmlbnokaa", sum := "62a9ea13c6d66125c5e2276c6defb51b94910e403d8a078193d7548650aa8f85", func := "loop.example/g01283/laws.FnExactFindJacobi", spec := "fnExactFindJacobi", unfollowed := true, recurses := true, leaving := true, apart := false, narrowed := true }
def FnExactFindJacobiUptoSaid : Prop := fnExactFindJacobiUptoRow.holds Try.pinned (OpenSpec.upto fnExactFindJacobiSpec)

/-- 'laws.FnExactQuotientsOf', WHERE WHAT IT READS IS OF BULK AT MOST 1048576: true; the input reads as it did. -/
def fnExactQuotientsOfUptoRow : OpenClaim := { program := "ytgkolocmlbnokaa", sum := "62a9ea13c6d66125c5e2276c6defb51b94910e403d8a078193d7548650aa8f85", func := "loop.example/g01283/laws.FnExactQuotientsOf", spec := "fnExactQuotientsOf", unfollowed := true, recurses := true, leaving := true, apart := false, narrowed := true }
def FnExactQuotientsOfUptoSaid : Prop := fnExactQuotientsOfUptoRow.holds Try.pinned (OpenSpec.upto fnExactQuotientsOfSpec)

/-- 'laws.FnExactPadeOf', WHERE WHAT IT READS IS OF BULK AT MOST 1048576: true; the input reads as it did. -/
def fnExactPadeOfUptoRow : OpenClaim := { program := "ytgkolocmlbnokaa", sum := "62a9ea13c6d66125c5e2276c6defb51b94910e403d8a078193d7548650aa8f85", func := "loop.example/g01283/laws.FnExactPadeOf", spec := "fnExactPadeOf", unfollowed := true, recurses := true, leaving := true, apart := false, narrowed := true }
def FnExactPadeOfUptoSaid : Prop := fnExactPadeOfUptoRow.holds Try.pinned (OpenSpec.upto fnExactPadeOfSpec)

/-- 'laws.FnSeriesOfQuotients', WHERE WHAT IT READS IS OF BULK AT MOST 1048576: true; the input reads as it did. -/
def fnSeriesOfQuotientsUptoRow : OpenClaim := { program := "ytgkolocmlbnokaa", sum := "62a9ea13c6d66125c5e2276c6defb51b94910e403d8a078193d7548650aa8f85", func := "loop.example/g01283/laws.FnSeriesOfQuotients", spec := "fnSeriesOfQuotients", unfollowed := true, recurses := true, leaving := true, apart := false, narrowed := true }
def FnSeriesOfQuotientsUptoSaid : Prop := fnSeriesOfQuotientsUptoRow.holds Try.pinned (OpenSpec.upto fnSeriesOfQuotientsSpec)

/-- 'laws.FnFunctionals', WHERE WHAT IT READS IS OF BULK AT MOST 1048576: true; the input reads as it did. -/
def fnFunctionalsUptoRow : OpenClaim := { program := "ytgkolocmlbnokaa", sum := "62a9ea13c6d66125c5e2276c6defb51b94910e403d8a078193d7548650aa8f85", func := "loop.example/g01283/laws.FnFunctionals", spec := "fnFunctionals", unfollowed := true, recurses := true, leaving := true, apart := false, narrowed := true }
def FnFunctionalsUptoSaid : Prop := fnFunctionalsUptoRow.holds Try.pinned (OpenSpec.upto fnFunctionalsSpec)

/-- 'laws.FnMomentChanges', WHERE WHAT IT READS IS OF BULK AT MOST 1048576: true; the input reads as it did. -/
def fnMomentChangesUptoRow : OpenClaim := { program := "ytgkolocmlbnokaa", sum := "62a9ea13c6d66125c5e2276c6defb51b94910e403d8a078193d7548650aa8f85", func := "loop.example/g01283/laws.FnMomentChanges", spec := "fnMomentChanges", unfollowed := true, recurses := true, leaving := true, apart := false, narrowed := true }
def FnMomentChangesUptoSaid : Prop := fnMomentChangesUptoRow.holds Try.pinned (OpenSpec.upto fnMomentChangesSpec)

/-- 'laws.FnRecurrences', WHERE WHAT IT READS IS OF BULK AT MOST 1048576: true; the input reads as it did. -/
def fnRecurrencesUptoRow : OpenClaim := { program := "ytgkolocmlbnokaa", sum := "62a9ea13c6d66125c5e2276c6defb51b94910e403d8a078193d7548650aa8f85", func := "loop.example/g01283/laws.FnRecurrences", spec := "fnRecurrences", unfollowed := true, recurses := true, leaving := true, apart := false, narrowed := true }
def FnRecurrencesUptoSaid : Prop := fnRecurrencesUptoRow.holds Try.pinned (OpenSpec.upto fnRecurrencesSpec)

/-- 'laws.FnFoundData', WHERE WHAT IT READS IS OF BULK AT MOST 1048576: true; the input reads as it did. -/
def fnFoundDataUptoRow : OpenClaim := { program := "ytgkolocmlbnokaa", sum := "62a9ea13c6d66125c5e2276c6defb51b94910e403d8a078193d7548650aa8f85", func := "loop.example/g01283/laws.FnFoundData", spec := "fnFoundData", unfollowed := true, recurses := true, leaving := true, apart := false, narrowed := true }
def FnFoundDataUptoSaid : Prop := fnFoundDataUptoRow.holds Try.pinned (OpenSpec.upto fnFoundDataSpec)

end Rows
end Go.Proofs.Ytgkolocmlbnokaa
