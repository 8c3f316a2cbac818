/-
  No cell of these rows narrows 'for every input' (looked for: loops, veiled, ifaces, maps, wideKeys, modest, calm, conditions, laid).
  DERIVED. THE GIVEN ROWS OF THIS SEAT. 12 by the template 'for every input the law returns true; each argument reads behind the call as it read before'; 0 by the template 'total and deterministic' (their statements: YtjmhkodbkkdfdaaTotals.lean).
  GIVEN WITH THE SEED: the statements are not yours to turn. If you find one false, say at which input.
  Laid BY PROGRAM, IN A SANDBOX (cutbox-rows.mjs): the forced cells as the released guide's own fill.sh prints them over the translation e70064a0115e90c7… (all of the seat's roots in one cut). By AI agents, Wed Nov 11 2026. No macro, syntax, notation, axiom, sorry.
-/
import Derived.Test.YtjmhkodbkkdfdaaChecked
import GoSem.Claim
import GoSem.ClaimJoined
import GoSem.ClaimMapViews
import Derived.JoinedTies
import Derived.KernelRfl
namespace Go.Proofs.Ytjmhkodbkkdfdaa
/- THE CELL 'sum', in the pinned program and in every row, IS THE sha256 OF THE DUMP (.gsa) THAT YtjmhkodbkkdfdaaProg.lean LOADS. Nothing in Lean hashes anything: it is a label: what it is worth is what the hold of that sum in a sandbox is worth. -/
noncomputable def Try.pinned : Pinned := { name := "ytjmhkodbkkdfdaa", sum := "e70064a0115e90c74e5927c0065ab86a807744da58349ddb8d31d98f5f1e8485", checked := Try.checked }
namespace Rows
def none {H : Type} : Left H := { results := [], args := [] }

/-- 'laws.FnExactShiftPoly': WHATEVER THE INPUT: true; the input reads as it did. -/
def fnExactShiftPolySpec : ChangeSpec := { name := "fnExactShiftPoly", fn := fun _ => fun
  | [d1, d2, d3] => { results := [.lit (.bool true)], args := [d1, d2, d3] }
  | _ => none }
def fnExactShiftPolyRow : OpenClaim := { program := "ytjmhkodbkkdfdaa", sum := "e70064a0115e90c74e5927c0065ab86a807744da58349ddb8d31d98f5f1e8485", func := "loop.example/g01283/laws.FnExactShiftPoly", spec := "fnExactShiftPoly", unfollowed := true, recurses := true, plainKeys := false, apart := false }
def FnExactShiftPolySaid : Prop := fnExactShiftPolyRow.holds Try.pinned (OpenSpec.ofChange fnExactShiftPolySpec)

/-- ITS FALSE NEIGHBOUR: 'it returns false'. Refute it at one input. -/
def fnExactShiftPolyWrong : ChangeSpec := { name := "fnExactShiftPoly", fn := fun _ => fun
  | [d1, d2, d3] => { results := [.lit (.bool false)], args := [d1, d2, d3] }
  | _ => none }
def FnExactShiftPolyWrongFalsely : Prop := fnExactShiftPolyRow.holds Try.pinned (OpenSpec.ofChange fnExactShiftPolyWrong)

/-- 'laws.FnExactComposePolys': WHATEVER THE INPUT: true; the input reads as it did. -/
def fnExactComposePolysSpec : ChangeSpec := { name := "fnExactComposePolys", fn := fun _ => fun
  | [d1, d2, d3] => { results := [.lit (.bool true)], args := [d1, d2, d3] }
  | _ => none }
def fnExactComposePolysRow : OpenClaim := { program := "ytjmhkodbkkdfdaa", sum := "e70064a0115e90c74e5927c0065ab86a807744da58349ddb8d31d98f5f1e8485", func := "loop.example/g01283/laws.FnExactComposePolys", spec := "fnExactComposePolys", unfollowed := true, recurses := true, plainKeys := false, apart := false }
def FnExactComposePolysSaid : Prop := fnExactComposePolysRow.holds Try.pinned (OpenSpec.ofChange fnExactComposePolysSpec)

/-- ITS FALSE NEIGHBOUR: 'it returns false'. Refute it at one input. -/
def fnExactComposePolysWrong : ChangeSpec := { name := "fnExactComposePolys", fn := fun _ => fun
  | [d1, d2, d3] => { results := [.lit (.bool false)], args := [d1, d2, d3] }
  | _ => none }
def FnExactComposePolysWrongFalsely : Prop := fnExactComposePolysRow.holds Try.pinned (OpenSpec.ofChange fnExactComposePolysWrong)

/-- 'laws.FnExactPowerPoly': WHATEVER THE INPUT: true; the input reads as it did. -/
def fnExactPowerPolySpec : ChangeSpec := { name := "fnExactPowerPoly", fn := fun _ => fun
  | [d1, d2, d3] => { results := [.lit (.bool true)], args := [d1, d2, d3] }
  | _ => none }
def fnExactPowerPolyRow : OpenClaim := { program := "ytjmhkodbkkdfdaa", sum := "e70064a0115e90c74e5927c0065ab86a807744da58349ddb8d31d98f5f1e8485", func := "loop.example/g01283/laws.FnExactPowerPoly", spec := "fnExactPowerPoly", unfollowed := true, recurses := true, plainKeys := false, apart := false }
def FnExactPowerPolySaid : Prop := fnExactPowerPolyRow.holds Try.pinned (OpenSpec.ofChange fnExactPowerPolySpec)

/-- ITS FALSE NEIGHBOUR: 'it returns false'. Refute it at one input. -/
def fnExactPowerPolyWrong : ChangeSpec := { name := "fnExactPowerPoly", fn := fun _ => fun
  | [d1, d2, d3] => { results := [.lit (.bool false)], args := [d1, d2, d3] }
  | _ => none }
def FnExactPowerPolyWrongFalsely : Prop := fnExactPowerPolyRow.holds Try.pinned (OpenSpec.ofChange fnExactPowerPolyWrong)

/-- 'laws.FnExactInterpolatePoly': WHATEVER THE INPUT: true; the input reads as it did. -/
def fnExactInterpolatePolySpec : ChangeSpec := { name := "fnExactInterpolatePoly", fn := fun _ => fun
  | [d1, d2, d3] => { results := [.lit (.bool true)], args := [d1, d2, d3] }
  | _ => none }
def fnExactInterpolatePolyRow : OpenClaim := { program := "ytjmhkodbkkdfdaa", sum := "e70064a0115e90c74e5927c0065ab86a807744da58349ddb8d31d98f5f1e8485", func := "loop.example/g01283/laws.FnExactInterpolatePoly", spec := "fnExactInterpolatePoly", unfollowed := true, recurses := true, plainKeys := false, apart := false }
def FnExactInterpolatePolySaid : Prop := fnExactInterpolatePolyRow.holds Try.pinned (OpenSpec.ofChange fnExactInterpolatePolySpec)

/-- ITS FALSE NEIGHBOUR: 'it returns false'. Refute it at one input. -/
def fnExactInterpolatePolyWrong : ChangeSpec := { name := "fnExactInterpolatePoly", fn := fun _ => fun
  | [d1, d2, d3] => { results := [.lit (.bool false)], args := [d1, d2, d3] }
  | _ => none }
def FnExactInterpolatePolyWrongFalsely : Prop := fnExactInterpolatePolyRow.holds Try.pinned (OpenSpec.ofChange fnExactInterpolatePolyWrong)

/-- 'laws.FnPolynomials': WHATEVER THE INPUT: true; the input reads as it did. -/
def fnPolynomialsSpec : ChangeSpec := { name := "fnPolynomials", fn := fun _ => fun
  | [d] => { results := [.lit (.bool true)], args := [d] }
  | _ => none }
def fnPolynomialsRow : OpenClaim := { program := "ytjmhkodbkkdfdaa", sum := "e70064a0115e90c74e5927c0065ab86a807744da58349ddb8d31d98f5f1e8485", func := "loop.example/g01283/laws.FnPolynomials", spec := "fnPolynomials", unfollowed := true, recurses := true, plainKeys := false, apart := false }
def FnPolynomialsSaid : Prop := fnPolynomialsRow.holds Try.pinned (OpenSpec.ofChange fnPolynomialsSpec)

/-- ITS FALSE NEIGHBOUR: 'it returns false'. Refute it at one input. -/
def fnPolynomialsWrong : ChangeSpec := { name := "fnPolynomials", fn := fun _ => fun
  | [d] => { results := [.lit (.bool false)], args := [d] }
  | _ => none }
def FnPolynomialsWrongFalsely : Prop := fnPolynomialsRow.holds Try.pinned (OpenSpec.ofChange fnPolynomialsWrong)

/-- 'laws.FnPrimeNumbers': WHATEVER THE INPUT: true; the input reads as it did. -/
def fnPrimeNumbersSpec : ChangeSpec := { name := "fnPrimeNumbers", fn := fun _ => fun
  | [d] => { results := [.lit (.bool true)], args := [d] }
  | _ => none }
def fnPrimeNumbersRow : OpenClaim := { program := "ytjmhkodbkkdfdaa", sum := "e70064a0115e90c74e5927c0065ab86a807744da58349ddb8d31d98f5f1e8485", func := "loop.example/g01283/laws.FnPrimeNumbers", spec := "fnPrimeNumbers", unfollowed := true, recurses := true, plainKeys := false, apart := false }
def FnPrimeNumbersSaid : Prop := fnPrimeNumbersRow.holds Try.pinned (OpenSpec.ofChange fnPrimeNumbersSpec)

/-- ITS FALSE NEIGHBOUR: 'it returns false'. Refute it at one input. -/
def fnPrimeNumbersWrong : ChangeSpec := { name := "fnPrimeNumbers", fn := fun _ => fun
  | [d] => { results := [.lit (.bool false)], args := [d] }
  | _ => none }
def FnPrimeNumbersWrongFalsely : Prop := fnPrimeNumbersRow.holds Try.pinned (OpenSpec.ofChange fnPrimeNumbersWrong)

/-- 'laws.FnExactAreMoments': WHATEVER THE INPUT: true; the input reads as it did. -/
def fnExactAreMomentsSpec : ChangeSpec := { name := "fnExactAreMoments", fn := fun _ => fun
  | [d] => { results := [.lit (.bool true)], args := [d] }
  | _ => none }
def fnExactAreMomentsRow : OpenClaim := { program := "ytjmhkodbkkdfdaa", sum := "e70064a0115e90c74e5927c0065ab86a807744da58349ddb8d31d98f5f1e8485", func := "loop.example/g01283/laws.FnExactAreMoments", spec := "fnExactAreMoments", plainKeys := false, apart := false }
def FnExactAreMomentsSaid : Prop := fnExactAreMomentsRow.holds Try.pinned (OpenSpec.ofChange fnExactAreMomentsSpec)

/-- ITS FALSE NEIGHBOUR: 'it returns false'. Refute it at one input. -/
def fnExactAreMomentsWrong : ChangeSpec := { name := "fnExactAreMoments", fn := fun _ => fun
  | [d] => { results := [.lit (.bool false)], args := [d] }
  | _ => none }
def FnExactAreMomentsWrongFalsely : Prop := fnExactAreMomentsRow.holds Try.pinned (OpenSpec.ofChange fnExactAreMomentsWrong)

/-- 'laws.FnExactApplyFunctional': WHATEVER THE INPUT: true; the input reads as it did. -/
def fnExactApplyFunctionalSpec : ChangeSpec := { name := "fnExactApplyFunctional", fn := fun _ => fun
  | [d1, d2] => { results := [.lit (.bool true)], args := [d1, d2] }
  | _ => none }
def fnExactApplyFunctionalRow : OpenClaim := { program := "ytjmhkodbkkdfdaa", sum := "e70064a0115e90c74e5927c0065ab86a807744da58349ddb8d31d98f5f1e8485", func := "loop.example/g01283/laws.FnExactApplyFunctional", spec := "fnExactApplyFunctional", unfollowed := true, recurses := true, plainKeys := false, apart := false }
def FnExactApplyFunctionalSaid : Prop := fnExactApplyFunctionalRow.holds Try.pinned (OpenSpec.ofChange fnExactApplyFunctionalSpec)

/-- ITS FALSE NEIGHBOUR: 'it returns false'. Refute it at one input. -/
def fnExactApplyFunctionalWrong : ChangeSpec := { name := "fnExactApplyFunctional", fn := fun _ => fun
  | [d1, d2] => { results := [.lit (.bool false)], args := [d1, d2] }
  | _ => none }
def FnExactApplyFunctionalWrongFalsely : Prop := fnExactApplyFunctionalRow.holds Try.pinned (OpenSpec.ofChange fnExactApplyFunctionalWrong)

/-- 'laws.FnExactShiftMoments': WHATEVER THE INPUT: true; the input reads as it did. -/
def fnExactShiftMomentsSpec : ChangeSpec := { name := "fnExactShiftMoments", fn := fun _ => fun
  | [d] => { results := [.lit (.bool true)], args := [d] }
  | _ => none }
def fnExactShiftMomentsRow : OpenClaim := { program := "ytjmhkodbkkdfdaa", sum := "e70064a0115e90c74e5927c0065ab86a807744da58349ddb8d31d98f5f1e8485", func := "loop.example/g01283/laws.FnExactShiftMoments", spec := "fnExactShiftMoments", plainKeys := false, apart := false }
def FnExactShiftMomentsSaid : Prop := fnExactShiftMomentsRow.holds Try.pinned (OpenSpec.ofChange fnExactShiftMomentsSpec)

/-- ITS FALSE NEIGHBOUR: 'it returns false'. Refute it at one input. -/
def fnExactShiftMomentsWrong : ChangeSpec := { name := "fnExactShiftMoments", fn := fun _ => fun
  | [d] => { results := [.lit (.bool false)], args := [d] }
  | _ => none }
def FnExactShiftMomentsWrongFalsely : Prop := fnExactShiftMomentsRow.holds Try.pinned (OpenSpec.ofChange fnExactShiftMomentsWrong)

/-- 'laws.FnExactAddMoments': WHATEVER THE INPUT: true; the input reads as it did. -/
def fnExactAddMomentsSpec : ChangeSpec := { name := "fnExactAddMoments", fn := fun _ => fun
  | [d1, d2, d3] => { results := [.lit (.bool true)], args := [d1, d2, d3] }
  | _ => none }
def fnExactAddMomentsRow : OpenClaim := { program := "ytjmhkodbkkdfdaa", sum := "e70064a0115e90c74e5927c0065ab86a807744da58349ddb8d31d98f5f1e8485", func := "loop.example/g01283/laws.FnExactAddMoments", spec := "fnExactAddMoments", plainKeys := false, apart := false }
def FnExactAddMomentsSaid : Prop := fnExactAddMomentsRow.holds Try.pinned (OpenSpec.ofChange fnExactAddMomentsSpec)

/-- ITS FALSE NEIGHBOUR: 'it returns false'. Refute it at one input. -/
def fnExactAddMomentsWrong : ChangeSpec := { name := "fnExactAddMoments", fn := fun _ => fun
  | [d1, d2, d3] => { results := [.lit (.bool false)], args := [d1, d2, d3] }
  | _ => none }
def FnExactAddMomentsWrongFalsely : Prop := fnExactAddMomentsRow.holds Try.pinned (OpenSpec.ofChange fnExactAddMomentsWrong)

/-- 'laws.FnExactCutMoments': WHATEVER THE INPUT: true; the input reads as it did. -/
def fnExactCutMomentsSpec : ChangeSpec := { name := "fnExactCutMoments", fn := fun _ => fun
  | [d1, d2] => { results := [.lit (.bool true)], args := [d1, d2] }
  | _ => none }
def fnExactCutMomentsRow : OpenClaim := { program := "ytjmhkodbkkdfdaa", sum := "e70064a0115e90c74e5927c0065ab86a807744da58349ddb8d31d98f5f1e8485", func := "loop.example/g01283/laws.FnExactCutMoments", spec := "fnExactCutMoments", plainKeys := false, apart := false }
def FnExactCutMomentsSaid : Prop := fnExactCutMomentsRow.holds Try.pinned (OpenSpec.ofChange fnExactCutMomentsSpec)

/-- ITS FALSE NEIGHBOUR: 'it returns false'. Refute it at one input. -/
def fnExactCutMomentsWrong : ChangeSpec := { name := "fnExactCutMoments", fn := fun _ => fun
  | [d1, d2] => { results := [.lit (.bool false)], args := [d1, d2] }
  | _ => none }
def FnExactCutMomentsWrongFalsely : Prop := fnExactCutMomentsRow.holds Try.pinned (OpenSpec.ofChange fnExactCutMomentsWrong)

/-- 'laws.FnExactProductMoments': WHATEVER THE INPUT: true; the input reads as it did. -/
def fnExactProductMomentsSpec : ChangeSpec := { name := "fnExactProductMoments", fn := fun _ => fun
  | [d1, d2] => { results := [.lit (.bool true)], args := [d1, d2] }
  | _ => none }
def fnExactProductMomentsRow : OpenClaim := { program := "ytjmhkodbkkdfdaa", sum := "e70064a0115e90c74e5927c0065ab86a807744da58349ddb8d31d98f5f1e8485", func := "loop.example/g01283/laws.FnExactProductMoments", spec := "fnExactProductMoments", unfollowed := true, recurses := true, plainKeys := false, apart := false }
def FnExactProductMomentsSaid : Prop := fnExactProductMomentsRow.holds Try.pinned (OpenSpec.ofChange fnExactProductMomentsSpec)

/-- ITS FALSE NEIGHBOUR: 'it returns false'. Refute it at one input. -/
def fnExactProductMomentsWrong : ChangeSpec := { name := "fnExactProductMoments", fn := fun _ => fun
  | [d1, d2] => { results := [.lit (.bool false)], args := [d1, d2] }
  | _ => none }
def FnExactProductMomentsWrongFalsely : Prop := fnExactProductMomentsRow.holds Try.pinned (OpenSpec.ofChange fnExactProductMomentsWrong)

/- THE SECOND FORM. 'bulk': how many values and letters a reading holds, each counted each time it is reached (what is shared counts as often as it is met; a slice's spare places count too). A statement '..UptoSaid' is the law's where the arguments, and the package variables that the reading takes, are together of bulk at most 1048576: NARROWER than '..Said'. Prove '..Said' where nothing that the law and all that it calls make is longer than what came in: it says more and counts as full. Else prove '..UptoSaid'. A law counts once. -/
mutual
def uptoBulk {H : Type} : DataW H → Nat
  | .lit (.string bytes) => bytes.length + 1
  | .lit _ => 1
  | .nil => 1
  | .ptr d => uptoBulk d + 1
  | .slice elems spare => uptoBulkAll elems + uptoBulkAll spare + 1
  | .agg parts => uptoBulkAll parts + 1
  | .iface _ d => uptoBulk d + 1
  | .map entries => uptoBulkEntries entries + 1
  | .held _ => 1
def uptoBulkAll {H : Type} : List (DataW H) → Nat
  | [] => 0
  | d :: r => uptoBulk d + uptoBulkAll r
def uptoBulkEntries {H : Type} : List (Lit × DataW H) → Nat
  | [] => 0
  | x :: r => uptoBulkEntry x + uptoBulkEntries r
def uptoBulkEntry {H : Type} : Lit × DataW H → Nat
  | (.string bytes, d) => bytes.length + uptoBulk d + 1
  | (_, d) => uptoBulk d + 1
 end
def uptoSmall : (H : Type) → List (DataW H) → Bool := fun _ ds => decide (uptoBulkAll ds ≤ 1048576)
def OpenSpec.upto (s : _root_.Go.ChangeSpec) : _root_.Go.OpenSpec := { _root_.Go.OpenSpec.ofChange s with cond := some uptoSmall }

/-- 'laws.FnExactShiftPoly', WHERE WHAT IT READS IS OF BULK AT MOST 1048576: true; the input reads as it did. -/
def fnExactShiftPolyUptoRow : OpenClaim := { program := "ytjmhkodbkkdfdaa", sum := "e70064a0115e90c74e5927c0065ab86a807744da58349ddb8d31d98f5f1e8485", func := "loop.example/g01283/laws.FnExactShiftPoly", spec := "fnExactShiftPoly", unfollowed := true, recurses := true, plainKeys := false, apart := false, narrowed := true }
def FnExactShiftPolyUptoSaid : Prop := fnExactShiftPolyUptoRow.holds Try.pinned (OpenSpec.upto fnExactShiftPolySpec)

/-- 'laws.FnExactComposePolys', WHERE WHAT IT READS IS OF BULK AT MOST 1048576: true; the input reads as it did. -/
def fnExactComposePolysUptoRow : OpenClaim := { program := "ytjmhkodbkkdfdaa", sum := "e70064a0115e90c74e5927c0065ab86a807744da58349ddb8d31d98f5f1e8485", func := "loop.example/g01283/laws.FnExactComposePolys", spec := "fnExactComposePolys", unfollowed := true, recurses := true, plainKeys := false, apart := false, narrowed := true }
def FnExactComposePolysUptoSaid : Prop := fnExactComposePolysUptoRow.holds Try.pinned (OpenSpec.upto fnExactComposePolysSpec)

/-- 'laws.FnExactPowerPoly', WHERE WHAT IT READS IS OF BULK AT MOST 1048576: true; the input reads as it did. -/
def fnExactPowerPolyUptoRow : OpenClaim := { program := "ytjmhkodbkkdfdaa", sum := "e70064a0115e90c74e5927c0065ab86a807744da58349ddb8d31d98f5f1e8485", func := "loop.example/g01283/laws.FnExactPowerPoly", spec := "fnExactPowerPoly", unfollowed := true, recurses := true, plainKeys := false, apart := false, narrowed := true }
def FnExactPowerPolyUptoSaid : Prop := fnExactPowerPolyUptoRow.holds Try.pinned (OpenSpec.upto fnExactPowerPolySpec)

/-- 'laws.FnExactInterpolatePoly', WHERE WHAT IT READS IS OF BULK AT MOST 1048576: true; the input reads as it did. -/
def fnExactInterpolatePolyUptoRow : OpenClaim := { program := "ytjmhkodbkkdfdaa", sum := "e70064a0115e90c74e5927c0065ab86a807744da58349ddb8d31d98f5f1e8485", func := "loop.example/g01283/laws.FnExactInterpolatePoly", spec := "fnExactInterpolatePoly", unfollowed := true, recurses := true, plainKeys := false, apart := false, narrowed := true }
def FnExactInterpolatePolyUptoSaid : Prop := fnExactInterpolatePolyUptoRow.holds Try.pinned (OpenSpec.upto fnExactInterpolatePolySpec)

/-- 'laws.FnPolynomials', WHERE WHAT IT READS IS OF BULK AT MOST 1048576: true; the input reads as it did. -/
def fnPolynomialsUptoRow : OpenClaim := { program := "ytjmhkodbkkdfdaa", sum := "e70064a0115e90c74e5927c0065ab86a807744da58349ddb8d31d98f5f1e8485", func := "loop.example/g01283/laws.FnPolynomials", spec := "fnPolynomials", unfollowed := true, recurses := true, plainKeys := false, apart := false, narrowed := true }
def FnPolynomialsUptoSaid : Prop := fnPolynomialsUptoRow.holds Try.pinned (OpenSpec.upto fnPolynomialsSpec)

/-- 'laws.FnPrimeNumbers', WHERE WHAT IT READS IS OF BULK AT MOST 1048576: true; the input reads as it did. -/
def fnPrimeNumbersUptoRow : OpenClaim := { program := "ytjmhkodbkkdfdaa", sum := "e70064a0115e90c74e5927c0065ab86a807744da58349ddb8d31d98f5f1e8485", func := "loop.example/g01283/laws.FnPrimeNumbers", spec := "fnPrimeNumbers", unfollowed := true, recurses := true, plainKeys := false, apart := false, narrowed := true }
def FnPrimeNumbersUptoSaid : Prop := fnPrimeNumbersUptoRow.holds Try.pinned (OpenSpec.upto fnPrimeNumbersSpec)

/-- 'laws.FnExactAreMoments', WHERE WHAT IT READS IS OF BULK AT MOST 1048576: true; the input reads as it did. -/
def fnExactAreMomentsUptoRow : OpenClaim := { program := "ytjmhkodbkkdfdaa", sum := "e70064a0115e90c74e5927c0065ab86a807744da58349ddb8d31d98f5f1e8485", func := "loop.example/g01283/laws.FnExactAreMoments", spec := "fnExactAreMoments", plainKeys := false, apart := false, narrowed := true }
def FnExactAreMomentsUptoSaid : Prop := fnExactAreMomentsUptoRow.holds Try.pinned (OpenSpec.upto fnExactAreMomentsSpec)

/-- 'laws.FnExactApplyFunctional', WHERE WHAT IT READS IS OF BULK AT MOST 1048576: true; the input reads as it did. -/
def fnExactApplyFunctionalUptoRow : OpenClaim := { program := "ytjmhkodbkkdfdaa", sum := "e70064a0115e90c74e5927c0065ab86a807744da58349ddb8d31d98f5f1e8485", func := "loop.example/g01283/laws.FnExactApplyFunctional", spec := "fnExactApplyFunctional", unfollowed := true, recurses := true, plainKeys := false, apart := false, narrowed := true }
def FnExactApplyFunctionalUptoSaid : Prop := fnExactApplyFunctionalUptoRow.holds Try.pinned (OpenSpec.upto fnExactApplyFunctionalSpec)

/-- 'laws.FnExactShiftMoments', WHERE WHAT IT READS IS OF BULK AT MOST 1048576: true; the input reads as it did. -/
def fnExactShiftMomentsUptoRow : OpenClaim := { program := "ytjmhkodbkkdfdaa", sum := "e70064a0115e90c74e5927c0065ab86a807744da58349ddb8d31d98f5f1e8485", func := "loop.example/g01283/laws.FnExactShiftMoments", spec := "fnExactShiftMoments", plainKeys := false, apart := false, narrowed := true }
def FnExactShiftMomentsUptoSaid : Prop := fnExactShiftMomentsUptoRow.holds Try.pinned (OpenSpec.upto fnExactShiftMomentsSpec)

/-- 'laws.FnExactAddMoments', WHERE WHAT IT READS IS OF BULK AT MOST 1048576: true; the input reads as it did. -/
def fnExactAddMomentsUptoRow : OpenClaim := { program := "ytjmhkodbkkdfdaa", sum := "e70064a0115e90c74e5927c0065ab86a807744da58349ddb8d31d98f5f1e8485", func := "loop.example/g01283/laws.FnExactAddMoments", spec := "fnExactAddMoments", plainKeys := false, apart := false, narrowed := true }
def FnExactAddMomentsUptoSaid : Prop := fnExactAddMomentsUptoRow.holds Try.pinned (OpenSpec.upto fnExactAddMomentsSpec)

/-- 'laws.FnExactCutMoments', WHERE WHAT IT READS IS OF BULK AT MOST 1048576: true; the input reads as it did. -/
def fnExactCutMomentsUptoRow : OpenClaim := { program := "ytjmhkodbkkdfdaa", sum := "e70064a0115e90c74e5927c0065ab86a807744da58349ddb8d31d98f5f1e8485", func := "loop.example/g01283/laws.FnExactCutMoments", spec := "fnExactCutMoments", plainKeys := false, apart := false, narrowed := true }
def FnExactCutMomentsUptoSaid : Prop := fnExactCutMomentsUptoRow.holds Try.pinned (OpenSpec.upto fnExactCutMomentsSpec)

/-- 'laws.FnExactProductMoments', WHERE WHAT IT READS IS OF BULK AT MOST 1048576: true; the input reads as it did. -/
def fnExactProductMomentsUptoRow : OpenClaim := { program := "ytjmhkodbkkdfdaa", sum := "e70064a0115e90c74e5927c0065ab86a807744da58349ddb8d31d98f5f1e8485", func := "loop.example/g01283/laws.FnExactProductMoments", spec := "fnExactProductMoments", unfollowed := true, recurses := true, plainKeys := false, apart := false, narrowed := true }
def FnExactProductMomentsUptoSaid : Prop := fnExactProductMomentsUptoRow.holds Try.pinned (OpenSpec.upto fnExactProductMomentsSpec)

end Rows
end Go.Proofs.Ytjmhkodbkkdfdaa
