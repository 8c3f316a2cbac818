/-
  No cell of these rows narrows 'for every input' (looked for: loops, veiled, ifaces, maps, wideKeys, modest, calm, conditions, laid).
  DERIVED. THE GIVEN ROWS OF THIS SEAT. 12 by the template 'for every input the law returns true; each argument reads behind the call as it read before'; 0 by the template 'total and deterministic' (their statements: YtagheoddbikdgaaTotals.lean).
  GIVEN WITH THE SEED: the statements are not yours to turn. If you find one false, say at which input.
  Laid BY PROGRAM, IN A SANDBOX (cutbox-rows.mjs): the forced cells as the released guide's own fill.sh prints them over the translation 303f49a4a9696902… (all of the seat's roots in one cut). By AI agents, Wed Nov 11 2026. No macro, syntax, notation, axiom, sorry.
-/
import Derived.Test.YtagheoddbikdgaaChecked
import GoSem.Claim
import GoSem.ClaimJoined
import GoSem.ClaimMapViews
import Derived.JoinedTies
import Derived.KernelRfl
namespace Go.Proofs.Ytagheoddbikdgaa
/- THE CELL 'sum', in the pinned program and in every row, IS THE sha256 OF THE DUMP (.gsa) THAT YtagheoddbikdgaaProg.lean LOADS. Nothing in Lean hashes anything: it is a label: what it is worth is what the hold of that sum in a sandbox is worth. -/
noncomputable def Try.pinned : Pinned := { name := "ytagheoddbikdgaa", sum := "303f49a4a9696902077ad0f8ee5e8755b1bcacb7e1af0ab279ec5ad6c5169a69", checked := Try.checked }
namespace Rows
def none {H : Type} : Left H := { results := [], args := [] }

/-- 'laws.FnExactPolyOf': WHATEVER THE INPUT: true; the input reads as it did. -/
def fnExactPolyOfSpec : ChangeSpec := { name := "fnExactPolyOf", fn := fun _ => fun
  | [d1, d2] => { results := [.lit (.bool true)], args := [d1, d2] }
  | _ => none }
def fnExactPolyOfRow : OpenClaim := { program := "ytagheoddbikdgaa", sum := "303f49a4a9696902077ad0f8ee5e8755b1bcacb7e1af0ab279ec5ad6c5169a69", func := "loop.example/g01283/laws.FnExactPolyOf", spec := "fnExactPolyOf", unfollowed := true, recurses := true, plainKeys := false, apart := false }
def FnExactPolyOfSaid : Prop := fnExactPolyOfRow.holds Try.pinned (OpenSpec.ofChange fnExactPolyOfSpec)

/-- ITS FALSE NEIGHBOUR: 'it returns false'. Refute it at one input. -/
def fnExactPolyOfWrong : ChangeSpec := { name := "fnExactPolyOf", fn := fun _ => fun
  | [d1, d2] => { results := [.lit (.bool false)], args := [d1, d2] }
  | _ => none }
def FnExactPolyOfWrongFalsely : Prop := fnExactPolyOfRow.holds Try.pinned (OpenSpec.ofChange fnExactPolyOfWrong)

/-- 'laws.FnExactAssociatedOf': WHATEVER THE INPUT: true; the input reads as it did. -/
def fnExactAssociatedOfSpec : ChangeSpec := { name := "fnExactAssociatedOf", fn := fun _ => fun
  | [d1, d2] => { results := [.lit (.bool true)], args := [d1, d2] }
  | _ => none }
def fnExactAssociatedOfRow : OpenClaim := { program := "ytagheoddbikdgaa", sum := "303f49a4a9696902077ad0f8ee5e8755b1bcacb7e1af0ab279ec5ad6c5169a69", func := "loop.example/g01283/laws.FnExactAssociatedOf", spec := "fnExactAssociatedOf", unfollowed := true, recurses := true, plainKeys := false, apart := false }
def FnExactAssociatedOfSaid : Prop := fnExactAssociatedOfRow.holds Try.pinned (OpenSpec.ofChange fnExactAssociatedOfSpec)

/-- ITS FALSE NEIGHBOUR: 'it returns false'. Refute it at one input. -/
def fnExactAssociatedOfWrong : ChangeSpec := { name := "fnExactAssociatedOf", fn := fun _ => fun
  | [d1, d2] => { results := [.lit (.bool false)], args := [d1, d2] }
  | _ => none }
def FnExactAssociatedOfWrongFalsely : Prop := fnExactAssociatedOfRow.holds Try.pinned (OpenSpec.ofChange fnExactAssociatedOfWrong)

/-- 'laws.FnExactValueOf': WHATEVER THE INPUT: true; the input reads as it did. -/
def fnExactValueOfSpec : ChangeSpec := { name := "fnExactValueOf", fn := fun _ => fun
  | [d1, d2, d3] => { results := [.lit (.bool true)], args := [d1, d2, d3] }
  | _ => none }
def fnExactValueOfRow : OpenClaim := { program := "ytagheoddbikdgaa", sum := "303f49a4a9696902077ad0f8ee5e8755b1bcacb7e1af0ab279ec5ad6c5169a69", func := "loop.example/g01283/laws.FnExactValueOf", spec := "fnExactValueOf", unfollowed := true, recurses := true, plainKeys := false, apart := false }
def FnExactValueOfSaid : Prop := fnExactValueOfRow.holds Try.pinned (OpenSpec.ofChange fnExactValueOfSpec)

/-- ITS FALSE NEIGHBOUR: 'it returns false'. Refute it at one input. -/
def fnExactValueOfWrong : ChangeSpec := { name := "fnExactValueOf", fn := fun _ => fun
  | [d1, d2, d3] => { results := [.lit (.bool false)], args := [d1, d2, d3] }
  | _ => none }
def FnExactValueOfWrongFalsely : Prop := fnExactValueOfRow.holds Try.pinned (OpenSpec.ofChange fnExactValueOfWrong)

/-- 'laws.FnExactWronskiAt': WHATEVER THE INPUT: true; the input reads as it did. -/
def fnExactWronskiAtSpec : ChangeSpec := { name := "fnExactWronskiAt", fn := fun _ => fun
  | [d1, d2] => { results := [.lit (.bool true)], args := [d1, d2] }
  | _ => none }
def fnExactWronskiAtRow : OpenClaim := { program := "ytagheoddbikdgaa", sum := "303f49a4a9696902077ad0f8ee5e8755b1bcacb7e1af0ab279ec5ad6c5169a69", func := "loop.example/g01283/laws.FnExactWronskiAt", spec := "fnExactWronskiAt", unfollowed := true, recurses := true, plainKeys := false, apart := false }
def FnExactWronskiAtSaid : Prop := fnExactWronskiAtRow.holds Try.pinned (OpenSpec.ofChange fnExactWronskiAtSpec)

/-- ITS FALSE NEIGHBOUR: 'it returns false'. Refute it at one input. -/
def fnExactWronskiAtWrong : ChangeSpec := { name := "fnExactWronskiAt", fn := fun _ => fun
  | [d1, d2] => { results := [.lit (.bool false)], args := [d1, d2] }
  | _ => none }
def FnExactWronskiAtWrongFalsely : Prop := fnExactWronskiAtRow.holds Try.pinned (OpenSpec.ofChange fnExactWronskiAtWrong)

/-- 'laws.FnExactInterpolatePoly': WHATEVER THE INPUT: true; the input reads as it did. -/
def fnExactInterpolatePolySpec : ChangeSpec := { name := "fnExactInterpolatePoly", fn := fun _ => fun
  | [d1, d2, d3] => { results := [.lit (.bool true)], args := [d1, d2, d3] }
  | _ => none }
def fnExactInterpolatePolyRow : OpenClaim := { program := "ytagheoddbikdgaa", sum := "303f49a4a9696902077ad0f8ee5e8755b1bcacb7e1af0ab279ec5ad6c5169a69", func := "loop.example/g01283/laws.FnExactInterpolatePoly", spec := "fnExactInterpolatePoly", unfollowed := true, recurses := true, plainKeys := false, apart := false }
def FnExactInterpolatePolySaid : Prop := fnExactInterpolatePolyRow.holds Try.pinned (OpenSpec.ofChange fnExactInterpolatePolySpec)

/-- ITS FALSE NEIGHBOUR: 'it returns false'. Refute it at one input. -/
def fnExactInterpolatePolyWrong : ChangeSpec := { name := "fnExactInterpolatePoly", fn := fun _ => fun
  | [d1, d2, d3] => { results := [.lit (.bool false)], args := [d1, d2, d3] }
  | _ => none }
def FnExactInterpolatePolyWrongFalsely : Prop := fnExactInterpolatePolyRow.holds Try.pinned (OpenSpec.ofChange fnExactInterpolatePolyWrong)

/-- 'laws.FnExactIsOrthogonal': WHATEVER THE INPUT: true; the input reads as it did. -/
def fnExactIsOrthogonalSpec : ChangeSpec := { name := "fnExactIsOrthogonal", fn := fun _ => fun
  | [d1, d2, d3] => { results := [.lit (.bool true)], args := [d1, d2, d3] }
  | _ => none }
def fnExactIsOrthogonalRow : OpenClaim := { program := "ytagheoddbikdgaa", sum := "303f49a4a9696902077ad0f8ee5e8755b1bcacb7e1af0ab279ec5ad6c5169a69", func := "loop.example/g01283/laws.FnExactIsOrthogonal", spec := "fnExactIsOrthogonal", unfollowed := true, recurses := true, plainKeys := false, apart := false }
def FnExactIsOrthogonalSaid : Prop := fnExactIsOrthogonalRow.holds Try.pinned (OpenSpec.ofChange fnExactIsOrthogonalSpec)

/-- ITS FALSE NEIGHBOUR: 'it returns false'. Refute it at one input. -/
def fnExactIsOrthogonalWrong : ChangeSpec := { name := "fnExactIsOrthogonal", fn := fun _ => fun
  | [d1, d2, d3] => { results := [.lit (.bool false)], args := [d1, d2, d3] }
  | _ => none }
def FnExactIsOrthogonalWrongFalsely : Prop := fnExactIsOrthogonalRow.holds Try.pinned (OpenSpec.ofChange fnExactIsOrthogonalWrong)

/-- 'laws.FnExactAffineMoments': WHATEVER THE INPUT: true; the input reads as it did. -/
def fnExactAffineMomentsSpec : ChangeSpec := { name := "fnExactAffineMoments", fn := fun _ => fun
  | [d1, d2, d3] => { results := [.lit (.bool true)], args := [d1, d2, d3] }
  | _ => none }
def fnExactAffineMomentsRow : OpenClaim := { program := "ytagheoddbikdgaa", sum := "303f49a4a9696902077ad0f8ee5e8755b1bcacb7e1af0ab279ec5ad6c5169a69", func := "loop.example/g01283/laws.FnExactAffineMoments", spec := "fnExactAffineMoments", unfollowed := true, recurses := true, plainKeys := false, apart := false }
def FnExactAffineMomentsSaid : Prop := fnExactAffineMomentsRow.holds Try.pinned (OpenSpec.ofChange fnExactAffineMomentsSpec)

/-- ITS FALSE NEIGHBOUR: 'it returns false'. Refute it at one input. -/
def fnExactAffineMomentsWrong : ChangeSpec := { name := "fnExactAffineMoments", fn := fun _ => fun
  | [d1, d2, d3] => { results := [.lit (.bool false)], args := [d1, d2, d3] }
  | _ => none }
def FnExactAffineMomentsWrongFalsely : Prop := fnExactAffineMomentsRow.holds Try.pinned (OpenSpec.ofChange fnExactAffineMomentsWrong)

/-- 'laws.FnExactMomentsOfNodes': WHATEVER THE INPUT: true; the input reads as it did. -/
def fnExactMomentsOfNodesSpec : ChangeSpec := { name := "fnExactMomentsOfNodes", fn := fun _ => fun
  | [d1, d2, d3, d4] => { results := [.lit (.bool true)], args := [d1, d2, d3, d4] }
  | _ => none }
def fnExactMomentsOfNodesRow : OpenClaim := { program := "ytagheoddbikdgaa", sum := "303f49a4a9696902077ad0f8ee5e8755b1bcacb7e1af0ab279ec5ad6c5169a69", func := "loop.example/g01283/laws.FnExactMomentsOfNodes", spec := "fnExactMomentsOfNodes", unfollowed := true, recurses := true, plainKeys := false, apart := false }
def FnExactMomentsOfNodesSaid : Prop := fnExactMomentsOfNodesRow.holds Try.pinned (OpenSpec.ofChange fnExactMomentsOfNodesSpec)

/-- ITS FALSE NEIGHBOUR: 'it returns false'. Refute it at one input. -/
def fnExactMomentsOfNodesWrong : ChangeSpec := { name := "fnExactMomentsOfNodes", fn := fun _ => fun
  | [d1, d2, d3, d4] => { results := [.lit (.bool false)], args := [d1, d2, d3, d4] }
  | _ => none }
def FnExactMomentsOfNodesWrongFalsely : Prop := fnExactMomentsOfNodesRow.holds Try.pinned (OpenSpec.ofChange fnExactMomentsOfNodesWrong)

/-- 'laws.FnExactFindJacobi': WHATEVER THE INPUT: true; the input reads as it did. -/
def fnExactFindJacobiSpec : ChangeSpec := { name := "fnExactFindJacobi", fn := fun _ => fun
  | [d1, d2, d3, d4] => { results := [.lit (.bool true)], args := [d1, d2, d3, d4] }
  | _ => none }
def fnExactFindJacobiRow : OpenClaim := { program := "ytagheoddbikdgaa", sum := "303f49a4a9696902077ad0f8ee5e8755b1bcacb7e1af0ab279ec5ad6c5169a69", func := "loop.example/g01283/laws.FnExactFindJacobi", spec := "fnExactFindJacobi", unfollowed := true, recurses := true, plainKeys := false, apart := false }
def FnExactFindJacobiSaid : Prop := fnExactFindJacobiRow.holds Try.pinned (OpenSpec.ofChange fnExactFindJacobiSpec)

/-- ITS FALSE NEIGHBOUR: 'it returns false'. Refute it at one input. -/
def fnExactFindJacobiWrong : ChangeSpec := { name := "fnExactFindJacobi", fn := fun _ => fun
  | [d1, d2, d3, d4] => { results := [.lit (.bool false)], args := [d1, d2, d3, d4] }
  | _ => none }
def FnExactFindJacobiWrongFalsely : Prop := fnExactFindJacobiRow.holds Try.pinned (OpenSpec.ofChange fnExactFindJacobiWrong)

/-- 'laws.FnExactHankelDeterminant': WHATEVER THE INPUT: true; the input reads as it did. -/
def fnExactHankelDeterminantSpec : ChangeSpec := { name := "fnExactHankelDeterminant", fn := fun _ => fun
  | [d1, d2] => { results := [.lit (.bool true)], args := [d1, d2] }
  | _ => none }
def fnExactHankelDeterminantRow : OpenClaim := { program := "ytagheoddbikdgaa", sum := "303f49a4a9696902077ad0f8ee5e8755b1bcacb7e1af0ab279ec5ad6c5169a69", func := "loop.example/g01283/laws.FnExactHankelDeterminant", spec := "fnExactHankelDeterminant", unfollowed := true, recurses := true, plainKeys := false, apart := false }
def FnExactHankelDeterminantSaid : Prop := fnExactHankelDeterminantRow.holds Try.pinned (OpenSpec.ofChange fnExactHankelDeterminantSpec)

/-- ITS FALSE NEIGHBOUR: 'it returns false'. Refute it at one input. -/
def fnExactHankelDeterminantWrong : ChangeSpec := { name := "fnExactHankelDeterminant", fn := fun _ => fun
  | [d1, d2] => { results := [.lit (.bool false)], args := [d1, d2] }
  | _ => none }
def FnExactHankelDeterminantWrongFalsely : Prop := fnExactHankelDeterminantRow.holds Try.pinned (OpenSpec.ofChange fnExactHankelDeterminantWrong)

/-- 'laws.FnExactOrderOf': WHATEVER THE INPUT: true; the input reads as it did. -/
def fnExactOrderOfSpec : ChangeSpec := { name := "fnExactOrderOf", fn := fun _ => fun
  | [d] => { results := [.lit (.bool true)], args := [d] }
  | _ => none }
def fnExactOrderOfRow : OpenClaim := { program := "ytagheoddbikdgaa", sum := "303f49a4a9696902077ad0f8ee5e8755b1bcacb7e1af0ab279ec5ad6c5169a69", func := "loop.example/g01283/laws.FnExactOrderOf", spec := "fnExactOrderOf", unfollowed := true, recurses := true, plainKeys := false, apart := false }
def FnExactOrderOfSaid : Prop := fnExactOrderOfRow.holds Try.pinned (OpenSpec.ofChange fnExactOrderOfSpec)

/-- ITS FALSE NEIGHBOUR: 'it returns false'. Refute it at one input. -/
def fnExactOrderOfWrong : ChangeSpec := { name := "fnExactOrderOf", fn := fun _ => fun
  | [d] => { results := [.lit (.bool false)], args := [d] }
  | _ => none }
def FnExactOrderOfWrongFalsely : Prop := fnExactOrderOfRow.holds Try.pinned (OpenSpec.ofChange fnExactOrderOfWrong)

/-- 'laws.FnExactMatrixOf': WHATEVER THE INPUT: true; the input reads as it did. -/
def fnExactMatrixOfSpec : ChangeSpec := { name := "fnExactMatrixOf", fn := fun _ => fun
  | [d] => { results := [.lit (.bool true)], args := [d] }
  | _ => none }
def fnExactMatrixOfRow : OpenClaim := { program := "ytagheoddbikdgaa", sum := "303f49a4a9696902077ad0f8ee5e8755b1bcacb7e1af0ab279ec5ad6c5169a69", func := "loop.example/g01283/laws.FnExactMatrixOf", spec := "fnExactMatrixOf", plainKeys := false, apart := false }
def FnExactMatrixOfSaid : Prop := fnExactMatrixOfRow.holds Try.pinned (OpenSpec.ofChange fnExactMatrixOfSpec)

/-- ITS FALSE NEIGHBOUR: 'it returns false'. Refute it at one input. -/
def fnExactMatrixOfWrong : ChangeSpec := { name := "fnExactMatrixOf", fn := fun _ => fun
  | [d] => { results := [.lit (.bool false)], args := [d] }
  | _ => none }
def FnExactMatrixOfWrongFalsely : Prop := fnExactMatrixOfRow.holds Try.pinned (OpenSpec.ofChange fnExactMatrixOfWrong)

/- THE SECOND FORM. 'bulk': how many values and letters a reading holds, each counted each time it is reached (what is shared counts as often as it is met; a slice's spare places count too). A statement '..UptoSaid' is the law's where the arguments, and the package variables that the reading takes, are together of bulk at most 1048576: NARROWER than '..Said'. Prove '..Said' where nothing that the law and all that it calls make is longer than what came in: it says more and counts as full. Else prove '..UptoSaid'. A law counts once. -/
mutual
def uptoBulk {H : Type} : DataW H → Nat
  | .lit (.string bytes) => bytes.length + 1
  | .lit _ => 1
  | .nil => 1
  | .ptr d => uptoBulk d + 1
  | .slice elems spare => uptoBulkAll elems + uptoBulkAll spare + 1
  | .agg parts => uptoBulkAll parts + 1
  | .iface _ d => uptoBulk d + 1
  | .map entries => uptoBulkEntries entries + 1
  | .held _ => 1
def uptoBulkAll {H : Type} : List (DataW H) → Nat
  | [] => 0
  | d :: r => uptoBulk d + uptoBulkAll r
def uptoBulkEntries {H : Type} : List (Lit × DataW H) → Nat
  | [] => 0
  | x :: r => uptoBulkEntry x + uptoBulkEntries r
def uptoBulkEntry {H : Type} : Lit × DataW H → Nat
  | (.string bytes, d) => bytes.length + uptoBulk d + 1
  | (_, d) => uptoBulk d + 1
 end
def uptoSmall : (H : Type) → List (DataW H) → Bool := fun _ ds => decide (uptoBulkAll ds ≤ 1048576)
def OpenSpec.upto (s : _root_.Go.ChangeSpec) : _root_.Go.OpenSpec := { _root_.Go.OpenSpec.ofChange s with cond := some uptoSmall }

/-- 'laws.FnExactPolyOf', WHERE WHAT IT READS IS OF BULK AT MOST 1048576: true; the input reads as it did. -/
def fnExactPolyOfUptoRow : OpenClaim := { program := "ytagheoddbikdgaa", sum := "303f49a4a9696902077ad0f8ee5e8755b1bcacb7e1af0ab279ec5ad6c5169a69", func := "loop.example/g01283/laws.FnExactPolyOf", spec := "fnExactPolyOf", unfollowed := true, recurses := true, plainKeys := false, apart := false, narrowed := true }
def FnExactPolyOfUptoSaid : Prop := fnExactPolyOfUptoRow.holds Try.pinned (OpenSpec.upto fnExactPolyOfSpec)

/-- 'laws.FnExactAssociatedOf', WHERE WHAT IT READS IS OF BULK AT MOST 1048576: true; the input reads as it did. -/
def fnExactAssociatedOfUptoRow : OpenClaim := { program := "ytagheoddbikdgaa", sum := "303f49a4a9696902077ad0f8ee5e8755b1bcacb7e1af0ab279ec5ad6c5169a69", func := "loop.example/g01283/laws.FnExactAssociatedOf", spec := "fnExactAssociatedOf", unfollowed := true, recurses := true, plainKeys := false, apart := false, narrowed := true }
def FnExactAssociatedOfUptoSaid : Prop := fnExactAssociatedOfUptoRow.holds Try.pinned (OpenSpec.upto fnExactAssociatedOfSpec)

/-- 'laws.FnExactValueOf', WHERE WHAT IT READS IS OF BULK AT MOST 1048576: true; the input reads as it did. -/
def fnExactValueOfUptoRow : OpenClaim := { program := "ytagheoddbikdgaa", sum := "303f49a4a9696902077ad0f8ee5e8755b1bcacb7e1af0ab279ec5ad6c5169a69", func := "loop.example/g01283/laws.FnExactValueOf", spec := "fnExactValueOf", unfollowed := true, recurses := true, plainKeys := false, apart := false, narrowed := true }
def FnExactValueOfUptoSaid : Prop := fnExactValueOfUptoRow.holds Try.pinned (OpenSpec.upto fnExactValueOfSpec)

/-- 'laws.FnExactWronskiAt', WHERE WHAT IT READS IS OF BULK AT MOST 1048576: true; the input reads as it did. -/
def fnExactWronskiAtUptoRow : OpenClaim := { program := "ytagheoddbikdgaa", sum := "303f49a4a9696902077ad0f8ee5e8755b1bcacb7e1af0ab279ec5ad6c5169a69", func := "loop.example/g01283/laws.FnExactWronskiAt", spec := "fnExactWronskiAt", unfollowed := true, recurses := true, plainKeys := false, apart := false, narrowed := true }
def FnExactWronskiAtUptoSaid : Prop := fnExactWronskiAtUptoRow.holds Try.pinned (OpenSpec.upto fnExactWronskiAtSpec)

/-- 'laws.FnExactInterpolatePoly', WHERE WHAT IT READS IS OF BULK AT MOST 1048576: true; the input reads as it did. -/
def fnExactInterpolatePolyUptoRow : OpenClaim := { program := "ytagheoddbikdgaa", sum := "303f49a4a9696902077ad0f8ee5e8755b1bcacb7e1af0ab279ec5ad6c5169a69", func := "loop.example/g01283/laws.FnExactInterpolatePoly", spec := "fnExactInterpolatePoly", unfollowed := true, recurses := true, plainKeys := false, apart := false, narrowed := true }
def FnExactInterpolatePolyUptoSaid : Prop := fnExactInterpolatePolyUptoRow.holds Try.pinned (OpenSpec.upto fnExactInterpolatePolySpec)

/-- 'laws.FnExactIsOrthogonal', WHERE WHAT IT READS IS OF BULK AT MOST 1048576: true; the input reads as it did. -/
def fnExactIsOrthogonalUptoRow : OpenClaim := { program := "ytagheoddbikdgaa", sum := "303f49a4a9696902077ad0f8ee5e8755b1bcacb7e1af0ab279ec5ad6c5169a69", func := "loop.example/g01283/laws.FnExactIsOrthogonal", spec := "fnExactIsOrthogonal", unfollowed := true, recurses := true, plainKeys := false, apart := false, narrowed := true }
def FnExactIsOrthogonalUptoSaid : Prop := fnExactIsOrthogonalUptoRow.holds Try.pinned (OpenSpec.upto fnExactIsOrthogonalSpec)

/-- 'laws.FnExactAffineMoments', WHERE WHAT IT READS IS OF BULK AT MOST 1048576: true; the input reads as it did. -/
def fnExactAffineMomentsUptoRow : OpenClaim := { program := "ytagheoddbikdgaa", sum := "303f49a4a9696902077ad0f8ee5e8755b1bcacb7e1af0ab279ec5ad6c5169a69", func := "loop.example/g01283/laws.FnExactAffineMoments", spec := "fnExactAffineMoments", unfollowed := true, recurses := true, plainKeys := false, apart := false, narrowed := true }
def FnExactAffineMomentsUptoSaid : Prop := fnExactAffineMomentsUptoRow.holds Try.pinned (OpenSpec.upto fnExactAffineMomentsSpec)

/-- 'laws.FnExactMomentsOfNodes', WHERE WHAT IT READS IS OF BULK AT MOST 1048576: true; the input reads as it did. -/
def fnExactMomentsOfNodesUptoRow : OpenClaim := { program := "ytagheoddbikdgaa", sum := "303f49a4a9696902077ad0f8ee5e8755b1bcacb7e1af0ab279ec5ad6c5169a69", func := "loop.example/g01283/laws.FnExactMomentsOfNodes", spec := "fnExactMomentsOfNodes", unfollowed := true, recurses := true, plainKeys := false, apart := false, narrowed := true }
def FnExactMomentsOfNodesUptoSaid : Prop := fnExactMomentsOfNodesUptoRow.holds Try.pinned (OpenSpec.upto fnExactMomentsOfNodesSpec)

/-- 'laws.FnExactFindJacobi', WHERE WHAT IT READS IS OF BULK AT MOST 1048576: true; the input reads as it did. -/
def fnExactFindJacobiUptoRow : OpenClaim := { program := "ytagheoddbikdgaa", sum := "303f49a4a9696902077ad0f8ee5e8755b1bcacb7e1af0ab279ec5ad6c5169a69", func := "loop.example/g01283/laws.FnExactFindJacobi", spec := "fnExactFindJacobi", unfollowed := true, recurses := true, plainKeys := false, apart := false, narrowed := true }
def FnExactFindJacobiUptoSaid : Prop := fnExactFindJacobiUptoRow.holds Try.pinned (OpenSpec.upto fnExactFindJacobiSpec)

/-- 'laws.FnExactHankelDeterminant', WHERE WHAT IT READS IS OF BULK AT MOST 1048576: true; the input reads as it did. -/
def fnExactHankelDeterminantUptoRow : OpenClaim := { program := "ytagheoddbikdgaa", sum := "303f49a4a9696902077ad0f8ee5e8755b1bcacb7e1af0ab279ec5ad6c5169a69", func := "loop.example/g01283/laws.FnExactHankelDeterminant", spec := "fnExactHankelDeterminant", unfollowed := true, recurses := true, plainKeys := false, apart := false, narrowed := true }
def FnExactHankelDeterminantUptoSaid : Prop := fnExactHankelDeterminantUptoRow.holds Try.pinned (OpenSpec.upto fnExactHankelDeterminantSpec)

/-- 'laws.FnExactOrderOf', WHERE WHAT IT READS IS OF BULK AT MOST 1048576: true; the input reads as it did. -/
def fnExactOrderOfUptoRow : OpenClaim := { program := "ytagheoddbikdgaa", sum := "303f49a4a9696902077ad0f8ee5e8755b1bcacb7e1af0ab279ec5ad6c5169a69", func := "loop.example/g01283/laws.FnExactOrderOf", spec := "fnExactOrderOf", unfollowed := true, recurses := true, plainKeys := false, apart := false, narrowed := true }
def FnExactOrderOfUptoSaid : Prop := fnExactOrderOfUptoRow.holds Try.pinned (OpenSpec.upto fnExactOrderOfSpec)

/-- 'laws.FnExactMatrixOf', WHERE WHAT IT READS IS OF BULK AT MOST 1048576: true; the input reads as it did. -/
def fnExactMatrixOfUptoRow : OpenClaim := { program := "ytagheoddbikdgaa", sum := "303f49a4a9696902077ad0f8ee5e8755b1bcacb7e1af0ab279ec5ad6c5169a69", func := "loop.example/g01283/laws.FnExactMatrixOf", spec := "fnExactMatrixOf", plainKeys := false, apart := false, narrowed := true }
def FnExactMatrixOfUptoSaid : Prop := fnExactMatrixOfUptoRow.holds Try.pinned (OpenSpec.upto fnExactMatrixOfSpec)

end Rows
end Go.Proofs.Ytagheoddbikdgaa
