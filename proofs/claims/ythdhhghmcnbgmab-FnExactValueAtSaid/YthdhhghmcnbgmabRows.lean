/-
  No cell of these rows narrows 'for every input' (looked for: loops, veiled, ifaces, maps, wideKeys, modest, calm, conditions, laid).
  DERIVED. THE GIVEN ROWS OF THIS SEAT. 6 by the template 'for every input the law returns true; each argument reads behind the call as it read before'; 0 by the template 'total and deterministic' (their statements: YthdhhghmcnbgmabTotals.lean).
  GIVEN WITH THE SEED: the statements are not yours to turn. If you find one false, say at which input.
  Laid BY PROGRAM, IN A SANDBOX (cutbox-rows.mjs): the forced cells as the released guide's own fill.sh prints them over the translation 4f8c52b0f9ce00bc… (all of the seat's roots in one cut). By AI agents, Wed Nov 11 2026. No macro, syntax, notation, axiom, sorry.
-/
import Derived.Test.YthdhhghmcnbgmabChecked
import GoSem.Claim
import GoSem.ClaimJoined
import GoSem.ClaimMapViews
import Derived.JoinedTies
import Derived.KernelRfl
namespace Go.Proofs.Ythdhhghmcnbgmab
/- THE CELL 'sum', in the pinned program and in every row, IS THE sha256 OF THE DUMP (.gsa) THAT YthdhhghmcnbgmabProg.lean LOADS. Nothing in Lean hashes anything: it is a label: what it is worth is what the hold of that sum in a sandbox is worth. -/
noncomputable def Try.pinned : Pinned := { name := "ythdhhghmcnbgmab", sum := "4f8c52b0f9ce00bce94ba8d61003724446536a4a97ce3e6f8f62fb337e692f26", checked := Try.checked }
namespace Rows
def none {H : Type} : Left H := { results := [], args := [] }

/-- 'laws.FnExactDerivativeOf': WHATEVER THE INPUT: true; the input reads as it did. -/
def fnExactDerivativeOfSpec : ChangeSpec := { name := "fnExactDerivativeOf", fn := fun _ => fun
  | [d1, d2] => { results := [.lit (.bool true)], args := [d1, d2] }
  | _ => none }
def fnExactDerivativeOfRow : OpenClaim := { program := "ythdhhghmcnbgmab", sum := "4f8c52b0f9ce00bce94ba8d61003724446536a4a97ce3e6f8f62fb337e692f26", func := "loop.example/g01283/laws.FnExactDerivativeOf", spec := "fnExactDerivativeOf", plainKeys := false, apart := false }
def FnExactDerivativeOfSaid : Prop := fnExactDerivativeOfRow.holds Try.pinned (OpenSpec.ofChange fnExactDerivativeOfSpec)

/-- ITS FALSE NEIGHBOUR: 'it returns false'. Refute it at one input. -/
def fnExactDerivativeOfWrong : ChangeSpec := { name := "fnExactDerivativeOf", fn := fun _ => fun
  | [d1, d2] => { results := [.lit (.bool false)], args := [d1, d2] }
  | _ => none }
def FnExactDerivativeOfWrongFalsely : Prop := fnExactDerivativeOfRow.holds Try.pinned (OpenSpec.ofChange fnExactDerivativeOfWrong)

/-- 'laws.FnExactValueAt': WHATEVER THE INPUT: true; the input reads as it did. -/
def fnExactValueAtSpec : ChangeSpec := { name := "fnExactValueAt", fn := fun _ => fun
  | [d1, d2, d3] => { results := [.lit (.bool true)], args := [d1, d2, d3] }
  | _ => none }
def fnExactValueAtRow : OpenClaim := { program := "ythdhhghmcnbgmab", sum := "4f8c52b0f9ce00bce94ba8d61003724446536a4a97ce3e6f8f62fb337e692f26", func := "loop.example/g01283/laws.FnExactValueAt", spec := "fnExactValueAt", unfollowed := true, recurses := true, plainKeys := false, apart := false }
def FnExactValueAtSaid : Prop := fnExactValueAtRow.holds Try.pinned (OpenSpec.ofChange fnExactValueAtSpec)

/-- ITS FALSE NEIGHBOUR: 'it returns false'. Refute it at one input. -/
def fnExactValueAtWrong : ChangeSpec := { name := "fnExactValueAt", fn := fun _ => fun
  | [d1, d2, d3] => { results := [.lit (.bool false)], args := [d1, d2, d3] }
  | _ => none }
def FnExactValueAtWrongFalsely : Prop := fnExactValueAtRow.holds Try.pinned (OpenSpec.ofChange fnExactValueAtWrong)

/-- 'laws.FnExactGcdPolys': WHATEVER THE INPUT: true; the input reads as it did. -/
def fnExactGcdPolysSpec : ChangeSpec := { name := "fnExactGcdPolys", fn := fun _ => fun
  | [d1, d2, d3] => { results := [.lit (.bool true)], args := [d1, d2, d3] }
  | _ => none }
def fnExactGcdPolysRow : OpenClaim := { program := "ythdhhghmcnbgmab", sum := "4f8c52b0f9ce00bce94ba8d61003724446536a4a97ce3e6f8f62fb337e692f26", func := "loop.example/g01283/laws.FnExactGcdPolys", spec := "fnExactGcdPolys", unfollowed := true, recurses := true, plainKeys := false, apart := false }
def FnExactGcdPolysSaid : Prop := fnExactGcdPolysRow.holds Try.pinned (OpenSpec.ofChange fnExactGcdPolysSpec)

/-- ITS FALSE NEIGHBOUR: 'it returns false'. Refute it at one input. -/
def fnExactGcdPolysWrong : ChangeSpec := { name := "fnExactGcdPolys", fn := fun _ => fun
  | [d1, d2, d3] => { results := [.lit (.bool false)], args := [d1, d2, d3] }
  | _ => none }
def FnExactGcdPolysWrongFalsely : Prop := fnExactGcdPolysRow.holds Try.pinned (OpenSpec.ofChange fnExactGcdPolysWrong)

/-- 'laws.FnExactShiftPoly': WHATEVER THE INPUT: true; the input reads as it did. -/
def fnExactShiftPolySpec : ChangeSpec := { name := "fnExactShiftPoly", fn := fun _ => fun
  | [d1, d2, d3] => { results := [.lit (.bool true)], args := [d1, d2, d3] }
  | _ => none }
def fnExactShiftPolyRow : OpenClaim := { program := "ythdhhghmcnbgmab", sum := "4f8c52b0f9ce00bce94ba8d61003724446536a4a97ce3e6f8f62fb337e692f26", func := "loop.example/g01283/laws.FnExactShiftPoly", spec := "fnExactShiftPoly", unfollowed := true, recurses := true, plainKeys := false, apart := false }
def FnExactShiftPolySaid : Prop := fnExactShiftPolyRow.holds Try.pinned (OpenSpec.ofChange fnExactShiftPolySpec)

/-- ITS FALSE NEIGHBOUR: 'it returns false'. Refute it at one input. -/
def fnExactShiftPolyWrong : ChangeSpec := { name := "fnExactShiftPoly", fn := fun _ => fun
  | [d1, d2, d3] => { results := [.lit (.bool false)], args := [d1, d2, d3] }
  | _ => none }
def FnExactShiftPolyWrongFalsely : Prop := fnExactShiftPolyRow.holds Try.pinned (OpenSpec.ofChange fnExactShiftPolyWrong)

/-- 'laws.FnExactComposePolys': WHATEVER THE INPUT: true; the input reads as it did. -/
def fnExactComposePolysSpec : ChangeSpec := { name := "fnExactComposePolys", fn := fun _ => fun
  | [d1, d2, d3] => { results := [.lit (.bool true)], args := [d1, d2, d3] }
  | _ => none }
def fnExactComposePolysRow : OpenClaim := { program := "ythdhhghmcnbgmab", sum := "4f8c52b0f9ce00bce94ba8d61003724446536a4a97ce3e6f8f62fb337e692f26", func := "loop.example/g01283/laws.FnExactComposePolys", spec := "fnExactComposePolys", unfollowed := true, recurses := true, plainKeys := false, apart := false }
def FnExactComposePolysSaid : Prop := fnExactComposePolysRow.holds Try.pinned (OpenSpec.ofChange fnExactComposePolysSpec)

/-- ITS FALSE NEIGHBOUR: 'it returns false'. Refute it at one input. -/
def fnExactComposePolysWrong : ChangeSpec := { name := "fnExactComposePolys", fn := fun _ => fun
  | [d1, d2, d3] => { results := [.lit (.bool false)], args := [d1, d2, d3] }
  | _ => none }
def FnExactComposePolysWrongFalsely : Prop := fnExactComposePolysRow.holds Try.pinned (OpenSpec.ofChange fnExactComposePolysWrong)

/-- 'laws.FnExactInterpolatePoly': WHATEVER THE INPUT: true; the input reads as it did. -/
def fnExactInterpolatePolySpec : ChangeSpec := { name := "fnExactInterpolatePoly", fn := fun _ => fun
  | [d1, d2, d3] => { results := [.lit (.bool true)], args := [d1, d2, d3] }
  | _ => none }
def fnExactInterpolatePolyRow : OpenClaim := { program := "ythdhhghmcnbgmab", sum := "4f8c52b0f9ce00bce94ba8d61003724446536a4a97ce3e6f8f62fb337e692f26", func := "loop.example/g01283/laws.FnExactInterpolatePoly", spec := "fnExactInterpolatePoly", unfollowed := true, recurses := true, plainKeys := false, apart := false }
def FnExactInterpolatePolySaid : Prop := fnExactInterpolatePolyRow.holds Try.pinned (OpenSpec.ofChange fnExactInterpolatePolySpec)

/-- ITS FALSE NEIGHBOUR: 'it returns false'. Refute it at one input. -/
def fnExactInterpolatePolyWrong : ChangeSpec := { name := "fnExactInterpolatePoly", fn := fun _ => fun
  | [d1, d2, d3] => { results := [.lit (.bool false)], args := [d1, d2, d3] }
  | _ => none }
def FnExactInterpolatePolyWrongFalsely : Prop := fnExactInterpolatePolyRow.holds Try.pinned (OpenSpec.ofChange fnExactInterpolatePolyWrong)

/- THE SECOND FORM. 'bulk': how many values and letters a reading holds, each counted each time it is reached (what is shared counts as often as it is met; a slice's spare places count too). A statement '..UptoSaid' is the law's where the arguments, and the package variables that the reading takes, are together of bulk at most 1048576: NARROWER than '..Said'. Prove '..Said' where nothing that the law and all that it calls make is longer than what came in: it says more and counts as full. Else prove '..UptoSaid'. A law counts once. -/
mutual
def uptoBulk {H : Type} : DataW H → Nat
  | .lit (.string bytes) => bytes.length + 1
  | .lit _ => 1
  | .nil => 1
  | .ptr d => uptoBulk d + 1
  | .slice elems spare => uptoBulkAll elems + uptoBulkAll spare + 1
  | .agg parts => uptoBulkAll parts + 1
  | .iface _ d => uptoBulk d + 1
  | .map entries => uptoBulkEntries entries + 1
  | .held _ => 1
def uptoBulkAll {H : Type} : List (DataW H) → Nat
  | [] => 0
  | d :: r => uptoBulk d + uptoBulkAll r
def uptoBulkEntries {H : Type} : List (Lit × DataW H) → Nat
  | [] => 0
  | x :: r => uptoBulkEntry x + uptoBulkEntries r
def uptoBulkEntry {H : Type} : Lit × DataW H → Nat
  | (.string bytes, d) => bytes.length + uptoBulk d + 1
  | (_, d) => uptoBulk d + 1
 end
def uptoSmall : (H : Type) → List (DataW H) → Bool := fun _ ds => decide (uptoBulkAll ds ≤ 1048576)
def OpenSpec.upto (s : _root_.Go.ChangeSpec) : _root_.Go.OpenSpec := { _root_.Go.OpenSpec.ofChange s with cond := some uptoSmall }

/-- 'laws.FnExactDerivativeOf', WHERE WHAT IT READS IS OF BULK AT MOST 1048576: true; the input reads as it did. -/
def fnExactDerivativeOfUptoRow : OpenClaim := { program := "ythdhhghmcnbgmab", sum := "4f8c52b0f9ce00bce94ba8d61003724446536a4a97ce3e6f8f62fb337e692f26", func := "loop.example/g01283/laws.FnExactDerivativeOf", spec := "fnExactDerivativeOf", plainKeys := false, apart := false, narrowed := true }
def FnExactDerivativeOfUptoSaid : Prop := fnExactDerivativeOfUptoRow.holds Try.pinned (OpenSpec.upto fnExactDerivativeOfSpec)

/-- 'laws.FnExactValueAt', WHERE WHAT IT READS IS OF BULK AT MOST 1048576: true; the input reads as it did. -/
def fnExactValueAtUptoRow : OpenClaim := { program := "ythdhhghmcnbgmab", sum := "4f8c52b0f9ce00bce94ba8d61003724446536a4a97ce3e6f8f62fb337e692f26", func := "loop.example/g01283/laws.FnExactValueAt", spec := "fnExactValueAt", unfollowed := true, recurses := true, plainKeys := false, apart := false, narrowed := true }
def FnExactValueAtUptoSaid : Prop := fnExactValueAtUptoRow.holds Try.pinned (OpenSpec.upto fnExactValueAtSpec)

/-- 'laws.FnExactGcdPolys', WHERE WHAT IT READS IS OF BULK AT MOST 1048576: true; the input reads as it did. -/
def fnExactGcdPolysUptoRow : OpenClaim := { program := "ythdhhghmcnbgmab", sum := "4f8c52b0f9ce00bce94ba8d61003724446536a4a97ce3e6f8f62fb337e692f26", func := "loop.example/g01283/laws.FnExactGcdPolys", spec := "fnExactGcdPolys", unfollowed := true, recurses := true, plainKeys := false, apart := false, narrowed := true }
def FnExactGcdPolysUptoSaid : Prop := fnExactGcdPolysUptoRow.holds Try.pinned (OpenSpec.upto fnExactGcdPolysSpec)

/-- 'laws.FnExactShiftPoly', WHERE WHAT IT READS IS OF BULK AT MOST 1048576: true; the input reads as it did. -/
def fnExactShiftPolyUptoRow : OpenClaim := { program := "ythdhhghmcnbgmab", sum := "4f8c52b0f9ce00bce94ba8d61003724446536a4a97ce3e6f8f62fb337e692f26", func := "loop.example/g01283/laws.FnExactShiftPoly", spec := "fnExactShiftPoly", unfollowed := true, recurses := true, plainKeys := false, apart := false, narrowed := true }
def FnExactShiftPolyUptoSaid : Prop := fnExactShiftPolyUptoRow.holds Try.pinned (OpenSpec.upto fnExactShiftPolySpec)

/-- 'laws.FnExactComposePolys', WHERE WHAT IT READS IS OF BULK AT MOST 1048576: true; the input reads as it did. -/
def fnExactComposePolysUptoRow : OpenClaim := { program := "ythdhhghmcnbgmab", sum := "4f8c52b0f9ce00bce94ba8d61003724446536a4a97ce3e6f8f62fb337e692f26", func := "loop.example/g01283/laws.FnExactComposePolys", spec := "fnExactComposePolys", unfollowed := true, recurses := true, plainKeys := false, apart := false, narrowed := true }
def FnExactComposePolysUptoSaid : Prop := fnExactComposePolysUptoRow.holds Try.pinned (OpenSpec.upto fnExactComposePolysSpec)

/-- 'laws.FnExactInterpolatePoly', WHERE WHAT IT READS IS OF BULK AT MOST 1048576: true; the input reads as it did. -/
def fnExactInterpolatePolyUptoRow : OpenClaim := { program := "ythdhhghmcnbgmab", sum := "4f8c52b0f9ce00bce94ba8d61003724446536a4a97ce3e6f8f62fb337e692f26", func := "loop.example/g01283/laws.FnExactInterpolatePoly", spec := "fnExactInterpolatePoly", unfollowed := true, recurses := true, plainKeys := false, apart := false, narrowed := true }
def FnExactInterpolatePolyUptoSaid : Prop := fnExactInterpolatePolyUptoRow.holds Try.pinned (OpenSpec.upto fnExactInterpolatePolySpec)

end Rows
end Go.Proofs.Ythdhhghmcnbgmab
