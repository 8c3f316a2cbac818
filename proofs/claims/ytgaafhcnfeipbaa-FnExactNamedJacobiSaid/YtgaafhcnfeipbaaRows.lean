/-
  No cell of these rows narrows 'for every input' (looked for: loops, veiled, ifaces, maps, wideKeys, modest, calm, conditions, laid).
  DERIVED. THE GIVEN ROWS OF THIS SEAT. 10 by the template 'for every input the law returns true; each argument reads behind the call as it read before'; 0 by the template 'total and deterministic' (their statements: YtgaafhcnfeipbaaTotals.lean).
  GIVEN WITH THE SEED: the statements are not yours to turn. If you find one false, say at which input.
  Laid BY PROGRAM, IN A SANDBOX (cutbox-rows.mjs): the forced cells as the released guide's own fill.sh prints them over the translation 24314a6ec6810103… (all of the seat's roots in one cut). By AI agents, Wed Nov 11 2026. No macro, syntax, notation, axiom, sorry.
-/
import Derived.Test.YtgaafhcnfeipbaaChecked
import GoSem.Claim
import GoSem.ClaimJoined
import GoSem.ClaimMapViews
import Derived.JoinedTies
import Derived.KernelRfl
namespace Go.Proofs.Ytgaafhcnfeipbaa
/- THE CELL 'sum', in the pinned program and in every row, IS THE sha256 OF THE DUMP (.gsa) THAT YtgaafhcnfeipbaaProg.lean LOADS. Nothing in Lean hashes anything: it is a label: what it is worth is what the hold of that sum in a sandbox is worth. -/
noncomputable def Try.pinned : Pinned := { name := "ytgaafhcnfeipbaa", sum := "24314a6ec6810103fa2d15ecdd3592d3ebba734e608275dc3b8a92f2b351780e", checked := Try.checked }
namespace Rows
def none {H : Type} : Left H := { results := [], args := [] }

/-- 'laws.FnExactNamedJacobi': WHATEVER THE INPUT: true; the input reads as it did. -/
def fnExactNamedJacobiSpec : ChangeSpec := { name := "fnExactNamedJacobi", fn := fun _ => fun
  | [d1, d2, d3] => { results := [.lit (.bool true)], args := [d1, d2, d3] }
  | _ => none }
def fnExactNamedJacobiRow : OpenClaim := { program := "ytgaafhcnfeipbaa", sum := "24314a6ec6810103fa2d15ecdd3592d3ebba734e608275dc3b8a92f2b351780e", func := "loop.example/g01283/laws.FnExactNamedJacobi", spec := "fnExactNamedJacobi", unfollowed := true, recurses := true, apart := false }
def FnExactNamedJacobiSaid : Prop := fnExactNamedJacobiRow.holds Try.pinned (OpenSpec.ofChange fnExactNamedJacobiSpec)

/-- ITS FALSE NEIGHBOUR: 'it returns false'. Refute it at one input. -/
def fnExactNamedJacobiWrong : ChangeSpec := { name := "fnExactNamedJacobi", fn := fun _ => fun
  | [d1, d2, d3] => { results := [.lit (.bool false)], args := [d1, d2, d3] }
  | _ => none }
def FnExactNamedJacobiWrongFalsely : Prop := fnExactNamedJacobiRow.holds Try.pinned (OpenSpec.ofChange fnExactNamedJacobiWrong)

/-- 'laws.FnExactSquaredNorms': WHATEVER THE INPUT: true; the input reads as it did. -/
def fnExactSquaredNormsSpec : ChangeSpec := { name := "fnExactSquaredNorms", fn := fun _ => fun
  | [d] => { results := [.lit (.bool true)], args := [d] }
  | _ => none }
def fnExactSquaredNormsRow : OpenClaim := { program := "ytgaafhcnfeipbaa", sum := "24314a6ec6810103fa2d15ecdd3592d3ebba734e608275dc3b8a92f2b351780e", func := "loop.example/g01283/laws.FnExactSquaredNorms", spec := "fnExactSquaredNorms", apart := false }
def FnExactSquaredNormsSaid : Prop := fnExactSquaredNormsRow.holds Try.pinned (OpenSpec.ofChange fnExactSquaredNormsSpec)

/-- ITS FALSE NEIGHBOUR: 'it returns false'. Refute it at one input. -/
def fnExactSquaredNormsWrong : ChangeSpec := { name := "fnExactSquaredNorms", fn := fun _ => fun
  | [d] => { results := [.lit (.bool false)], args := [d] }
  | _ => none }
def FnExactSquaredNormsWrongFalsely : Prop := fnExactSquaredNormsRow.holds Try.pinned (OpenSpec.ofChange fnExactSquaredNormsWrong)

/-- 'laws.FnExactPairLists': WHATEVER THE INPUT: true; the input reads as it did. -/
def fnExactPairListsSpec : ChangeSpec := { name := "fnExactPairLists", fn := fun _ => fun
  | [d1, d2, d3] => { results := [.lit (.bool true)], args := [d1, d2, d3] }
  | _ => none }
def fnExactPairListsRow : OpenClaim := { program := "ytgaafhcnfeipbaa", sum := "24314a6ec6810103fa2d15ecdd3592d3ebba734e608275dc3b8a92f2b351780e", func := "loop.example/g01283/laws.FnExactPairLists", spec := "fnExactPairLists", apart := false }
def FnExactPairListsSaid : Prop := fnExactPairListsRow.holds Try.pinned (OpenSpec.ofChange fnExactPairListsSpec)

/-- ITS FALSE NEIGHBOUR: 'it returns false'. Refute it at one input. -/
def fnExactPairListsWrong : ChangeSpec := { name := "fnExactPairLists", fn := fun _ => fun
  | [d1, d2, d3] => { results := [.lit (.bool false)], args := [d1, d2, d3] }
  | _ => none }
def FnExactPairListsWrongFalsely : Prop := fnExactPairListsRow.holds Try.pinned (OpenSpec.ofChange fnExactPairListsWrong)

/-- 'laws.FnExactExpandBy': WHATEVER THE INPUT: true; the input reads as it did. -/
def fnExactExpandBySpec : ChangeSpec := { name := "fnExactExpandBy", fn := fun _ => fun
  | [d1, d2] => { results := [.lit (.bool true)], args := [d1, d2] }
  | _ => none }
def fnExactExpandByRow : OpenClaim := { program := "ytgaafhcnfeipbaa", sum := "24314a6ec6810103fa2d15ecdd3592d3ebba734e608275dc3b8a92f2b351780e", func := "loop.example/g01283/laws.FnExactExpandBy", spec := "fnExactExpandBy", apart := false }
def FnExactExpandBySaid : Prop := fnExactExpandByRow.holds Try.pinned (OpenSpec.ofChange fnExactExpandBySpec)

/-- ITS FALSE NEIGHBOUR: 'it returns false'. Refute it at one input. -/
def fnExactExpandByWrong : ChangeSpec := { name := "fnExactExpandBy", fn := fun _ => fun
  | [d1, d2] => { results := [.lit (.bool false)], args := [d1, d2] }
  | _ => none }
def FnExactExpandByWrongFalsely : Prop := fnExactExpandByRow.holds Try.pinned (OpenSpec.ofChange fnExactExpandByWrong)

/-- 'laws.FnExactSumBy': WHATEVER THE INPUT: true; the input reads as it did. -/
def fnExactSumBySpec : ChangeSpec := { name := "fnExactSumBy", fn := fun _ => fun
  | [d1, d2] => { results := [.lit (.bool true)], args := [d1, d2] }
  | _ => none }
def fnExactSumByRow : OpenClaim := { program := "ytgaafhcnfeipbaa", sum := "24314a6ec6810103fa2d15ecdd3592d3ebba734e608275dc3b8a92f2b351780e", func := "loop.example/g01283/laws.FnExactSumBy", spec := "fnExactSumBy", unfollowed := true, recurses := true, apart := false }
def FnExactSumBySaid : Prop := fnExactSumByRow.holds Try.pinned (OpenSpec.ofChange fnExactSumBySpec)

/-- ITS FALSE NEIGHBOUR: 'it returns false'. Refute it at one input. -/
def fnExactSumByWrong : ChangeSpec := { name := "fnExactSumBy", fn := fun _ => fun
  | [d1, d2] => { results := [.lit (.bool false)], args := [d1, d2] }
  | _ => none }
def FnExactSumByWrongFalsely : Prop := fnExactSumByRow.holds Try.pinned (OpenSpec.ofChange fnExactSumByWrong)

/-- 'laws.FnExactValueBy': WHATEVER THE INPUT: true; the input reads as it did. -/
def fnExactValueBySpec : ChangeSpec := { name := "fnExactValueBy", fn := fun _ => fun
  | [d1, d2, d3] => { results := [.lit (.bool true)], args := [d1, d2, d3] }
  | _ => none }
def fnExactValueByRow : OpenClaim := { program := "ytgaafhcnfeipbaa", sum := "24314a6ec6810103fa2d15ecdd3592d3ebba734e608275dc3b8a92f2b351780e", func := "loop.example/g01283/laws.FnExactValueBy", spec := "fnExactValueBy", unfollowed := true, recurses := true, apart := false }
def FnExactValueBySaid : Prop := fnExactValueByRow.holds Try.pinned (OpenSpec.ofChange fnExactValueBySpec)

/-- ITS FALSE NEIGHBOUR: 'it returns false'. Refute it at one input. -/
def fnExactValueByWrong : ChangeSpec := { name := "fnExactValueBy", fn := fun _ => fun
  | [d1, d2, d3] => { results := [.lit (.bool false)], args := [d1, d2, d3] }
  | _ => none }
def FnExactValueByWrongFalsely : Prop := fnExactValueByRow.holds Try.pinned (OpenSpec.ofChange fnExactValueByWrong)

/-- 'laws.FnExactExpandProduct': WHATEVER THE INPUT: true; the input reads as it did. -/
def fnExactExpandProductSpec : ChangeSpec := { name := "fnExactExpandProduct", fn := fun _ => fun
  | [d1, d2, d3] => { results := [.lit (.bool true)], args := [d1, d2, d3] }
  | _ => none }
def fnExactExpandProductRow : OpenClaim := { program := "ytgaafhcnfeipbaa", sum := "24314a6ec6810103fa2d15ecdd3592d3ebba734e608275dc3b8a92f2b351780e", func := "loop.example/g01283/laws.FnExactExpandProduct", spec := "fnExactExpandProduct", unfollowed := true, recurses := true, apart := false }
def FnExactExpandProductSaid : Prop := fnExactExpandProductRow.holds Try.pinned (OpenSpec.ofChange fnExactExpandProductSpec)

/-- ITS FALSE NEIGHBOUR: 'it returns false'. Refute it at one input. -/
def fnExactExpandProductWrong : ChangeSpec := { name := "fnExactExpandProduct", fn := fun _ => fun
  | [d1, d2, d3] => { results := [.lit (.bool false)], args := [d1, d2, d3] }
  | _ => none }
def FnExactExpandProductWrongFalsely : Prop := fnExactExpandProductRow.holds Try.pinned (OpenSpec.ofChange fnExactExpandProductWrong)

/-- 'laws.FnExactConnectJacobi': WHATEVER THE INPUT: true; the input reads as it did. -/
def fnExactConnectJacobiSpec : ChangeSpec := { name := "fnExactConnectJacobi", fn := fun _ => fun
  | [d1, d2, d3] => { results := [.lit (.bool true)], args := [d1, d2, d3] }
  | _ => none }
def fnExactConnectJacobiRow : OpenClaim := { program := "ytgaafhcnfeipbaa", sum := "24314a6ec6810103fa2d15ecdd3592d3ebba734e608275dc3b8a92f2b351780e", func := "loop.example/g01283/laws.FnExactConnectJacobi", spec := "fnExactConnectJacobi", unfollowed := true, recurses := true, apart := false }
def FnExactConnectJacobiSaid : Prop := fnExactConnectJacobiRow.holds Try.pinned (OpenSpec.ofChange fnExactConnectJacobiSpec)

/-- ITS FALSE NEIGHBOUR: 'it returns false'. Refute it at one input. -/
def fnExactConnectJacobiWrong : ChangeSpec := { name := "fnExactConnectJacobi", fn := fun _ => fun
  | [d1, d2, d3] => { results := [.lit (.bool false)], args := [d1, d2, d3] }
  | _ => none }
def FnExactConnectJacobiWrongFalsely : Prop := fnExactConnectJacobiRow.holds Try.pinned (OpenSpec.ofChange fnExactConnectJacobiWrong)

/-- 'laws.FnExactExpandDerivative': WHATEVER THE INPUT: true; the input reads as it did. -/
def fnExactExpandDerivativeSpec : ChangeSpec := { name := "fnExactExpandDerivative", fn := fun _ => fun
  | [d1, d2] => { results := [.lit (.bool true)], args := [d1, d2] }
  | _ => none }
def fnExactExpandDerivativeRow : OpenClaim := { program := "ytgaafhcnfeipbaa", sum := "24314a6ec6810103fa2d15ecdd3592d3ebba734e608275dc3b8a92f2b351780e", func := "loop.example/g01283/laws.FnExactExpandDerivative", spec := "fnExactExpandDerivative", unfollowed := true, recurses := true, apart := false }
def FnExactExpandDerivativeSaid : Prop := fnExactExpandDerivativeRow.holds Try.pinned (OpenSpec.ofChange fnExactExpandDerivativeSpec)

/-- ITS FALSE NEIGHBOUR: 'it returns false'. Refute it at one input. -/
def fnExactExpandDerivativeWrong : ChangeSpec := { name := "fnExactExpandDerivative", fn := fun _ => fun
  | [d1, d2] => { results := [.lit (.bool false)], args := [d1, d2] }
  | _ => none }
def FnExactExpandDerivativeWrongFalsely : Prop := fnExactExpandDerivativeRow.holds Try.pinned (OpenSpec.ofChange fnExactExpandDerivativeWrong)

/-- 'laws.FnExactTimesX': WHATEVER THE INPUT: true; the input reads as it did. -/
def fnExactTimesXSpec : ChangeSpec := { name := "fnExactTimesX", fn := fun _ => fun
  | [d1, d2] => { results := [.lit (.bool true)], args := [d1, d2] }
  | _ => none }
def fnExactTimesXRow : OpenClaim := { program := "ytgaafhcnfeipbaa", sum := "24314a6ec6810103fa2d15ecdd3592d3ebba734e608275dc3b8a92f2b351780e", func := "loop.example/g01283/laws.FnExactTimesX", spec := "fnExactTimesX", apart := false }
def FnExactTimesXSaid : Prop := fnExactTimesXRow.holds Try.pinned (OpenSpec.ofChange fnExactTimesXSpec)

/-- ITS FALSE NEIGHBOUR: 'it returns false'. Refute it at one input. -/
def fnExactTimesXWrong : ChangeSpec := { name := "fnExactTimesX", fn := fun _ => fun
  | [d1, d2] => { results := [.lit (.bool false)], args := [d1, d2] }
  | _ => none }
def FnExactTimesXWrongFalsely : Prop := fnExactTimesXRow.holds Try.pinned (OpenSpec.ofChange fnExactTimesXWrong)

/- THE SECOND FORM. 'bulk': how many values and letters a reading holds, each counted each time it is reached (what is shared counts as often as it is met; a slice's spare places count too). A statement '..UptoSaid' is the law's where the arguments, and the package variables that the reading takes, are together of bulk at most 1048576: NARROWER than '..Said'. Prove '..Said' where nothing that the law and all that it calls make is longer than what came in: it says more and counts as full. Else prove '..UptoSaid'. A law counts once. -/
mutual
def uptoBulk {H : Type} : DataW H → Nat
  | .lit (.string bytes) => bytes.length + 1
  | .lit _ => 1
  | .nil => 1
  | .ptr d => uptoBulk d + 1
  | .slice elems spare => uptoBulkAll elems + uptoBulkAll spare + 1
  | .agg parts => uptoBulkAll parts + 1
  | .iface _ d => uptoBulk d + 1
  | .map entries => uptoBulkEntries entries + 1
  | .held _ => 1
def uptoBulkAll {H : Type} : List (DataW H) → Nat
  | [] => 0
  | d :: r => uptoBulk d + uptoBulkAll r
def uptoBulkEntries {H : Type} : List (Lit × DataW H) → Nat
  | [] => 0
  | x :: r => uptoBulkEntry x + uptoBulkEntries r
def uptoBulkEntry {H : Type} : Lit × DataW H → Nat
  | (.string bytes, d) => bytes.length + uptoBulk d + 1
  | (_, d) => uptoBulk d + 1
 end
def uptoSmall : (H : Type) → List (DataW H) → Bool := fun _ ds => decide (uptoBulkAll ds ≤ 1048576)
def OpenSpec.upto (s : _root_.Go.ChangeSpec) : _root_.Go.OpenSpec := { _root_.Go.OpenSpec.ofChange s with cond := some uptoSmall }

/-- 'laws.FnExactNamedJacobi', WHERE WHAT IT READS IS OF BULK AT MOST 1048576: true; the input reads as it did. -/
def fnExactNamedJacobiUptoRow : OpenClaim := { program := "ytgaafhcnfeipbaa", sum := "24314a6ec6810103fa2d15ecdd3592d3ebba734e608275dc3b8a92f2b351780e", func := "loop.example/g01283/laws.FnExactNamedJacobi", spec := "fnExactNamedJacobi", unfollowed := true, recurses := true, apart := false, narrowed := true }
def FnExactNamedJacobiUptoSaid : Prop := fnExactNamedJacobiUptoRow.holds Try.pinned (OpenSpec.upto fnExactNamedJacobiSpec)

/-- 'laws.FnExactSquaredNorms', WHERE WHAT IT READS IS OF BULK AT MOST 1048576: true; the input reads as it did. -/
def fnExactSquaredNormsUptoRow : OpenClaim := { program := "ytgaafhcnfeipbaa", sum := "24314a6ec6810103fa2d15ecdd3592d3ebba734e608275dc3b8a92f2b351780e", func := "loop.example/g01283/laws.FnExactSquaredNorms", spec := "fnExactSquaredNorms", apart := false, narrowed := true }
def FnExactSquaredNormsUptoSaid : Prop := fnExactSquaredNormsUptoRow.holds Try.pinned (OpenSpec.upto fnExactSquaredNormsSpec)

/-- 'laws.FnExactPairLists', WHERE WHAT IT READS IS OF BULK AT MOST 1048576: true; the input reads as it did. -/
def fnExactPairListsUptoRow : OpenClaim := { program := "ytgaafhcnfeipbaa", sum := "24314a6ec6810103fa2d15ecdd3592d3ebba734e608275dc3b8a92f2b351780e", func := "loop.example/g01283/laws.FnExactPairLists", spec := "fnExactPairLists", apart := false, narrowed := true }
def FnExactPairListsUptoSaid : Prop := fnExactPairListsUptoRow.holds Try.pinned (OpenSpec.upto fnExactPairListsSpec)

/-- 'laws.FnExactExpandBy', WHERE WHAT IT READS IS OF BULK AT MOST 1048576: true; the input reads as it did. -/
def fnExactExpandByUptoRow : OpenClaim := { program := "ytgaafhcnfeipbaa", sum := "24314a6ec6810103fa2d15ecdd3592d3ebba734e608275dc3b8a92f2b351780e", func := "loop.example/g01283/laws.FnExactExpandBy", spec := "fnExactExpandBy", apart := false, narrowed := true }
def FnExactExpandByUptoSaid : Prop := fnExactExpandByUptoRow.holds Try.pinned (OpenSpec.upto fnExactExpandBySpec)

/-- 'laws.FnExactSumBy', WHERE WHAT IT READS IS OF BULK AT MOST 1048576: true; the input reads as it did. -/
def fnExactSumByUptoRow : OpenClaim := { program := "ytgaafhcnfeipbaa", sum := "24314a6ec6810103fa2d15ecdd3592d3ebba734e608275dc3b8a92f2b351780e", func := "loop.example/g01283/laws.FnExactSumBy", spec := "fnExactSumBy", unfollowed := true, recurses := true, apart := false, narrowed := true }
def FnExactSumByUptoSaid : Prop := fnExactSumByUptoRow.holds Try.pinned (OpenSpec.upto fnExactSumBySpec)

/-- 'laws.FnExactValueBy', WHERE WHAT IT READS IS OF BULK AT MOST 1048576: true; the input reads as it did. -/
def fnExactValueByUptoRow : OpenClaim := { program := "ytgaafhcnfeipbaa", sum := "24314a6ec6810103fa2d15ecdd3592d3ebba734e608275dc3b8a92f2b351780e", func := "loop.example/g01283/laws.FnExactValueBy", spec := "fnExactValueBy", unfollowed := true, recurses := true, apart := false, narrowed := true }
def FnExactValueByUptoSaid : Prop := fnExactValueByUptoRow.holds Try.pinned (OpenSpec.upto fnExactValueBySpec)

/-- 'laws.FnExactExpandProduct', WHERE WHAT IT READS IS OF BULK AT MOST 1048576: true; the input reads as it did. -/
def fnExactExpandProductUptoRow : OpenClaim := { program := "ytgaafhcnfeipbaa", sum := "24314a6ec6810103fa2d15ecdd3592d3ebba734e608275dc3b8a92f2b351780e", func := "loop.example/g01283/laws.FnExactExpandProduct", spec := "fnExactExpandProduct", unfollowed := true, recurses := true, apart := false, narrowed := true }
def FnExactExpandProductUptoSaid : Prop := fnExactExpandProductUptoRow.holds Try.pinned (OpenSpec.upto fnExactExpandProductSpec)

/-- 'laws.FnExactConnectJacobi', WHERE WHAT IT READS IS OF BULK AT MOST 1048576: true; the input reads as it did. -/
def fnExactConnectJacobiUptoRow : OpenClaim := { program := "ytgaafhcnfeipbaa", sum := "24314a6ec6810103fa2d15ecdd3592d3ebba734e608275dc3b8a92f2b351780e", func := "loop.example/g01283/laws.FnExactConnectJacobi", spec := "fnExactConnectJacobi", unfollowed := true, recurses := true, apart := false, narrowed := true }
def FnExactConnectJacobiUptoSaid : Prop := fnExactConnectJacobiUptoRow.holds Try.pinned (OpenSpec.upto fnExactConnectJacobiSpec)

/-- 'laws.FnExactExpandDerivative', WHERE WHAT IT READS IS OF BULK AT MOST 1048576: true; the input reads as it did. -/
def fnExactExpandDerivativeUptoRow : OpenClaim := { program := "ytgaafhcnfeipbaa", sum := "24314a6ec6810103fa2d15ecdd3592d3ebba734e608275dc3b8a92f2b351780e", func := "loop.example/g01283/laws.FnExactExpandDerivative", spec := "fnExactExpandDerivative", unfollowed := true, recurses := true, apart := false, narrowed := true }
def FnExactExpandDerivativeUptoSaid : Prop := fnExactExpandDerivativeUptoRow.holds Try.pinned (OpenSpec.upto fnExactExpandDerivativeSpec)

/-- 'laws.FnExactTimesX', WHERE WHAT IT READS IS OF BULK AT MOST 1048576: true; the input reads as it did. -/
def fnExactTimesXUptoRow : OpenClaim := { program := "ytgaafhcnfeipbaa", sum := "24314a6ec6810103fa2d15ecdd3592d3ebba734e608275dc3b8a92f2b351780e", func := "loop.example/g01283/laws.FnExactTimesX", spec := "fnExactTimesX", apart := false, narrowed := true }
def FnExactTimesXUptoSaid : Prop := fnExactTimesXUptoRow.holds Try.pinned (OpenSpec.upto fnExactTimesXSpec)

end Rows
end Go.Proofs.Ytgaafhcnfeipbaa
