/-
  NARROWER THAN 'FOR EVERY INPUT', by the rows' own cells (each row's printed sentence says how): FnExactJacobiOfMoments: ifaces, laid · FnExactOrthogonalPolynomial: ifaces, laid · FnExactNormOf: ifaces, laid · FnExactNormsOf: ifaces, laid · FnExactExpandPolynomial: ifaces, laid · FnExactSumOfExpansion: ifaces, laid · FnExactKernelOf: ifaces, laid · FnExactKernelAt: ifaces, laid · FnExactReproduceAt: ifaces, laid.
  DERIVED. THE GIVEN ROWS OF THIS SEAT. 9 by the template 'for every input the law returns true; each argument reads behind the call as it read before'; 0 by the template 'total and deterministic' (their statements: YtdjifjlgllohmaaDoorTotals.lean).
  GIVEN WITH THE SEED: the statements are not yours to turn. If you find one false, say at which input.
  Laid BY PROGRAM, IN A SANDBOX (cutbox-rows.mjs): the forced cells as the released guide's own fill.sh prints them over the translation ae39ff5bfc075e74… (all of the seat's roots in one cut). By AI agents, Wed Nov 11 2026. No macro, syntax, notation, axiom, sorry.
-/
import Derived.Test.YtdjifjlgllohmaaDoorChecked
import GoSem.Claim
import GoSem.ClaimJoined
import GoSem.ClaimMapViews
import Derived.JoinedTies
import Derived.KernelRfl
namespace Go.Proofs.YtdjifjlgllohmaaDoor
/- THE CELL 'sum', in the pinned program and in every row, IS THE sha256 OF THE DUMP (.gsa) THAT YtdjifjlgllohmaaDoorProg.lean LOADS. Nothing in Lean hashes anything: it is a label: what it is worth is what the hold of that sum in a sandbox is worth. -/
noncomputable def Tryd.pinned : Pinned := { name := "ytdjifjlgllohmaadoor", sum := "ae39ff5bfc075e74de1f18bf3b615b5b4a52b1a72fa15507f6d0bed531c1650e", checked := Tryd.checked }
namespace Rows
def none {H : Type} : Left H := { results := [], args := [] }

/- WHAT THE LISTED PACKAGE-LEVEL VARIABLES READ AS WHEN THE CALL BEGINS. Each datum BY PROGRAM (the guide's laid-datum.mjs) off the statement by which the dump's own 'gosem.cut.vars' lays the variable. In a bare row this is a premise. The card (YtdjifjlgllohmaaDoorCards.lean) ties it to the program's text. -/
def laid_loop_example_g01283_impl_errIrregular {H : Type} : DataW H := .iface "*errors.errorString" (.ptr (.agg [.lit (.string [116, 104, 101, 32, 109, 111, 109, 101, 110, 116, 115, 32, 100, 111, 32, 110, 111, 116, 32, 116, 101, 108, 108, 32, 116, 104, 105, 115, 32, 111, 114, 116, 104, 111, 103, 111, 110, 97, 108, 32, 112, 111, 108, 121, 110, 111, 109, 105, 97, 108, 32, 111, 114, 32, 110, 111, 114, 109])]))

/-- 'laws.FnExactJacobiOfMoments': WHATEVER THE INPUT: true; the input reads as it did. -/
def fnExactJacobiOfMomentsSpec : ChangeSpec := { name := "fnExactJacobiOfMoments", vars := ["loop.example/g01283/impl.errIrregular"], fn := fun _ => fun
  | [d1, d2, g1] => { results := [.lit (.bool true)], args := [d1, d2], vars := [g1] }
  | _ => none }
def fnExactJacobiOfMomentsRow : OpenClaim := { program := "ytdjifjlgllohmaadoor", sum := "ae39ff5bfc075e74de1f18bf3b615b5b4a52b1a72fa15507f6d0bed531c1650e", func := "loop.example/g01283/laws.FnExactJacobiOfMoments", spec := "fnExactJacobiOfMoments", unfollowed := true, recurses := true, named := ["loop.example/g01283/impl.errIrregular"], ifaces := true, apart := false, laid := [("loop.example/g01283/impl.errIrregular", laid_loop_example_g01283_impl_errIrregular)] }
def FnExactJacobiOfMomentsSaid : Prop := fnExactJacobiOfMomentsRow.holds Tryd.pinned (OpenSpec.ofChange fnExactJacobiOfMomentsSpec)

/-- ITS FALSE NEIGHBOUR: 'it returns false'. Refute it at one input. -/
def fnExactJacobiOfMomentsWrong : ChangeSpec := { name := "fnExactJacobiOfMoments", vars := ["loop.example/g01283/impl.errIrregular"], fn := fun _ => fun
  | [d1, d2, g1] => { results := [.lit (.bool false)], args := [d1, d2], vars := [g1] }
  | _ => none }
def FnExactJacobiOfMomentsWrongFalsely : Prop := fnExactJacobiOfMomentsRow.holds Tryd.pinned (OpenSpec.ofChange fnExactJacobiOfMomentsWrong)

/-- 'laws.FnExactOrthogonalPolynomial': WHATEVER THE INPUT: true; the input reads as it did. -/
def fnExactOrthogonalPolynomialSpec : ChangeSpec := { name := "fnExactOrthogonalPolynomial", vars := ["loop.example/g01283/impl.errIrregular"], fn := fun _ => fun
  | [d1, d2, g1] => { results := [.lit (.bool true)], args := [d1, d2], vars := [g1] }
  | _ => none }
def fnExactOrthogonalPolynomialRow : OpenClaim := { program := "ytdjifjlgllohmaadoor", sum := "ae39ff5bfc075e74de1f18bf3b615b5b4a52b1a72fa15507f6d0bed531c1650e", func := "loop.example/g01283/laws.FnExactOrthogonalPolynomial", spec := "fnExactOrthogonalPolynomial", unfollowed := true, recurses := true, named := ["loop.example/g01283/impl.errIrregular"], ifaces := true, apart := false, laid := [("loop.example/g01283/impl.errIrregular", laid_loop_example_g01283_impl_errIrregular)] }
def FnExactOrthogonalPolynomialSaid : Prop := fnExactOrthogonalPolynomialRow.holds Tryd.pinned (OpenSpec.ofChange fnExactOrthogonalPolynomialSpec)

/-- ITS FALSE NEIGHBOUR: 'it returns false'. Refute it at one input. -/
def fnExactOrthogonalPolynomialWrong : ChangeSpec := { name := "fnExactOrthogonalPolynomial", vars := ["loop.example/g01283/impl.errIrregular"], fn := fun _ => fun
  | [d1, d2, g1] => { results := [.lit (.bool false)], args := [d1, d2], vars := [g1] }
  | _ => none }
def FnExactOrthogonalPolynomialWrongFalsely : Prop := fnExactOrthogonalPolynomialRow.holds Tryd.pinned (OpenSpec.ofChange fnExactOrthogonalPolynomialWrong)

/-- 'laws.FnExactNormOf': WHATEVER THE INPUT: true; the input reads as it did. -/
def fnExactNormOfSpec : ChangeSpec := { name := "fnExactNormOf", vars := ["loop.example/g01283/impl.errIrregular"], fn := fun _ => fun
  | [d1, d2, g1] => { results := [.lit (.bool true)], args := [d1, d2], vars := [g1] }
  | _ => none }
def fnExactNormOfRow : OpenClaim := { program := "ytdjifjlgllohmaadoor", sum := "ae39ff5bfc075e74de1f18bf3b615b5b4a52b1a72fa15507f6d0bed531c1650e", func := "loop.example/g01283/laws.FnExactNormOf", spec := "fnExactNormOf", unfollowed := true, recurses := true, named := ["loop.example/g01283/impl.errIrregular"], ifaces := true, apart := false, laid := [("loop.example/g01283/impl.errIrregular", laid_loop_example_g01283_impl_errIrregular)] }
def FnExactNormOfSaid : Prop := fnExactNormOfRow.holds Tryd.pinned (OpenSpec.ofChange fnExactNormOfSpec)

/-- ITS FALSE NEIGHBOUR: 'it returns false'. Refute it at one input. -/
def fnExactNormOfWrong : ChangeSpec := { name := "fnExactNormOf", vars := ["loop.example/g01283/impl.errIrregular"], fn := fun _ => fun
  | [d1, d2, g1] => { results := [.lit (.bool false)], args := [d1, d2], vars := [g1] }
  | _ => none }
def FnExactNormOfWrongFalsely : Prop := fnExactNormOfRow.holds Tryd.pinned (OpenSpec.ofChange fnExactNormOfWrong)

/-- 'laws.FnExactNormsOf': WHATEVER THE INPUT: true; the input reads as it did. -/
def fnExactNormsOfSpec : ChangeSpec := { name := "fnExactNormsOf", vars := ["loop.example/g01283/impl.errIrregular"], fn := fun _ => fun
  | [d, g1] => { results := [.lit (.bool true)], args := [d], vars := [g1] }
  | _ => none }
def fnExactNormsOfRow : OpenClaim := { program := "ytdjifjlgllohmaadoor", sum := "ae39ff5bfc075e74de1f18bf3b615b5b4a52b1a72fa15507f6d0bed531c1650e", func := "loop.example/g01283/laws.FnExactNormsOf", spec := "fnExactNormsOf", unfollowed := true, recurses := true, named := ["loop.example/g01283/impl.errIrregular"], ifaces := true, apart := false, laid := [("loop.example/g01283/impl.errIrregular", laid_loop_example_g01283_impl_errIrregular)] }
def FnExactNormsOfSaid : Prop := fnExactNormsOfRow.holds Tryd.pinned (OpenSpec.ofChange fnExactNormsOfSpec)

/-- ITS FALSE NEIGHBOUR: 'it returns false'. Refute it at one input. -/
def fnExactNormsOfWrong : ChangeSpec := { name := "fnExactNormsOf", vars := ["loop.example/g01283/impl.errIrregular"], fn := fun _ => fun
  | [d, g1] => { results := [.lit (.bool false)], args := [d], vars := [g1] }
  | _ => none }
def FnExactNormsOfWrongFalsely : Prop := fnExactNormsOfRow.holds Tryd.pinned (OpenSpec.ofChange fnExactNormsOfWrong)

/-- 'laws.FnExactExpandPolynomial': WHATEVER THE INPUT: true; the input reads as it did. -/
def fnExactExpandPolynomialSpec : ChangeSpec := { name := "fnExactExpandPolynomial", vars := ["loop.example/g01283/impl.errIrregular"], fn := fun _ => fun
  | [d1, d2, g1] => { results := [.lit (.bool true)], args := [d1, d2], vars := [g1] }
  | _ => none }
def fnExactExpandPolynomialRow : OpenClaim := { program := "ytdjifjlgllohmaadoor", sum := "ae39ff5bfc075e74de1f18bf3b615b5b4a52b1a72fa15507f6d0bed531c1650e", func := "loop.example/g01283/laws.FnExactExpandPolynomial", spec := "fnExactExpandPolynomial", unfollowed := true, recurses := true, named := ["loop.example/g01283/impl.errIrregular"], ifaces := true, apart := false, laid := [("loop.example/g01283/impl.errIrregular", laid_loop_example_g01283_impl_errIrregular)] }
def FnExactExpandPolynomialSaid : Prop := fnExactExpandPolynomialRow.holds Tryd.pinned (OpenSpec.ofChange fnExactExpandPolynomialSpec)

/-- ITS FALSE NEIGHBOUR: 'it returns false'. Refute it at one input. -/
def fnExactExpandPolynomialWrong : ChangeSpec := { name := "fnExactExpandPolynomial", vars := ["loop.example/g01283/impl.errIrregular"], fn := fun _ => fun
  | [d1, d2, g1] => { results := [.lit (.bool false)], args := [d1, d2], vars := [g1] }
  | _ => none }
def FnExactExpandPolynomialWrongFalsely : Prop := fnExactExpandPolynomialRow.holds Tryd.pinned (OpenSpec.ofChange fnExactExpandPolynomialWrong)

/-- 'laws.FnExactSumOfExpansion': WHATEVER THE INPUT: true; the input reads as it did. -/
def fnExactSumOfExpansionSpec : ChangeSpec := { name := "fnExactSumOfExpansion", vars := ["loop.example/g01283/impl.errIrregular"], fn := fun _ => fun
  | [d1, d2, g1] => { results := [.lit (.bool true)], args := [d1, d2], vars := [g1] }
  | _ => none }
def fnExactSumOfExpansionRow : OpenClaim := { program := "ytdjifjlgllohmaadoor", sum := "ae39ff5bfc075e74de1f18bf3b615b5b4a52b1a72fa15507f6d0bed531c1650e", func := "loop.example/g01283/laws.FnExactSumOfExpansion", spec := "fnExactSumOfExpansion", unfollowed := true, recurses := true, named := ["loop.example/g01283/impl.errIrregular"], ifaces := true, apart := false, laid := [("loop.example/g01283/impl.errIrregular", laid_loop_example_g01283_impl_errIrregular)] }
def FnExactSumOfExpansionSaid : Prop := fnExactSumOfExpansionRow.holds Tryd.pinned (OpenSpec.ofChange fnExactSumOfExpansionSpec)

/-- ITS FALSE NEIGHBOUR: 'it returns false'. Refute it at one input. -/
def fnExactSumOfExpansionWrong : ChangeSpec := { name := "fnExactSumOfExpansion", vars := ["loop.example/g01283/impl.errIrregular"], fn := fun _ => fun
  | [d1, d2, g1] => { results := [.lit (.bool false)], args := [d1, d2], vars := [g1] }
  | _ => none }
def FnExactSumOfExpansionWrongFalsely : Prop := fnExactSumOfExpansionRow.holds Tryd.pinned (OpenSpec.ofChange fnExactSumOfExpansionWrong)

/-- 'laws.FnExactKernelOf': WHATEVER THE INPUT: true; the input reads as it did. -/
def fnExactKernelOfSpec : ChangeSpec := { name := "fnExactKernelOf", vars := ["loop.example/g01283/impl.errIrregular"], fn := fun _ => fun
  | [d1, d2, d3, g1] => { results := [.lit (.bool true)], args := [d1, d2, d3], vars := [g1] }
  | _ => none }
def fnExactKernelOfRow : OpenClaim := { program := "ytdjifjlgllohmaadoor", sum := "ae39ff5bfc075e74de1f18bf3b615b5b4a52b1a72fa15507f6d0bed531c1650e", func := "loop.example/g01283/laws.FnExactKernelOf", spec := "fnExactKernelOf", unfollowed := true, recurses := true, named := ["loop.example/g01283/impl.errIrregular"], ifaces := true, apart := false, laid := [("loop.example/g01283/impl.errIrregular", laid_loop_example_g01283_impl_errIrregular)] }
def FnExactKernelOfSaid : Prop := fnExactKernelOfRow.holds Tryd.pinned (OpenSpec.ofChange fnExactKernelOfSpec)

/-- ITS FALSE NEIGHBOUR: 'it returns false'. Refute it at one input. -/
def fnExactKernelOfWrong : ChangeSpec := { name := "fnExactKernelOf", vars := ["loop.example/g01283/impl.errIrregular"], fn := fun _ => fun
  | [d1, d2, d3, g1] => { results := [.lit (.bool false)], args := [d1, d2, d3], vars := [g1] }
  | _ => none }
def FnExactKernelOfWrongFalsely : Prop := fnExactKernelOfRow.holds Tryd.pinned (OpenSpec.ofChange fnExactKernelOfWrong)

/-- 'laws.FnExactKernelAt': WHATEVER THE INPUT: true; the input reads as it did. -/
def fnExactKernelAtSpec : ChangeSpec := { name := "fnExactKernelAt", vars := ["loop.example/g01283/impl.errIrregular"], fn := fun _ => fun
  | [d1, d2, d3, d4, g1] => { results := [.lit (.bool true)], args := [d1, d2, d3, d4], vars := [g1] }
  | _ => none }
def fnExactKernelAtRow : OpenClaim := { program := "ytdjifjlgllohmaadoor", sum := "ae39ff5bfc075e74de1f18bf3b615b5b4a52b1a72fa15507f6d0bed531c1650e", func := "loop.example/g01283/laws.FnExactKernelAt", spec := "fnExactKernelAt", unfollowed := true, recurses := true, named := ["loop.example/g01283/impl.errIrregular"], ifaces := true, apart := false, laid := [("loop.example/g01283/impl.errIrregular", laid_loop_example_g01283_impl_errIrregular)] }
def FnExactKernelAtSaid : Prop := fnExactKernelAtRow.holds Tryd.pinned (OpenSpec.ofChange fnExactKernelAtSpec)

/-- ITS FALSE NEIGHBOUR: 'it returns false'. Refute it at one input. -/
def fnExactKernelAtWrong : ChangeSpec := { name := "fnExactKernelAt", vars := ["loop.example/g01283/impl.errIrregular"], fn := fun _ => fun
  | [d1, d2, d3, d4, g1] => { results := [.lit (.bool false)], args := [d1, d2, d3, d4], vars := [g1] }
  | _ => none }
def FnExactKernelAtWrongFalsely : Prop := fnExactKernelAtRow.holds Tryd.pinned (OpenSpec.ofChange fnExactKernelAtWrong)

/-- 'laws.FnExactReproduceAt': WHATEVER THE INPUT: true; the input reads as it did. -/
def fnExactReproduceAtSpec : ChangeSpec := { name := "fnExactReproduceAt", vars := ["loop.example/g01283/impl.errIrregular"], fn := fun _ => fun
  | [d1, d2, d3, d4, g1] => { results := [.lit (.bool true)], args := [d1, d2, d3, d4], vars := [g1] }
  | _ => none }
def fnExactReproduceAtRow : OpenClaim := { program := "ytdjifjlgllohmaadoor", sum := "ae39ff5bfc075e74de1f18bf3b615b5b4a52b1a72fa15507f6d0bed531c1650e", func := "loop.example/g01283/laws.FnExactReproduceAt", spec := "fnExactReproduceAt", unfollowed := true, recurses := true, named := ["loop.example/g01283/impl.errIrregular"], ifaces := true, apart := false, laid := [("loop.example/g01283/impl.errIrregular", laid_loop_example_g01283_impl_errIrregular)] }
def FnExactReproduceAtSaid : Prop := fnExactReproduceAtRow.holds Tryd.pinned (OpenSpec.ofChange fnExactReproduceAtSpec)

/-- ITS FALSE NEIGHBOUR: 'it returns false'. Refute it at one input. -/
def fnExactReproduceAtWrong : ChangeSpec := { name := "fnExactReproduceAt", vars := ["loop.example/g01283/impl.errIrregular"], fn := fun _ => fun
  | [d1, d2, d3, d4, g1] => { results := [.lit (.bool false)], args := [d1, d2, d3, d4], vars := [g1] }
  | _ => none }
def FnExactReproduceAtWrongFalsely : Prop := fnExactReproduceAtRow.holds Tryd.pinned (OpenSpec.ofChange fnExactReproduceAtWrong)

/- THE SECOND FORM. 'bulk': how many values and letters a reading holds, each counted each time it is reached (what is shared counts as often as it is met; a slice's spare places count too). A statement '..UptoSaid' is the law's where the arguments, and the package variables that the reading takes, are together of bulk at most 1048576: NARROWER than '..Said'. Prove '..Said' where nothing that the law and all that it calls make is longer than what came in: it says more and counts as full. Else prove '..UptoSaid'. A law counts once. -/
mutual
def uptoBulk {H : Type} : DataW H → Nat
  | .lit (.string bytes) => bytes.length + 1
  | .lit _ => 1
  | .nil => 1
  | .ptr d => uptoBulk d + 1
  | .slice elems spare => uptoBulkAll elems + uptoBulkAll spare + 1
  | .agg parts => uptoBulkAll parts + 1
  | .iface _ d => uptoBulk d + 1
  | .map entries => uptoBulkEntries entries + 1
  | .held _ => 1
def uptoBulkAll {H : Type} : List (DataW H) → Nat
  | [] => 0
  | d :: r => uptoBulk d + uptoBulkAll r
def uptoBulkEntries {H : Type} : List (Lit × DataW H) → Nat
  | [] => 0
  | x :: r => uptoBulkEntry x + uptoBulkEntries r
def uptoBulkEntry {H : Type} : Lit × DataW H → Nat
  | (.string bytes, d) => bytes.length + uptoBulk d + 1
  | (_, d) => uptoBulk d + 1
 end
def uptoSmall : (H : Type) → List (DataW H) → Bool := fun _ ds => decide (uptoBulkAll ds ≤ 1048576)
def OpenSpec.upto (s : _root_.Go.ChangeSpec) : _root_.Go.OpenSpec := { _root_.Go.OpenSpec.ofChange s with cond := some uptoSmall }

/-- 'laws.FnExactJacobiOfMoments', WHERE WHAT IT READS IS OF BULK AT MOST 1048576: true; the input reads as it did. -/
def fnExactJacobiOfMomentsUptoRow : OpenClaim := { program := "ytdjifjlgllohmaadoor", sum := "ae39ff5bfc075e74de1f18bf3b615b5b4a52b1a72fa15507f6d0bed531c1650e", func := "loop.example/g01283/laws.FnExactJacobiOfMoments", spec := "fnExactJacobiOfMoments", unfollowed := true, recurses := true, named := ["loop.example/g01283/impl.errIrregular"], ifaces := true, apart := false, laid := [("loop.example/g01283/impl.errIrregular", laid_loop_example_g01283_impl_errIrregular)], narrowed := true }
def FnExactJacobiOfMomentsUptoSaid : Prop := fnExactJacobiOfMomentsUptoRow.holds Tryd.pinned (OpenSpec.upto fnExactJacobiOfMomentsSpec)

/-- 'laws.FnExactOrthogonalPolynomial', WHERE WHAT IT READS IS OF BULK AT MOST 1048576: true; the input reads as it did. -/
def fnExactOrthogonalPolynomialUptoRow : OpenClaim := { program := "ytdjifjlgllohmaadoor", sum := "ae39ff5bfc075e74de1f18bf3b615b5b4a52b1a72fa15507f6d0bed531c1650e", func := "loop.example/g01283/laws.FnExactOrthogonalPolynomial", spec := "fnExactOrthogonalPolynomial", unfollowed := true, recurses := true, named := ["loop.example/g01283/impl.errIrregular"], ifaces := true, apart := false, laid := [("loop.example/g01283/impl.errIrregular", laid_loop_example_g01283_impl_errIrregular)], narrowed := true }
def FnExactOrthogonalPolynomialUptoSaid : Prop := fnExactOrthogonalPolynomialUptoRow.holds Tryd.pinned (OpenSpec.upto fnExactOrthogonalPolynomialSpec)

/-- 'laws.FnExactNormOf', WHERE WHAT IT READS IS OF BULK AT MOST 1048576: true; the input reads as it did. -/
def fnExactNormOfUptoRow : OpenClaim := { program := "ytdjifjlgllohmaadoor", sum := "ae39ff5bfc075e74de1f18bf3b615b5b4a52b1a72fa15507f6d0bed531c1650e", func := "loop.example/g01283/laws.FnExactNormOf", spec := "fnExactNormOf", unfollowed := true, recurses := true, named := ["loop.example/g01283/impl.errIrregular"], ifaces := true, apart := false, laid := [("loop.example/g01283/impl.errIrregular", laid_loop_example_g01283_impl_errIrregular)], narrowed := true }
def FnExactNormOfUptoSaid : Prop := fnExactNormOfUptoRow.holds Tryd.pinned (OpenSpec.upto fnExactNormOfSpec)

/-- 'laws.FnExactNormsOf', WHERE WHAT IT READS IS OF BULK AT MOST 1048576: true; the input reads as it did. -/
def fnExactNormsOfUptoRow : OpenClaim := { program := "ytdjifjlgllohmaadoor", sum := "ae39ff5bfc075e74de1f18bf3b615b5b4a52b1a72fa15507f6d0bed531c1650e", func := "loop.example/g01283/laws.FnExactNormsOf", spec := "fnExactNormsOf", unfollowed := true, recurses := true, named := ["loop.example/g01283/impl.errIrregular"], ifaces := true, apart := false, laid := [("loop.example/g01283/impl.errIrregular", laid_loop_example_g01283_impl_errIrregular)], narrowed := true }
def FnExactNormsOfUptoSaid : Prop := fnExactNormsOfUptoRow.holds Tryd.pinned (OpenSpec.upto fnExactNormsOfSpec)

/-- 'laws.FnExactExpandPolynomial', WHERE WHAT IT READS IS OF BULK AT MOST 1048576: true; the input reads as it did. -/
def fnExactExpandPolynomialUptoRow : OpenClaim := { program := "ytdjifjlgllohmaadoor", sum := "ae39ff5bfc075e74de1f18bf3b615b5b4a52b1a72fa15507f6d0bed531c1650e", func := "loop.example/g01283/laws.FnExactExpandPolynomial", spec := "fnExactExpandPolynomial", unfollowed := true, recurses := true, named := ["loop.example/g01283/impl.errIrregular"], ifaces := true, apart := false, laid := [("loop.example/g01283/impl.errIrregular", laid_loop_example_g01283_impl_errIrregular)], narrowed := true }
def FnExactExpandPolynomialUptoSaid : Prop := fnExactExpandPolynomialUptoRow.holds Tryd.pinned (OpenSpec.upto fnExactExpandPolynomialSpec)

/-- 'laws.FnExactSumOfExpansion', WHERE WHAT IT READS IS OF BULK AT MOST 1048576: true; the input reads as it did. -/
def fnExactSumOfExpansionUptoRow : OpenClaim := { program := "ytdjifjlgllohmaadoor", sum := "ae39ff5bfc075e74de1f18bf3b615b5b4a52b1a72fa15507f6d0bed531c1650e", func := "loop.example/g01283/laws.FnExactSumOfExpansion", spec := "fnExactSumOfExpansion", unfollowed := true, recurses := true, named := ["loop.example/g01283/impl.errIrregular"], ifaces := true, apart := false, laid := [("loop.example/g01283/impl.errIrregular", laid_loop_example_g01283_impl_errIrregular)], narrowed := true }
def FnExactSumOfExpansionUptoSaid : Prop := fnExactSumOfExpansionUptoRow.holds Tryd.pinned (OpenSpec.upto fnExactSumOfExpansionSpec)

/-- 'laws.FnExactKernelOf', WHERE WHAT IT READS IS OF BULK AT MOST 1048576: true; the input reads as it did. -/
def fnExactKernelOfUptoRow : OpenClaim := { program := "ytdjifjlgllohmaadoor", sum := "ae39ff5bfc075e74de1f18bf3b615b5b4a52b1a72fa15507f6d0bed531c1650e", func := "loop.example/g01283/laws.FnExactKernelOf", spec := "fnExactKernelOf", unfollowed := true, recurses := true, named := ["loop.example/g01283/impl.errIrregular"], ifaces := true, apart := false, laid := [("loop.example/g01283/impl.errIrregular", laid_loop_example_g01283_impl_errIrregular)], narrowed := true }
def FnExactKernelOfUptoSaid : Prop := fnExactKernelOfUptoRow.holds Tryd.pinned (OpenSpec.upto fnExactKernelOfSpec)

/-- 'laws.FnExactKernelAt', WHERE WHAT IT READS IS OF BULK AT MOST 1048576: true; the input reads as it did. -/
def fnExactKernelAtUptoRow : OpenClaim := { program := "ytdjifjlgllohmaadoor", sum := "ae39ff5bfc075e74de1f18bf3b615b5b4a52b1a72fa15507f6d0bed531c1650e", func := "loop.example/g01283/laws.FnExactKernelAt", spec := "fnExactKernelAt", unfollowed := true, recurses := true, named := ["loop.example/g01283/impl.errIrregular"], ifaces := true, apart := false, laid := [("loop.example/g01283/impl.errIrregular", laid_loop_example_g01283_impl_errIrregular)], narrowed := true }
def FnExactKernelAtUptoSaid : Prop := fnExactKernelAtUptoRow.holds Tryd.pinned (OpenSpec.upto fnExactKernelAtSpec)

/-- 'laws.FnExactReproduceAt', WHERE WHAT IT READS IS OF BULK AT MOST 1048576: true; the input reads as it did. -/
def fnExactReproduceAtUptoRow : OpenClaim := { program := "ytdjifjlgllohmaadoor", sum := "ae39ff5bfc075e74de1f18bf3b615b5b4a52b1a72fa15507f6d0bed531c1650e", func := "loop.example/g01283/laws.FnExactReproduceAt", spec := "fnExactReproduceAt", unfollowed := true, recurses := true, named := ["loop.example/g01283/impl.errIrregular"], ifaces := true, apart := false, laid := [("loop.example/g01283/impl.errIrregular", laid_loop_example_g01283_impl_errIrregular)], narrowed := true }
def FnExactReproduceAtUptoSaid : Prop := fnExactReproduceAtUptoRow.holds Tryd.pinned (OpenSpec.upto fnExactReproduceAtSpec)

end Rows
end Go.Proofs.YtdjifjlgllohmaaDoor
