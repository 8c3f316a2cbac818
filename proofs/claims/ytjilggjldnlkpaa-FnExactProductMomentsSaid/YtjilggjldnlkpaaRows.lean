/-
  No cell of these rows narrows 'for every input' (looked for: loops, veiled, ifaces, maps, wideKeys, modest, calm, conditions, laid).
  DERIVED. THE GIVEN ROWS OF THIS SEAT. 12 by the template 'for every input the law returns true; each argument reads behind the call as it read before'; 0 by the template 'total and deterministic' (their statements: YtjilggjldnlkpaaTotals.lean).
  GIVEN WITH THE SEED: the statements are not yours to turn. If you find one false, say at which input.
  Laid BY PROGRAM, IN A SANDBOX (cutbox-rows.mjs): the forced cells as the released guide's own fill.sh prints them over the translation 1e97c26f27af774f… (all of the seat's roots in one cut). By AI agents, Wed Nov 11 2026. No macro, syntax, notation, axiom, sorry.
-/
import Derived.Test.YtjilggjldnlkpaaChecked
import GoSem.Claim
import GoSem.ClaimJoined
import GoSem.ClaimMapViews
import Derived.JoinedTies
import Derived.KernelRfl
namespace Go.Proofs.Ytjilggjldnlkpaa
/- THE CELL 'sum', in the pinned program and in every row, IS THE sha256 OF THE DUMP (.gsa) THAT YtjilggjldnlkpaaProg.lean LOADS. Nothing in Lean hashes anything: it is a label: what it is worth is what the hold of that sum in a sandbox is worth. -/
noncomputable def Try.pinned : Pinned := { name := "ytjilggjldnlkpaa", sum := "1e97c26f27af774fd16062b5cd884fdd69fa9f187ad3363d26f9b2d850fa8dbd", checked := Try.checked }
namespace Rows
def none {H : Type} : Left H := { results := [], args := [] }

/-- 'laws.FnExactIsJacobi': WHATEVER THE INPUT: true; the input reads as it did. -/
def fnExactIsJacobiSpec : ChangeSpec := { name := "fnExactIsJacobi", fn := fun _ => fun
  | [d] => { results := [.lit (.bool true)], args := [d] }
  | _ => none }
def fnExactIsJacobiRow : OpenClaim := { program := "ytjilggjldnlkpaa", sum := "1e97c26f27af774fd16062b5cd884fdd69fa9f187ad3363d26f9b2d850fa8dbd", func := "loop.example/g01283/laws.FnExactIsJacobi", spec := "fnExactIsJacobi", apart := false }
def FnExactIsJacobiSaid : Prop := fnExactIsJacobiRow.holds Try.pinned (OpenSpec.ofChange fnExactIsJacobiSpec)

/-- ITS FALSE NEIGHBOUR: 'it returns false'. Refute it at one input. -/
def fnExactIsJacobiWrong : ChangeSpec := { name := "fnExactIsJacobi", fn := fun _ => fun
  | [d] => { results := [.lit (.bool false)], args := [d] }
  | _ => none }
def FnExactIsJacobiWrongFalsely : Prop := fnExactIsJacobiRow.holds Try.pinned (OpenSpec.ofChange fnExactIsJacobiWrong)

/-- 'laws.FnExactCutJacobi': WHATEVER THE INPUT: true; the input reads as it did. -/
def fnExactCutJacobiSpec : ChangeSpec := { name := "fnExactCutJacobi", fn := fun _ => fun
  | [d1, d2] => { results := [.lit (.bool true)], args := [d1, d2] }
  | _ => none }
def fnExactCutJacobiRow : OpenClaim := { program := "ytjilggjldnlkpaa", sum := "1e97c26f27af774fd16062b5cd884fdd69fa9f187ad3363d26f9b2d850fa8dbd", func := "loop.example/g01283/laws.FnExactCutJacobi", spec := "fnExactCutJacobi", apart := false }
def FnExactCutJacobiSaid : Prop := fnExactCutJacobiRow.holds Try.pinned (OpenSpec.ofChange fnExactCutJacobiSpec)

/-- ITS FALSE NEIGHBOUR: 'it returns false'. Refute it at one input. -/
def fnExactCutJacobiWrong : ChangeSpec := { name := "fnExactCutJacobi", fn := fun _ => fun
  | [d1, d2] => { results := [.lit (.bool false)], args := [d1, d2] }
  | _ => none }
def FnExactCutJacobiWrongFalsely : Prop := fnExactCutJacobiRow.holds Try.pinned (OpenSpec.ofChange fnExactCutJacobiWrong)

/-- 'laws.FnExactShiftJacobi': WHATEVER THE INPUT: true; the input reads as it did. -/
def fnExactShiftJacobiSpec : ChangeSpec := { name := "fnExactShiftJacobi", fn := fun _ => fun
  | [d1, d2] => { results := [.lit (.bool true)], args := [d1, d2] }
  | _ => none }
def fnExactShiftJacobiRow : OpenClaim := { program := "ytjilggjldnlkpaa", sum := "1e97c26f27af774fd16062b5cd884fdd69fa9f187ad3363d26f9b2d850fa8dbd", func := "loop.example/g01283/laws.FnExactShiftJacobi", spec := "fnExactShiftJacobi", apart := false }
def FnExactShiftJacobiSaid : Prop := fnExactShiftJacobiRow.holds Try.pinned (OpenSpec.ofChange fnExactShiftJacobiSpec)

/-- ITS FALSE NEIGHBOUR: 'it returns false'. Refute it at one input. -/
def fnExactShiftJacobiWrong : ChangeSpec := { name := "fnExactShiftJacobi", fn := fun _ => fun
  | [d1, d2] => { results := [.lit (.bool false)], args := [d1, d2] }
  | _ => none }
def FnExactShiftJacobiWrongFalsely : Prop := fnExactShiftJacobiRow.holds Try.pinned (OpenSpec.ofChange fnExactShiftJacobiWrong)

/-- 'laws.FnExactReverseJacobi': WHATEVER THE INPUT: true; the input reads as it did. -/
def fnExactReverseJacobiSpec : ChangeSpec := { name := "fnExactReverseJacobi", fn := fun _ => fun
  | [d] => { results := [.lit (.bool true)], args := [d] }
  | _ => none }
def fnExactReverseJacobiRow : OpenClaim := { program := "ytjilggjldnlkpaa", sum := "1e97c26f27af774fd16062b5cd884fdd69fa9f187ad3363d26f9b2d850fa8dbd", func := "loop.example/g01283/laws.FnExactReverseJacobi", spec := "fnExactReverseJacobi", apart := false }
def FnExactReverseJacobiSaid : Prop := fnExactReverseJacobiRow.holds Try.pinned (OpenSpec.ofChange fnExactReverseJacobiSpec)

/-- ITS FALSE NEIGHBOUR: 'it returns false'. Refute it at one input. -/
def fnExactReverseJacobiWrong : ChangeSpec := { name := "fnExactReverseJacobi", fn := fun _ => fun
  | [d] => { results := [.lit (.bool false)], args := [d] }
  | _ => none }
def FnExactReverseJacobiWrongFalsely : Prop := fnExactReverseJacobiRow.holds Try.pinned (OpenSpec.ofChange fnExactReverseJacobiWrong)

/-- 'laws.FnExactAffineJacobi': WHATEVER THE INPUT: true; the input reads as it did. -/
def fnExactAffineJacobiSpec : ChangeSpec := { name := "fnExactAffineJacobi", fn := fun _ => fun
  | [d1, d2, d3] => { results := [.lit (.bool true)], args := [d1, d2, d3] }
  | _ => none }
def fnExactAffineJacobiRow : OpenClaim := { program := "ytjilggjldnlkpaa", sum := "1e97c26f27af774fd16062b5cd884fdd69fa9f187ad3363d26f9b2d850fa8dbd", func := "loop.example/g01283/laws.FnExactAffineJacobi", spec := "fnExactAffineJacobi", apart := false }
def FnExactAffineJacobiSaid : Prop := fnExactAffineJacobiRow.holds Try.pinned (OpenSpec.ofChange fnExactAffineJacobiSpec)

/-- ITS FALSE NEIGHBOUR: 'it returns false'. Refute it at one input. -/
def fnExactAffineJacobiWrong : ChangeSpec := { name := "fnExactAffineJacobi", fn := fun _ => fun
  | [d1, d2, d3] => { results := [.lit (.bool false)], args := [d1, d2, d3] }
  | _ => none }
def FnExactAffineJacobiWrongFalsely : Prop := fnExactAffineJacobiRow.holds Try.pinned (OpenSpec.ofChange fnExactAffineJacobiWrong)

/-- 'laws.FnExactPolyOf': WHATEVER THE INPUT: true; the input reads as it did. -/
def fnExactPolyOfSpec : ChangeSpec := { name := "fnExactPolyOf", fn := fun _ => fun
  | [d1, d2] => { results := [.lit (.bool true)], args := [d1, d2] }
  | _ => none }
def fnExactPolyOfRow : OpenClaim := { program := "ytjilggjldnlkpaa", sum := "1e97c26f27af774fd16062b5cd884fdd69fa9f187ad3363d26f9b2d850fa8dbd", func := "loop.example/g01283/laws.FnExactPolyOf", spec := "fnExactPolyOf", unfollowed := true, recurses := true, apart := false }
def FnExactPolyOfSaid : Prop := fnExactPolyOfRow.holds Try.pinned (OpenSpec.ofChange fnExactPolyOfSpec)

/-- ITS FALSE NEIGHBOUR: 'it returns false'. Refute it at one input. -/
def fnExactPolyOfWrong : ChangeSpec := { name := "fnExactPolyOf", fn := fun _ => fun
  | [d1, d2] => { results := [.lit (.bool false)], args := [d1, d2] }
  | _ => none }
def FnExactPolyOfWrongFalsely : Prop := fnExactPolyOfRow.holds Try.pinned (OpenSpec.ofChange fnExactPolyOfWrong)

/-- 'laws.FnExactAssociatedOf': WHATEVER THE INPUT: true; the input reads as it did. -/
def fnExactAssociatedOfSpec : ChangeSpec := { name := "fnExactAssociatedOf", fn := fun _ => fun
  | [d1, d2] => { results := [.lit (.bool true)], args := [d1, d2] }
  | _ => none }
def fnExactAssociatedOfRow : OpenClaim := { program := "ytjilggjldnlkpaa", sum := "1e97c26f27af774fd16062b5cd884fdd69fa9f187ad3363d26f9b2d850fa8dbd", func := "loop.example/g01283/laws.FnExactAssociatedOf", spec := "fnExactAssociatedOf", unfollowed := true, recurses := true, apart := false }
def FnExactAssociatedOfSaid : Prop := fnExactAssociatedOfRow.holds Try.pinned (OpenSpec.ofChange fnExactAssociatedOfSpec)

/-- ITS FALSE NEIGHBOUR: 'it returns false'. Refute it at one input. -/
def fnExactAssociatedOfWrong : ChangeSpec := { name := "fnExactAssociatedOf", fn := fun _ => fun
  | [d1, d2] => { results := [.lit (.bool false)], args := [d1, d2] }
  | _ => none }
def FnExactAssociatedOfWrongFalsely : Prop := fnExactAssociatedOfRow.holds Try.pinned (OpenSpec.ofChange fnExactAssociatedOfWrong)

/-- 'laws.FnExactValueOf': WHATEVER THE INPUT: true; the input reads as it did. -/
def fnExactValueOfSpec : ChangeSpec := { name := "fnExactValueOf", fn := fun _ => fun
  | [d1, d2, d3] => { results := [.lit (.bool true)], args := [d1, d2, d3] }
  | _ => none }
def fnExactValueOfRow : OpenClaim := { program := "ytjilggjldnlkpaa", sum := "1e97c26f27af774fd16062b5cd884fdd69fa9f187ad3363d26f9b2d850fa8dbd", func := "loop.example/g01283/laws.FnExactValueOf", spec := "fnExactValueOf", unfollowed := true, recurses := true, apart := false }
def FnExactValueOfSaid : Prop := fnExactValueOfRow.holds Try.pinned (OpenSpec.ofChange fnExactValueOfSpec)

/-- ITS FALSE NEIGHBOUR: 'it returns false'. Refute it at one input. -/
def fnExactValueOfWrong : ChangeSpec := { name := "fnExactValueOf", fn := fun _ => fun
  | [d1, d2, d3] => { results := [.lit (.bool false)], args := [d1, d2, d3] }
  | _ => none }
def FnExactValueOfWrongFalsely : Prop := fnExactValueOfRow.holds Try.pinned (OpenSpec.ofChange fnExactValueOfWrong)

/-- 'laws.FnExactWronskiAt': WHATEVER THE INPUT: true; the input reads as it did. -/
def fnExactWronskiAtSpec : ChangeSpec := { name := "fnExactWronskiAt", fn := fun _ => fun
  | [d1, d2] => { results := [.lit (.bool true)], args := [d1, d2] }
  | _ => none }
def fnExactWronskiAtRow : OpenClaim := { program := "ytjilggjldnlkpaa", sum := "1e97c26f27af774fd16062b5cd884fdd69fa9f187ad3363d26f9b2d850fa8dbd", func := "loop.example/g01283/laws.FnExactWronskiAt", spec := "fnExactWronskiAt", unfollowed := true, recurses := true, apart := false }
def FnExactWronskiAtSaid : Prop := fnExactWronskiAtRow.holds Try.pinned (OpenSpec.ofChange fnExactWronskiAtSpec)

/-- ITS FALSE NEIGHBOUR: 'it returns false'. Refute it at one input. -/
def fnExactWronskiAtWrong : ChangeSpec := { name := "fnExactWronskiAt", fn := fun _ => fun
  | [d1, d2] => { results := [.lit (.bool false)], args := [d1, d2] }
  | _ => none }
def FnExactWronskiAtWrongFalsely : Prop := fnExactWronskiAtRow.holds Try.pinned (OpenSpec.ofChange fnExactWronskiAtWrong)

/-- 'laws.FnExactFindJacobi': WHATEVER THE INPUT: true; the input reads as it did. -/
def fnExactFindJacobiSpec : ChangeSpec := { name := "fnExactFindJacobi", fn := fun _ => fun
  | [d1, d2, d3, d4] => { results := [.lit (.bool true)], args := [d1, d2, d3, d4] }
  | _ => none }
def fnExactFindJacobiRow : OpenClaim := { program := "ytjilggjldnlkpaa", sum := "1e97c26f27af774fd16062b5cd884fdd69fa9f187ad3363d26f9b2d850fa8dbd", func := "loop.example/g01283/laws.FnExactFindJacobi", spec := "fnExactFindJacobi", unfollowed := true, recurses := true, apart := false }
def FnExactFindJacobiSaid : Prop := fnExactFindJacobiRow.holds Try.pinned (OpenSpec.ofChange fnExactFindJacobiSpec)

/-- ITS FALSE NEIGHBOUR: 'it returns false'. Refute it at one input. -/
def fnExactFindJacobiWrong : ChangeSpec := { name := "fnExactFindJacobi", fn := fun _ => fun
  | [d1, d2, d3, d4] => { results := [.lit (.bool false)], args := [d1, d2, d3, d4] }
  | _ => none }
def FnExactFindJacobiWrongFalsely : Prop := fnExactFindJacobiRow.holds Try.pinned (OpenSpec.ofChange fnExactFindJacobiWrong)

/-- 'laws.FnExactAddMoments': WHATEVER THE INPUT: true; the input reads as it did. -/
def fnExactAddMomentsSpec : ChangeSpec := { name := "fnExactAddMoments", fn := fun _ => fun
  | [d1, d2, d3] => { results := [.lit (.bool true)], args := [d1, d2, d3] }
  | _ => none }
def fnExactAddMomentsRow : OpenClaim := { program := "ytjilggjldnlkpaa", sum := "1e97c26f27af774fd16062b5cd884fdd69fa9f187ad3363d26f9b2d850fa8dbd", func := "loop.example/g01283/laws.FnExactAddMoments", spec := "fnExactAddMoments", apart := false }
def FnExactAddMomentsSaid : Prop := fnExactAddMomentsRow.holds Try.pinned (OpenSpec.ofChange fnExactAddMomentsSpec)

/-- ITS FALSE NEIGHBOUR: 'it returns false'. Refute it at one input. -/
def fnExactAddMomentsWrong : ChangeSpec := { name := "fnExactAddMoments", fn := fun _ => fun
  | [d1, d2, d3] => { results := [.lit (.bool false)], args := [d1, d2, d3] }
  | _ => none }
def FnExactAddMomentsWrongFalsely : Prop := fnExactAddMomentsRow.holds Try.pinned (OpenSpec.ofChange fnExactAddMomentsWrong)

/-- 'laws.FnExactProductMoments': WHATEVER THE INPUT: true; the input reads as it did. -/
def fnExactProductMomentsSpec : ChangeSpec := { name := "fnExactProductMoments", fn := fun _ => fun
  | [d1, d2] => { results := [.lit (.bool true)], args := [d1, d2] }
  | _ => none }
def fnExactProductMomentsRow : OpenClaim := { program := "ytjilggjldnlkpaa", sum := "1e97c26f27af774fd16062b5cd884fdd69fa9f187ad3363d26f9b2d850fa8dbd", func := "loop.example/g01283/laws.FnExactProductMoments", spec := "fnExactProductMoments", unfollowed := true, recurses := true, apart := false }
def FnExactProductMomentsSaid : Prop := fnExactProductMomentsRow.holds Try.pinned (OpenSpec.ofChange fnExactProductMomentsSpec)

/-- ITS FALSE NEIGHBOUR: 'it returns false'. Refute it at one input. -/
def fnExactProductMomentsWrong : ChangeSpec := { name := "fnExactProductMoments", fn := fun _ => fun
  | [d1, d2] => { results := [.lit (.bool false)], args := [d1, d2] }
  | _ => none }
def FnExactProductMomentsWrongFalsely : Prop := fnExactProductMomentsRow.holds Try.pinned (OpenSpec.ofChange fnExactProductMomentsWrong)

/- THE SECOND FORM. 'bulk': how many values and letters a reading holds, each counted each time it is reached (what is shared counts as often as it is met; a slice's spare places count too). A statement '..UptoSaid' is the law's where the arguments, and the package variables that the reading takes, are together of bulk at most 1048576: NARROWER than '..Said'. Prove '..Said' where nothing that the law and all that it calls make is longer than what came in: it says more and counts as full. Else prove '..UptoSaid'. A law counts once. -/
mutual
def uptoBulk {H : Type} : DataW H → Nat
  | .lit (.string bytes) => bytes.length + 1
  | .lit _ => 1
  | .nil => 1
  | .ptr d => uptoBulk d + 1
  | .slice elems spare => uptoBulkAll elems + uptoBulkAll spare + 1
  | .agg parts => uptoBulkAll parts + 1
  | .iface _ d => uptoBulk d + 1
  | .map entries => uptoBulkEntries entries + 1
  | .held _ => 1
def uptoBulkAll {H : Type} : List (DataW H) → Nat
  | [] => 0
  | d :: r => uptoBulk d + uptoBulkAll r
def uptoBulkEntries {H : Type} : List (Lit × DataW H) → Nat
  | [] => 0
  | x :: r => uptoBulkEntry x + uptoBulkEntries r
def uptoBulkEntry {H : Type} : Lit × DataW H → Nat
  | (.string bytes, d) => bytes.length + uptoBulk d + 1
  | (_, d) => uptoBulk d + 1
 end
def uptoSmall : (H : Type) → List (DataW H) → Bool := fun _ ds => decide (uptoBulkAll ds ≤ 1048576)
def OpenSpec.upto (s : _root_.Go.ChangeSpec) : _root_.Go.OpenSpec := { _root_.Go.OpenSpec.ofChange s with cond := some uptoSmall }

/-- 'laws.FnExactIsJacobi', WHERE WHAT IT READS IS OF BULK AT MOST 1048576: true; the input reads as it did. -/
def fnExactIsJacobiUptoRow : OpenClaim := { program := "ytjilggjldnlkpaa", sum := "1e97c26f27af774fd16062b5cd884fdd69fa9f187ad3363d26f9b2d850fa8dbd", func := "loop.example/g01283/laws.FnExactIsJacobi", spec := "fnExactIsJacobi", apart := false, narrowed := true }
def FnExactIsJacobiUptoSaid : Prop := fnExactIsJacobiUptoRow.holds Try.pinned (OpenSpec.upto fnExactIsJacobiSpec)

/-- 'laws.FnExactCutJacobi', WHERE WHAT IT READS IS OF BULK AT MOST 1048576: true; the input reads as it did. -/
def fnExactCutJacobiUptoRow : OpenClaim := { program := "ytjilggjldnlkpaa", sum := "1e97c26f27af774fd16062b5cd884fdd69fa9f187ad3363d26f9b2d850fa8dbd", func := "loop.example/g01283/laws.FnExactCutJacobi", spec := "fnExactCutJacobi", apart := false, narrowed := true }
def FnExactCutJacobiUptoSaid : Prop := fnExactCutJacobiUptoRow.holds Try.pinned (OpenSpec.upto fnExactCutJacobiSpec)

/-- 'laws.FnExactShiftJacobi', WHERE WHAT IT READS IS OF BULK AT MOST 1048576: true; the input reads as it did. -/
def fnExactShiftJacobiUptoRow : OpenClaim := { program := "ytjilggjldnlkpaa", sum := "1e97c26f27af774fd16062b5cd884fdd69fa9f187ad3363d26f9b2d850fa8dbd", func := "loop.example/g01283/laws.FnExactShiftJacobi", spec := "fnExactShiftJacobi", apart := false, narrowed := true }
def FnExactShiftJacobiUptoSaid : Prop := fnExactShiftJacobiUptoRow.holds Try.pinned (OpenSpec.upto fnExactShiftJacobiSpec)

/-- 'laws.FnExactReverseJacobi', WHERE WHAT IT READS IS OF BULK AT MOST 1048576: true; the input reads as it did. -/
def fnExactReverseJacobiUptoRow : OpenClaim := { program := "ytjilggjldnlkpaa", sum := "1e97c26f27af774fd16062b5cd884fdd69fa9f187ad3363d26f9b2d850fa8dbd", func := "loop.example/g01283/laws.FnExactReverseJacobi", spec := "fnExactReverseJacobi", apart := false, narrowed := true }
def FnExactReverseJacobiUptoSaid : Prop := fnExactReverseJacobiUptoRow.holds Try.pinned (OpenSpec.upto fnExactReverseJacobiSpec)

/-- 'laws.FnExactAffineJacobi', WHERE WHAT IT READS IS OF BULK AT MOST 1048576: true; the input reads as it did. -/
def fnExactAffineJacobiUptoRow : OpenClaim := { program := "ytjilggjldnlkpaa", sum := "1e97c26f27af774fd16062b5cd884fdd69fa9f187ad3363d26f9b2d850fa8dbd", func := "loop.example/g01283/laws.FnExactAffineJacobi", spec := "fnExactAffineJacobi", apart := false, narrowed := true }
def FnExactAffineJacobiUptoSaid : Prop := fnExactAffineJacobiUptoRow.holds Try.pinned (OpenSpec.upto fnExactAffineJacobiSpec)

/-- 'laws.FnExactPolyOf', WHERE WHAT IT READS IS OF BULK AT MOST 1048576: true; the input reads as it did. -/
def fnExactPolyOfUptoRow : OpenClaim := { program := "ytjilggjldnlkpaa", sum := "1e97c26f27af774fd16062b5cd884fdd69fa9f187ad3363d26f9b2d850fa8dbd", func := "loop.example/g01283/laws.FnExactPolyOf", spec := "fnExactPolyOf", unfollowed := true, recurses := true, apart := false, narrowed := true }
def FnExactPolyOfUptoSaid : Prop := fnExactPolyOfUptoRow.holds Try.pinned (OpenSpec.upto fnExactPolyOfSpec)

/-- 'laws.FnExactAssociatedOf', WHERE WHAT IT READS IS OF BULK AT MOST 1048576: true; the input reads as it did. -/
def fnExactAssociatedOfUptoRow : OpenClaim := { program := "ytjilggjldnlkpaa", sum := "1e97c26f27af774fd16062b5cd884fdd69fa9f187ad3363d26f9b2d850fa8dbd", func := "loop.example/g01283/laws.FnExactAssociatedOf", spec := "fnExactAssociatedOf", unfollowed := true, recurses := true, apart := false, narrowed := true }
def FnExactAssociatedOfUptoSaid : Prop := fnExactAssociatedOfUptoRow.holds Try.pinned (OpenSpec.upto fnExactAssociatedOfSpec)

/-- 'laws.FnExactValueOf', WHERE WHAT IT READS IS OF BULK AT MOST 1048576: true; the input reads as it did. -/
def fnExactValueOfUptoRow : OpenClaim := { program := "ytjilggjldnlkpaa", sum := "1e97c26f27af774fd16062b5cd884fdd69fa9f187ad3363d26f9b2d850fa8dbd", func := "loop.example/g01283/laws.FnExactValueOf", spec := "fnExactValueOf", unfollowed := true, recurses := true, apart := false, narrowed := true }
def FnExactValueOfUptoSaid : Prop := fnExactValueOfUptoRow.holds Try.pinned (OpenSpec.upto fnExactValueOfSpec)

/-- 'laws.FnExactWronskiAt', WHERE WHAT IT READS IS OF BULK AT MOST 1048576: true; the input reads as it did. -/
def fnExactWronskiAtUptoRow : OpenClaim := { program := "ytjilggjldnlkpaa", sum := "1e97c26f27af774fd16062b5cd884fdd69fa9f187ad3363d26f9b2d850fa8dbd", func := "loop.example/g01283/laws.FnExactWronskiAt", spec := "fnExactWronskiAt", unfollowed := true, recurses := true, apart := false, narrowed := true }
def FnExactWronskiAtUptoSaid : Prop := fnExactWronskiAtUptoRow.holds Try.pinned (OpenSpec.upto fnExactWronskiAtSpec)

/-- 'laws.FnExactFindJacobi', WHERE WHAT IT READS IS OF BULK AT MOST 1048576: true; the input reads as it did. -/
def fnExactFindJacobiUptoRow : OpenClaim := { program := "ytjilggjldnlkpaa", sum := "1e97c26f27af774fd16062b5cd884fdd69fa9f187ad3363d26f9b2d850fa8dbd", func := "loop.example/g01283/laws.FnExactFindJacobi", spec := "fnExactFindJacobi", unfollowed := true, recurses := true, apart := false, narrowed := true }
def FnExactFindJacobiUptoSaid : Prop := fnExactFindJacobiUptoRow.holds Try.pinned (OpenSpec.upto fnExactFindJacobiSpec)

/-- 'laws.FnExactAddMoments', WHERE WHAT IT READS IS OF BULK AT MOST 1048576: true; the input reads as it did. -/
def fnExactAddMomentsUptoRow : OpenClaim := { program := "ytjilggjldnlkpaa", sum := "1e97c26f27af774fd16062b5cd884fdd69fa9f187ad3363d26f9b2d850fa8dbd", func := "loop.example/g01283/laws.FnExactAddMoments", spec := "fnExactAddMoments", apart := false, narrowed := true }
def FnExactAddMomentsUptoSaid : Prop := fnExactAddMomentsUptoRow.holds Try.pinned (OpenSpec.upto fnExactAddMomentsSpec)

/-- 'laws.FnExactProductMoments', WHERE WHAT IT READS IS OF BULK AT MOST 1048576: true; the input reads as it did. -/
def fnExactProductMomentsUptoRow : OpenClaim := { program := "ytjilggjldnlkpaa", sum := "1e97c26f27af774fd16062b5cd884fdd69fa9f187ad3363d26f9b2d850fa8dbd", func := "loop.example/g01283/laws.FnExactProductMoments", spec := "fnExactProductMoments", unfollowed := true, recurses := true, apart := false, narrowed := true }
def FnExactProductMomentsUptoSaid : Prop := fnExactProductMomentsUptoRow.holds Try.pinned (OpenSpec.upto fnExactProductMomentsSpec)

end Rows
end Go.Proofs.Ytjilggjldnlkpaa
