/-
  DERIVED. GIVEN WITH THE SEED: THE CARDS: each row of YtdjifjlgllohmaaDoorRows.lean that lists a variable, with what it lists TIED to the program's text (the seventh form; the later family's looks); each row that meets fmt, with fmt's text TOLD by the authors' own Lean function (tested against real Go, not proved from fmt's source: count such statements apart). THE CARD IS WHAT COUNTS. Prove the row's statement (the work); the ties are given (YtdjifjlgllohmaaDoorTie.lean); close each card by the builder's one call (the guide's Derived/Test/ToyasCard.lean, 'card_holds'). Laid BY PROGRAM, IN A SANDBOX (cutbox-door.mjs). By AI agents, Wed Nov 11 2026. No macro, syntax, notation, axiom, sorry.
-/
import Derived.Test.YtdjifjlgllohmaaDoorRows
import GoSem.ClaimSeven
namespace Go.Proofs.YtdjifjlgllohmaaDoor
namespace Rows

/-- THE TIED CARD OF 'laws.FnExactJacobiOfMoments'. -/
def fnExactJacobiOfMomentsCard : Claim7 := { stood := { row := fnExactJacobiOfMomentsRow, standIns := [], harness := (true, "385789fbb5d993c93e7e41f819cb6bbb473c086b3033b9651b7b135bdecca464"), looks := true }, kinds := [], alts := [], laidByText := true, laidKinds := [.sentinel], laidTests := true, laidLooks := .later }
def FnExactJacobiOfMomentsCardSaid : Prop := Claim7.holds Tryd.pinned (.plain (OpenSpec.ofChange fnExactJacobiOfMomentsSpec)) fnExactJacobiOfMomentsCard

/-- THE TIED CARD OF 'laws.FnExactOrthogonalPolynomial'. -/
def fnExactOrthogonalPolynomialCard : Claim7 := { stood := { row := fnExactOrthogonalPolynomialRow, standIns := [], harness := (true, "385789fbb5d993c93e7e41f819cb6bbb473c086b3033b9651b7b135bdecca464"), looks := true }, kinds := [], alts := [], laidByText := true, laidKinds := [.sentinel], laidTests := true, laidLooks := .later }
def FnExactOrthogonalPolynomialCardSaid : Prop := Claim7.holds Tryd.pinned (.plain (OpenSpec.ofChange fnExactOrthogonalPolynomialSpec)) fnExactOrthogonalPolynomialCard

/-- THE TIED CARD OF 'laws.FnExactNormOf'. -/
def fnExactNormOfCard : Claim7 := { stood := { row := fnExactNormOfRow, standIns := [], harness := (true, "385789fbb5d993c93e7e41f819cb6bbb473c086b3033b9651b7b135bdecca464"), looks := true }, kinds := [], alts := [], laidByText := true, laidKinds := [.sentinel], laidTests := true, laidLooks := .later }
def FnExactNormOfCardSaid : Prop := Claim7.holds Tryd.pinned (.plain (OpenSpec.ofChange fnExactNormOfSpec)) fnExactNormOfCard

/-- THE TIED CARD OF 'laws.FnExactNormsOf'. -/
def fnExactNormsOfCard : Claim7 := { stood := { row := fnExactNormsOfRow, standIns := [], harness := (true, "385789fbb5d993c93e7e41f819cb6bbb473c086b3033b9651b7b135bdecca464"), looks := true }, kinds := [], alts := [], laidByText := true, laidKinds := [.sentinel], laidTests := true, laidLooks := .later }
def FnExactNormsOfCardSaid : Prop := Claim7.holds Tryd.pinned (.plain (OpenSpec.ofChange fnExactNormsOfSpec)) fnExactNormsOfCard

/-- THE TIED CARD OF 'laws.FnExactExpandPolynomial'. -/
def fnExactExpandPolynomialCard : Claim7 := { stood := { row := fnExactExpandPolynomialRow, standIns := [], harness := (true, "385789fbb5d993c93e7e41f819cb6bbb473c086b3033b9651b7b135bdecca464"), looks := true }, kinds := [], alts := [], laidByText := true, laidKinds := [.sentinel], laidTests := true, laidLooks := .later }
def FnExactExpandPolynomialCardSaid : Prop := Claim7.holds Tryd.pinned (.plain (OpenSpec.ofChange fnExactExpandPolynomialSpec)) fnExactExpandPolynomialCard

/-- THE TIED CARD OF 'laws.FnExactSumOfExpansion'. -/
def fnExactSumOfExpansionCard : Claim7 := { stood := { row := fnExactSumOfExpansionRow, standIns := [], harness := (true, "385789fbb5d993c93e7e41f819cb6bbb473c086b3033b9651b7b135bdecca464"), looks := true }, kinds := [], alts := [], laidByText := true, laidKinds := [.sentinel], laidTests := true, laidLooks := .later }
def FnExactSumOfExpansionCardSaid : Prop := Claim7.holds Tryd.pinned (.plain (OpenSpec.ofChange fnExactSumOfExpansionSpec)) fnExactSumOfExpansionCard

/-- THE TIED CARD OF 'laws.FnExactKernelOf'. -/
def fnExactKernelOfCard : Claim7 := { stood := { row := fnExactKernelOfRow, standIns := [], harness := (true, "385789fbb5d993c93e7e41f819cb6bbb473c086b3033b9651b7b135bdecca464"), looks := true }, kinds := [], alts := [], laidByText := true, laidKinds := [.sentinel], laidTests := true, laidLooks := .later }
def FnExactKernelOfCardSaid : Prop := Claim7.holds Tryd.pinned (.plain (OpenSpec.ofChange fnExactKernelOfSpec)) fnExactKernelOfCard

/-- THE TIED CARD OF 'laws.FnExactKernelAt'. -/
def fnExactKernelAtCard : Claim7 := { stood := { row := fnExactKernelAtRow, standIns := [], harness := (true, "385789fbb5d993c93e7e41f819cb6bbb473c086b3033b9651b7b135bdecca464"), looks := true }, kinds := [], alts := [], laidByText := true, laidKinds := [.sentinel], laidTests := true, laidLooks := .later }
def FnExactKernelAtCardSaid : Prop := Claim7.holds Tryd.pinned (.plain (OpenSpec.ofChange fnExactKernelAtSpec)) fnExactKernelAtCard

/-- THE TIED CARD OF 'laws.FnExactReproduceAt'. -/
def fnExactReproduceAtCard : Claim7 := { stood := { row := fnExactReproduceAtRow, standIns := [], harness := (true, "385789fbb5d993c93e7e41f819cb6bbb473c086b3033b9651b7b135bdecca464"), looks := true }, kinds := [], alts := [], laidByText := true, laidKinds := [.sentinel], laidTests := true, laidLooks := .later }
def FnExactReproduceAtCardSaid : Prop := Claim7.holds Tryd.pinned (.plain (OpenSpec.ofChange fnExactReproduceAtSpec)) fnExactReproduceAtCard

/-- THE SECOND FORM's CARD OF 'laws.FnExactJacobiOfMoments'. -/
def fnExactJacobiOfMomentsUptoCard : Claim7 := { stood := { row := fnExactJacobiOfMomentsUptoRow, standIns := [], harness := (true, "385789fbb5d993c93e7e41f819cb6bbb473c086b3033b9651b7b135bdecca464"), looks := true }, kinds := [], alts := [], laidByText := true, laidKinds := [.sentinel], laidTests := true, laidLooks := .later }
def FnExactJacobiOfMomentsUptoCardSaid : Prop := Claim7.holds Tryd.pinned (.plain (OpenSpec.upto fnExactJacobiOfMomentsSpec)) fnExactJacobiOfMomentsUptoCard

/-- THE SECOND FORM's CARD OF 'laws.FnExactOrthogonalPolynomial'. -/
def fnExactOrthogonalPolynomialUptoCard : Claim7 := { stood := { row := fnExactOrthogonalPolynomialUptoRow, standIns := [], harness := (true, "385789fbb5d993c93e7e41f819cb6bbb473c086b3033b9651b7b135bdecca464"), looks := true }, kinds := [], alts := [], laidByText := true, laidKinds := [.sentinel], laidTests := true, laidLooks := .later }
def FnExactOrthogonalPolynomialUptoCardSaid : Prop := Claim7.holds Tryd.pinned (.plain (OpenSpec.upto fnExactOrthogonalPolynomialSpec)) fnExactOrthogonalPolynomialUptoCard

/-- THE SECOND FORM's CARD OF 'laws.FnExactNormOf'. -/
def fnExactNormOfUptoCard : Claim7 := { stood := { row := fnExactNormOfUptoRow, standIns := [], harness := (true, "385789fbb5d993c93e7e41f819cb6bbb473c086b3033b9651b7b135bdecca464"), looks := true }, kinds := [], alts := [], laidByText := true, laidKinds := [.sentinel], laidTests := true, laidLooks := .later }
def FnExactNormOfUptoCardSaid : Prop := Claim7.holds Tryd.pinned (.plain (OpenSpec.upto fnExactNormOfSpec)) fnExactNormOfUptoCard

/-- THE SECOND FORM's CARD OF 'laws.FnExactNormsOf'. -/
def fnExactNormsOfUptoCard : Claim7 := { stood := { row := fnExactNormsOfUptoRow, standIns := [], harness := (true, "385789fbb5d993c93e7e41f819cb6bbb473c086b3033b9651b7b135bdecca464"), looks := true }, kinds := [], alts := [], laidByText := true, laidKinds := [.sentinel], laidTests := true, laidLooks := .later }
def FnExactNormsOfUptoCardSaid : Prop := Claim7.holds Tryd.pinned (.plain (OpenSpec.upto fnExactNormsOfSpec)) fnExactNormsOfUptoCard

/-- THE SECOND FORM's CARD OF 'laws.FnExactExpandPolynomial'. -/
def fnExactExpandPolynomialUptoCard : Claim7 := { stood := { row := fnExactExpandPolynomialUptoRow, standIns := [], harness := (true, "385789fbb5d993c93e7e41f819cb6bbb473c086b3033b9651b7b135bdecca464"), looks := true }, kinds := [], alts := [], laidByText := true, laidKinds := [.sentinel], laidTests := true, laidLooks := .later }
def FnExactExpandPolynomialUptoCardSaid : Prop := Claim7.holds Tryd.pinned (.plain (OpenSpec.upto fnExactExpandPolynomialSpec)) fnExactExpandPolynomialUptoCard

/-- THE SECOND FORM's CARD OF 'laws.FnExactSumOfExpansion'. -/
def fnExactSumOfExpansionUptoCard : Claim7 := { stood := { row := fnExactSumOfExpansionUptoRow, standIns := [], harness := (true, "385789fbb5d993c93e7e41f819cb6bbb473c086b3033b9651b7b135bdecca464"), looks := true }, kinds := [], alts := [], laidByText := true, laidKinds := [.sentinel], laidTests := true, laidLooks := .later }
def FnExactSumOfExpansionUptoCardSaid : Prop := Claim7.holds Tryd.pinned (.plain (OpenSpec.upto fnExactSumOfExpansionSpec)) fnExactSumOfExpansionUptoCard

/-- THE SECOND FORM's CARD OF 'laws.FnExactKernelOf'. -/
def fnExactKernelOfUptoCard : Claim7 := { stood := { row := fnExactKernelOfUptoRow, standIns := [], harness := (true, "385789fbb5d993c93e7e41f819cb6bbb473c086b3033b9651b7b135bdecca464"), looks := true }, kinds := [], alts := [], laidByText := true, laidKinds := [.sentinel], laidTests := true, laidLooks := .later }
def FnExactKernelOfUptoCardSaid : Prop := Claim7.holds Tryd.pinned (.plain (OpenSpec.upto fnExactKernelOfSpec)) fnExactKernelOfUptoCard

/-- THE SECOND FORM's CARD OF 'laws.FnExactKernelAt'. -/
def fnExactKernelAtUptoCard : Claim7 := { stood := { row := fnExactKernelAtUptoRow, standIns := [], harness := (true, "385789fbb5d993c93e7e41f819cb6bbb473c086b3033b9651b7b135bdecca464"), looks := true }, kinds := [], alts := [], laidByText := true, laidKinds := [.sentinel], laidTests := true, laidLooks := .later }
def FnExactKernelAtUptoCardSaid : Prop := Claim7.holds Tryd.pinned (.plain (OpenSpec.upto fnExactKernelAtSpec)) fnExactKernelAtUptoCard

/-- THE SECOND FORM's CARD OF 'laws.FnExactReproduceAt'. -/
def fnExactReproduceAtUptoCard : Claim7 := { stood := { row := fnExactReproduceAtUptoRow, standIns := [], harness := (true, "385789fbb5d993c93e7e41f819cb6bbb473c086b3033b9651b7b135bdecca464"), looks := true }, kinds := [], alts := [], laidByText := true, laidKinds := [.sentinel], laidTests := true, laidLooks := .later }
def FnExactReproduceAtUptoCardSaid : Prop := Claim7.holds Tryd.pinned (.plain (OpenSpec.upto fnExactReproduceAtSpec)) fnExactReproduceAtUptoCard
end Rows
end Go.Proofs.YtdjifjlgllohmaaDoor
