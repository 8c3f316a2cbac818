/- Merged texts. -/
import Derived.Test.YtkpmonopjkjflaaYC129
/- Facts for the law of ConvergentsOf. -/
namespace Go.Proofs.Ytkpmonopjkjflaa
open Go.RowKit
set_option linter.unusedVariables false
set_option linter.unusedSimpArgs false

theorem szF_ok {n : Nat} {X : Nat → List Int} {k : Int} (h : ¬ szF n X k < 0) : (n : Int) + (tot X n : Nat) ≤ k := by
  unfold szF at h
  by_cases q : k < (n : Int) + (tot X n : Nat)
  · rw [if_pos q] at h; omega
  · omega
theorem ZL.listsAt {lo hi n c g : Nat} {w : World} {X : Nat → List Int} (h : ZL lo hi w (some ⟨g, 0, none⟩) n c X) (hX : ∀ i, i < n → (X i).length ≤ 1048576) : ∃ A C, Lists w g n A (fun i => (X i).length) C X := by
  rcases h with h | ⟨g', A, C, e, h⟩
  · subst h
    exact ⟨fun _ => none, fun _ => 0, fun j hj => by omega⟩
  · cases e
    exact ⟨A, C, h.listsN hX⟩
theorem cv_short {p : Int} {X : Nat → List Int} {n : Nat} : cvN p X n ≤ 24 ∧ (∀ i, i < cvN p X n → (cvA p X i).length ≤ 1000) ∧ ∀ i, i < cvN p X n → (cvD p X i).length ≤ 1000 := by
  unfold cvN
  by_cases h : cvC p X n = 0
  · rw [if_pos h]
    unfold cvC at h
    by_cases h0 : chkC p X n = 0
    · rw [if_pos h0] at h
      by_cases h1 : 24 < n
      · rw [if_pos h1] at h; omega
      · rw [if_neg h1] at h
        cases hb : (cvB p X [] [1] n && cvB p X [1] [] n)
        · rw [hb] at h; simp at h
        · rw [Bool.and_eq_true] at hb
          refine ⟨by omega, fun i hi => ?_, fun i hi => ?_⟩
          · by_cases q : (cvR p X [] [1] i).length ≤ 25
            · exact Nat.le_trans q (by omega)
            · rw [cvB_false hi q] at hb; cases hb.1
          · by_cases q : (cvR p X [1] [] i).length ≤ 25
            · exact Nat.le_trans q (by omega)
            · rw [cvB_false hi q] at hb; cases hb.2
    · rw [if_neg h0] at h; exact absurd h h0
  · rw [if_neg h]
    exact ⟨by omega, fun i hi => by omega, fun i hi => by omega⟩
theorem specCv {p : Int} {g n cq : Nat} {QA : Nat → Option Addr} {QL QC : Nat → Nat} {X : Nat → List Int} {w : World} {RA RD : Nat → List Int} {N : Nat} {c : Int} (hA : cvA p X = RA) (hD : cvD p X = RD) (hN : cvN p X n = N) (hC : cvC p X n = c) (hs : Lists w g n QA QL QC X) (hn : n ≤ 4000000) :
    Calls Try.prog 31 #[.int .i64 p, .slice (some ⟨g, 0, none⟩) n cq] w (ResL2 w RA RD N c) := by
  subst hA hD hN hC
  exact specConvergentsOf p g n cq QA QL QC X w hs hn
theorem implCv {p : Int} {g n cq : Nat} {QA : Nat → Option Addr} {QL QC : Nat → Nat} {X : Nat → List Int} {w : World} {RA RD : Nat → List Int} {N : Nat} {c : Int} (hA : cvA p X = RA) (hD : cvD p X = RD) (hN : cvN p X n = N) (hC : cvC p X n = c) (hs : Lists w g n QA QL QC X) (hn : n ≤ 4000000) :
    Calls Try.prog 32 #[.int .i64 p, .slice (some ⟨g, 0, none⟩) n cq] w (ResLL w RA RD N c) := by
  subst hA hD hN hC
  exact implConvergentsOf p g n cq QA QL QC X w hs hn
end Go.Proofs.Ytkpmonopjkjflaa
