/- Lists of lists in a law: eqInt64SS. -/
import Derived.Test.YtcadiepghhnbeaaPc
import Derived.Test.YtcadiepghhnbeaaGl
import Derived.Test.YtcadiepghhnbeaaSm
import Derived.Deep.RegionHeld3
namespace Go.Proofs.Ytcadiepghhnbeaa
open Go.RowKit
set_option linter.unusedVariables false
set_option linter.unusedSimpArgs false

set_option maxHeartbeats 1600000 in
theorem eqSS_none (a b : Option Addr) (c d : Nat) (w : World) :
    Calls Try.prog 30 #[.slice a 0 c, .slice b 0 d] w fun e w' => e = .returned (.bool true) ∧ Below w.heap.size w w' := by
  go_enter Try.func30, Try.ntmps30
  go_wp2
  refine wp_loop_rounds 1 ?_
  rw [rounds_succ]
  go_wp2
  go_ret
  exact ⟨rfl, Below.refl _ _⟩
set_option maxRecDepth 100000 in
set_option maxHeartbeats 1600000 in
/-- Equal lists of lists are found equal. -/
theorem eqSS (g1 g2 n c d : Nat) (A A' : Nat → Option Addr) (L C C' : Nat → Nat) (X : Nat → List Int) (w : World) (h1 : Lists w g1 n A L C X) (h2 : Lists w g2 n A' L C' X) (hn : n ≤ 4000000) :
    Calls Try.prog 30 #[.slice (some ⟨g1, 0, none⟩) n c, .slice (some ⟨g2, 0, none⟩) n d] w fun e w' => e = .returned (.bool true) ∧ Below w.heap.size w w' := by
  have H1 := hide h1
  have H2 := hide h2
  clear h1 h2
  go_enter Try.func30, Try.ntmps30
  go_wp2
  go_loopw [5] (fun i wr => ∃ k : Nat, k ≤ n ∧ i = .int .i64 k ∧ Below w.heap.size w wr) (fun i _ => n - (intOf i).toNat)
  case atStart => exact ⟨0, by omega, rfl, Below.refl _ _⟩
  case round =>
    obtain ⟨k, hk, rfl, hbr⟩ := hrel
    by_cases hlt : k < n
    · obtain ⟨e1, s1, l1⟩ := H1.out.below hbr k hlt
      obtain ⟨e2, s2, l2⟩ := H2.out.below hbr k hlt
      have S1 := hide s1
      have S2 := hide s2
      clear s1 s2
      have hlt' : (k : Int) < (n : Int) := by omega
      have F : ∀ w', Below wr.heap.size wr w' → w'.cell? ⟨g1, k, none⟩ = some (.slice (A k) (L k) (C k)) ∧ w'.cell? ⟨g2, k, none⟩ = some (.slice (A' k) (L k) (C' k)) := fun w' h => ⟨cell_be h e1, cell_be h e2⟩
      have hbd : Below wr.heap.size wr wr.drew := (Below.refl _ _).drew
      go_upto_region 6 with fail
      go_region_held3 (fun w' => w'.cell? ⟨g1, k, none⟩ = some (.slice (A k) (L k) (C k)) ∧ w'.cell? ⟨g2, k, none⟩ = some (.slice (A' k) (L k) (C' k)))
        (exact F _ (by assumption))
        (first | (go_at_call 18; refine (eqI _ _ _ _ _ _ _ (S1.out.below hbd) (S2.out.below hbd) l1).mono ?_; rintro e w2 ⟨rfl, hb2⟩; have hm2 := bnext hbd hb2))
      have hB := bnext hbr hm2
      clear F
      go_wp2
      go_roundw
      case rel => exact ⟨k + 1, by omega, by go_num, hB⟩
      case measure => simp [intOf]; omega
    · obtain rfl : k = n := by omega
      go_wp2
      go_ret
      exact ⟨rfl, hbr⟩
end Go.Proofs.Ytcadiepghhnbeaa
