/- Merged texts. -/
import Derived.Test.YtkpmonopjkjflaaYC14
import Derived.Test.YtkpmonopjkjflaaYC12
import Derived.StillTailTactics
import Derived.IntWalk
import Derived.Deep.RegionWith
import Derived.Deep.RegionHeld3
import Derived.Deep.CutBlock
import Derived.Deep.DeepCutAuto
import Derived.Deep.LoopGhost
import Derived.Test.YtkpmonopjkjflaaYC11
/- Contracts: ShiftMoments, CutMoments (program and model). -/
namespace Go.Proofs.Ytkpmonopjkjflaa
open Go.RowKit
set_option linter.unusedVariables false
set_option linter.unusedSimpArgs false

/-- The two results of a call: moments and a code. -/
def ResM (w : World) (q : Int) (v : List Int) (c : Int) (e : Ending) (w' : World) : Prop :=
  ∃ a cap, e = .returned (.tuple #[mom q a v.length cap, .int .i64 c]) ∧ OZ w.heap.size w'.heap.size w' a v.length cap v ∧ v.length ≤ 100000 ∧ Below w.heap.size w w'
theorem ResM.nil {w w' : World} {q : Int} {v : List Int} {c c' : Int} (hq : q = 0) (hv : v = []) (hc : c = c') (hb : Below w.heap.size w w') : ResM w q v c (.returned (.tuple #[mom 0 none 0 0, .int .i64 c'])) w' := by
  subst hv; subst hc; subst hq
  exact ⟨none, 0, rfl, ⟨SL.nil _, .inl rfl⟩, by simp, hb⟩
theorem ResM.own {w w' : World} {q q' : Int} {v : List Int} {c c' : Int} {a : Option Addr} {n cap : Nat} (hq : q = q') (hc : c = c') (hn : n = v.length) (ho : Own w.heap.size w' a cap v) (hl : v.length ≤ 100000) (hb : Below w.heap.size w w') : ResM w q v c (.returned (.tuple #[mom q' a n cap, .int .i64 c'])) w' := by
  subst hc; subst hn; subst hq
  exact ⟨a, cap, rfl, OZ.of ho rfl, hl, hb⟩
theorem SL.dropS {w : World} {b off n c : Nat} {xs : List Int} (h : SL w (some ⟨b, off, none⟩) n c xs) (k : Nat) (hk : k ≤ n) : SL w (some ⟨b, off + k, none⟩) (n - k) (c - k) (xs.drop k) := by
  obtain ⟨h1, ⟨h2, h2'⟩, h3⟩ := h
  refine ⟨by simp; omega, ⟨by omega, fun h => by cases h⟩, ?_⟩
  rcases h3 with h3 | ⟨b', off', he, hc⟩
  · exact .inl (by omega)
  · simp only [Option.some.injEq, Addr.mk.injEq, and_true] at he
    obtain ⟨rfl, rfl⟩ := he
    refine .inr ⟨b, off + k, rfl, fun j hj => ?_⟩
    rw [show off + k + j = off + (k + j) by omega, hc (k + j) (by omega)]
    simp
def shmC (p : Int) (xs : List Int) : Int := if momB p xs then (if xs.length = 1 then 5 else 0) else 1
def shmV (p : Int) (xs : List Int) : List Int := if shmC p xs = 0 then xs.drop 1 else []
def shmP (p : Int) (xs : List Int) : Int := if shmC p xs = 0 then p else 0
def cutC (p : Int) (xs : List Int) (k : Int) : Int := if momB p xs then (if 1 ≤ k ∧ k ≤ (xs.length : Int) then 0 else 2) else 1
def cutV (p : Int) (xs : List Int) (k : Int) : List Int := if cutC p xs k = 0 then xs.take k.toNat else []
def cutP (p : Int) (xs : List Int) (k : Int) : Int := if cutC p xs k = 0 then p else 0
end Go.Proofs.Ytkpmonopjkjflaa
/- Lists of lists in a law: eqInt64SS. -/
namespace Go.Proofs.Ytkpmonopjkjflaa
open Go.RowKit
set_option linter.unusedVariables false
set_option linter.unusedSimpArgs false

set_option maxHeartbeats 1600000 in
theorem eqSS_none (a b : Option Addr) (c d : Nat) (w : World) :
    Calls Try.prog 27 #[.slice a 0 c, .slice b 0 d] w fun e w' => e = .returned (.bool true) ∧ Below w.heap.size w w' := by
  go_enter Try.func27, Try.ntmps27
  go_wp2
  refine wp_loop_rounds 1 ?_
  rw [rounds_succ]
  go_wp2
  go_ret
  exact ⟨rfl, Below.refl _ _⟩
set_option maxRecDepth 100000 in
set_option maxHeartbeats 1600000 in
/-- Equal lists of lists are found equal. -/
theorem eqSS (g1 g2 n c d : Nat) (A A' : Nat → Option Addr) (L C C' : Nat → Nat) (X : Nat → List Int) (w : World) (h1 : Lists w g1 n A L C X) (h2 : Lists w g2 n A' L C' X) (hn : n ≤ 4000000) :
    Calls Try.prog 27 #[.slice (some ⟨g1, 0, none⟩) n c, .slice (some ⟨g2, 0, none⟩) n d] w fun e w' => e = .returned (.bool true) ∧ Below w.heap.size w w' := by
  have H1 := hide h1
  have H2 := hide h2
  clear h1 h2
  go_enter Try.func27, Try.ntmps27
  go_wp2
  go_loopw [5] (fun i wr => ∃ k : Nat, k ≤ n ∧ i = .int .i64 k ∧ Below w.heap.size w wr) (fun i _ => n - (intOf i).toNat)
  case atStart => exact ⟨0, by omega, rfl, Below.refl _ _⟩
  case round =>
    obtain ⟨k, hk, rfl, hbr⟩ := hrel
    by_cases hlt : k < n
    · obtain ⟨e1, s1, l1⟩ := H1.out.below hbr k hlt
      obtain ⟨e2, s2, l2⟩ := H2.out.below hbr k hlt
      have S1 := hide s1
      have S2 := hide s2
      clear s1 s2
      have hlt' : (k : Int) < (n : Int) := by omega
      have F : ∀ w', Below wr.heap.size wr w' → w'.cell? ⟨g1, k, none⟩ = some (.slice (A k) (L k) (C k)) ∧ w'.cell? ⟨g2, k, none⟩ = some (.slice (A' k) (L k) (C' k)) := fun w' h => ⟨cell_be h e1, cell_be h e2⟩
      have hbd : Below wr.heap.size wr wr.drew := (Below.refl _ _).drew
      go_upto_region 6 with fail
      go_region_held3 (fun w' => w'.cell? ⟨g1, k, none⟩ = some (.slice (A k) (L k) (C k)) ∧ w'.cell? ⟨g2, k, none⟩ = some (.slice (A' k) (L k) (C' k)))
        (exact F _ (by assumption))
        (first | (go_at_call 26; refine (eqI _ _ _ _ _ _ _ (S1.out.below hbd) (S2.out.below hbd) l1).mono ?_; rintro e w2 ⟨rfl, hb2⟩; have hm2 := bnext hbd hb2))
      have hB := bnext hbr hm2
      clear F
      go_wp2
      go_roundw
      case rel => exact ⟨k + 1, by omega, by go_num, hB⟩
      case measure => simp [intOf]; omega
    · obtain rfl : k = n := by omega
      go_wp2
      go_ret
      exact ⟨rfl, hbr⟩
end Go.Proofs.Ytkpmonopjkjflaa
