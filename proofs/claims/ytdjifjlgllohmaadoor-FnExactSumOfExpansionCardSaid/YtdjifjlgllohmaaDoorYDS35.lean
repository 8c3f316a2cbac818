/- Merged texts. -/
import Derived.Test.YtdjifjlgllohmaaDoorYDS2
import Derived.Test.YtdjifjlgllohmaaDoorYDS1
import Derived.Test.YtdjifjlgllohmaaDoorYDS18
import Derived.Deep.RegionHeld3
/- Lists of lists in a law: eqInt64SS. -/
namespace Go.Proofs.YtdjifjlgllohmaaDoor
open Go.RowKit
set_option linter.unusedVariables false
set_option linter.unusedSimpArgs false

end Go.Proofs.YtdjifjlgllohmaaDoor
/- Lists of lists in a law: markInt64S on a part of a block. -/
namespace Go.Proofs.YtdjifjlgllohmaaDoor
open Go.RowKit
set_option linter.unusedVariables false
set_option linter.unusedSimpArgs false

theorem cell_setP {w : World} {b o o' : Nat} {v : Value} (h : w.cell? ⟨b, o, none⟩ = some v) (hne : o' ≠ o) (u : Value) : (w.setCell ⟨b, o', none⟩ u).cell? ⟨b, o, none⟩ = some v :=
  (World.cell?_setCell_other _ _ _ _ (fun e => hne (by simpa using congrArg Addr.off e))).trans h
/-- Of n numbers from off on in the block b the first k are marks; nothing else has changed. -/
structure MkP (w wr : World) (b off n k : Nat) (k0 : Int) : Prop where
  done : ∀ j, j < k → wr.cell? ⟨b, off + j, none⟩ = some (.int .i64 (k0 + j))
  rest : ∀ j, k ≤ j → j < n → ∃ v, wr.cell? ⟨b, off + j, none⟩ = some v
  free : ∀ j, j < n → wr.frozen? ⟨b, off + j, none⟩ = false
  other : ∀ p : Addr, (∀ j, j < n → p ≠ ⟨b, off + j, none⟩) → wr.cell? p = w.cell? p ∧ wr.frozen? p = w.frozen? p
  size : wr.heap.size = w.heap.size
  gr : w.grownBy wr (some b)
theorem MkP.step {w wr : World} {b off n k : Nat} {k0 : Int} (h : MkP w wr b off n k k0) (hk : k < n) : MkP w (wr.setCell ⟨b, off + k, none⟩ (.int .i64 (k0 + k))) b off n (k + 1) k0 := by
  obtain ⟨v, hv⟩ := h.rest k (Nat.le_refl _) hk
  refine ⟨fun j hj => ?_, fun j hj hn => ?_, fun j hj => by simpa using h.free j hj, fun p hp => ⟨?_, ?_⟩, by simpa using h.size, grown_trans h.gr ⟨rfl, rfl, rfl, by simp, fun k _ hk => Below.heap_setCell _ _ _ _ (fun e => hk (by rw [e]))⟩⟩
  · by_cases e : j = k
    · subst e; exact World.cell?_setCell_same _ _ _ hv
    · exact cell_setP (h.done j (by omega)) (by omega) _
  · obtain ⟨u, hu⟩ := h.rest j (by omega) hn
    exact ⟨u, cell_setP hu (by omega) _⟩
  · rw [← (h.other p hp).1]
    exact World.cell?_setCell_other _ _ _ _ (fun e => hp k hk (by first | exact e | exact e.symm))
  · rw [← (h.other p hp).2]
    simp
set_option maxHeartbeats 800000 in
theorem markPart (b off n c : Nat) (k0 : Int) (w : World) (hc : ∀ j, j < n → ∃ v, w.cell? ⟨b, off + j, none⟩ = some v) (hf : ∀ j, j < n → w.frozen? ⟨b, off + j, none⟩ = false) (hn : n ≤ 4000000) (hk0 : 0 ≤ k0) (hk1 : k0 ≤ 1000000000000) :
    Calls Tryd.prog 24 #[.slice (some ⟨b, off, none⟩) n c, .int .i64 k0] w fun e w' => e = .returned (.int .i64 (k0 + n)) ∧ MkP w w' b off n n k0 := by
  have h0 : Hid (MkP w w b off n 0 k0) := hide ⟨fun j hj => by omega, fun j _ hj => hc j hj, hf, fun p _ => ⟨rfl, rfl⟩, rfl, grown_refl _ _⟩
  clear hc hf
  go_enter Tryd.func24, Tryd.ntmps24
  go_wp2
  go_loopw [1, 5] (fun q i wr => ∃ k : Nat, k ≤ n ∧ i = .int .i64 k ∧ q = .int .i64 (k0 + k) ∧ Hid (MkP w wr b off n k k0)) (fun _ i _ => n - (intOf i).toNat)
  case atStart => exact ⟨0, by omega, rfl, by simp, h0⟩
  case round =>
    obtain ⟨k, hk, rfl, rfl, hR⟩ := hrel
    clear h0
    by_cases hlt : k < n
    · obtain ⟨v, hcx⟩ := hR.out.rest k (Nat.le_refl _) hlt
      have hff := hR.out.free k hlt
      have hset := hide (hR.out.step hlt)
      go_wp2
      go_roundw
      case rel => exact ⟨k + 1, by omega, by go_num, by go_num, hset⟩
      case measure => simp [intOf]; omega
    · obtain rfl : k = n := by omega
      go_wp2
      go_ret
      exact ⟨rfl, hR.out⟩
end Go.Proofs.YtdjifjlgllohmaaDoor
