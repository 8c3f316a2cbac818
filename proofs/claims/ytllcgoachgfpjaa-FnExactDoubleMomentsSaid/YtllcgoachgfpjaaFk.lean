/- Contract: findData (program). -/
import Derived.Test.YtllcgoachgfpjaaFj
import Derived.Test.YtllcgoachgfpjaaJc
import Derived.Test.YtllcgoachgfpjaaRc
import Derived.Test.YtllcgoachgfpjaaDp
import Derived.Test.YtllcgoachgfpjaaMp
import Derived.Test.YtllcgoachgfpjaaWa
import Derived.BigRegion
import Derived.StillTailTactics
import Derived.IntWalk
namespace Go.Proofs.Ytllcgoachgfpjaa
open Go.RowKit
set_option linter.unusedVariables false
set_option linter.unusedSimpArgs false

theorem zrow_at (W : World) (n g : Nat) (h : g = W.heap.size) : RowI (W.alloc (.cells (zrow n) 2)) g (List.replicate n 0) := by
  subst h
  have := zrow_row W n
  rwa [← tab_zero] at this
theorem SL.other {w : World} {a : Option Addr} {n c g j : Nat} {xs : List Int} (h : SL w a n c xs) (hne : blk a ≠ some g) (u : Value) : SL (w.setCell ⟨g, j, none⟩ u) a n c xs := by
  obtain ⟨h1, h2, h3⟩ := h
  refine ⟨h1, h2, ?_⟩
  rcases h3 with h3 | ⟨b, off, rfl, hc⟩
  · exact .inl h3
  · exact .inr ⟨b, off, rfl, fun i hi => cell_set2 (hc i hi) (fun e => hne (by simp at e; simp [blk, e])) u⟩
theorem SL.blk_lt {w : World} {a : Option Addr} {n c : Nat} {xs : List Int} (h : SL w a n c xs) (hn : 0 < n) : ∀ g, blk a = some g → g < w.heap.size := fun g hg => by
  obtain ⟨b, off, rfl, hb, _⟩ := h.at hn
  cases hg
  exact hb
def fdC (p : Int) (f g : List Int) (n : Nat) : Int := if fjB p f g n = true then 0 else 5
def fdP (p : Int) (f g : List Int) (n : Nat) : Int := if fdC p f g n = 0 then p else 0
def fdV (p : Int) (f g : List Int) (n : Nat) : List Int := if fdC p f g n = 0 then tab n (fjA p f g n) else []
def fdU (p : Int) (f g : List Int) (b : Int) (n : Nat) : List Int := if fdC p f g n = 0 then tab n (fjE p f g b n) else []
end Go.Proofs.Ytllcgoachgfpjaa
