/- Contracts of the laws' helpers on moments: toMoments, szMoments, eqMoments, markMoments, heldMoments. -/
import Derived.Test.YtgaafhcnfeipbaaOz
import Derived.Deep.QuietTactic
import Derived.BigQuiet
import Derived.Deep.RegionWith
import Derived.Deep.RegionHeld3
namespace Go.Proofs.Ytgaafhcnfeipbaa
open Go.RowKit
set_option linter.unusedVariables false
set_option linter.unusedSimpArgs false

theorem row_len {w : World} {a : Option Addr} {len cap : Nat} {zs : List Int} (h : (a = none ∧ len = 0 ∧ cap = 0 ∧ zs = []) ∨
    ∃ x, a = some x ∧ len ≤ cap ∧ cap ≤ maxLen ∧ zs.length = cap ∧ (∀ i, i < zs.length → w.cell? (x.add i) = some (.int .i64 (zs.getD i 0))) ∧ ∀ n ∈ zs, (Lit.int .i64 n).wf = true) : len ≤ 9223372036854775807 := by
  rcases h with ⟨_, rfl, _⟩ | ⟨x, _, h1, h2, _⟩
  · omega
  · unfold maxLen at h2; omega
theorem cell_gr {w w' : World} {row : Option Nat} {lo hi b o : Nat} {v : Value} (hg : w.grownBy w' row) (hr : ∀ g, row = some g → lo ≤ g ∧ g < hi) (h : w.cell? ⟨b, o, none⟩ = some v) (hb : b < lo ∨ hi ≤ b) : w'.cell? ⟨b, o, none⟩ = some v :=
  (World.cell?_of_block (w := w) (hg.block b (World.block_lt_of_cell? w _ h) (fun e => by have := hr b e.symm; omega))).trans h
/-- Moments as a value. -/
abbrev mom (p : Int) (a : Option Addr) (n c : Nat) : Value := .agg #[.int .i64 p, .slice a n c]
theorem Own.setLow {B : Nat} {w : World} {a : Option Addr} {c : Nat} {ys : List Int} (h : Own B w a c ys) {x : Addr} (hx : x.block < B) (u : Value) : Own B (w.setCell x u) a c ys := ownsRow_setCell_below h hx u
set_option maxHeartbeats 800000 in
theorem szI (a : Option Addr) (n c : Nat) (k : Int) (w : World) (hn : n ≤ 4000000) (hk0 : 0 ≤ k) (hk1 : k ≤ 4000000) :
    Calls Try.prog 51 #[.slice a n c, .int .i64 k] w fun e w' => e = .returned (.int .i64 (if k < n then -1 else k - n)) ∧ w = w' := by
  by_cases h : k < (n : Int)
  · have H : Hid ((if k < (n : Int) then (-1 : Int) else k - n) = -1) := Lib.hid (if_pos h)
    go_enter Try.func51, Try.ntmps51
    go_wp2
    go_ret
    exact ⟨rfl, rfl⟩
  · have H : Hid ((if k < (n : Int) then (-1 : Int) else k - n) = k - n) := Lib.hid (if_neg h)
    go_enter Try.func51, Try.ntmps51
    go_wp2
    go_ret
    exact ⟨rfl, rfl⟩
end Go.Proofs.Ytgaafhcnfeipbaa
