/- Contracts of the laws' helpers on moments: toMoments, szMoments, eqMoments, markMoments, heldMoments. -/
import Derived.Test.YtpoabedlcljibaaOz
import Derived.Deep.QuietTactic
import Derived.BigQuiet
import Derived.Deep.RegionWith
import Derived.Deep.RegionHeld3
namespace Go.Proofs.Ytpoabedlcljibaa
open Go.RowKit
set_option linter.unusedVariables false
set_option linter.unusedSimpArgs false

theorem row_len {w : World} {a : Option Addr} {len cap : Nat} {zs : List Int} (h : (a = none ∧ len = 0 ∧ cap = 0 ∧ zs = []) ∨
    ∃ x, a = some x ∧ len ≤ cap ∧ cap ≤ maxLen ∧ zs.length = cap ∧ (∀ i, i < zs.length → w.cell? (x.add i) = some (.int .i64 (zs.getD i 0))) ∧ ∀ n ∈ zs, (Lit.int .i64 n).wf = true) : len ≤ 9223372036854775807 := by
  rcases h with ⟨_, rfl, _⟩ | ⟨x, _, h1, h2, _⟩
  · omega
  · unfold maxLen at h2; omega
theorem cell_gr {w w' : World} {row : Option Nat} {lo hi b o : Nat} {v : Value} (hg : w.grownBy w' row) (hr : ∀ g, row = some g → lo ≤ g ∧ g < hi) (h : w.cell? ⟨b, o, none⟩ = some v) (hb : b < lo ∨ hi ≤ b) : w'.cell? ⟨b, o, none⟩ = some v :=
  (World.cell?_of_block (w := w) (hg.block b (World.block_lt_of_cell? w _ h) (fun e => by have := hr b e.symm; omega))).trans h
/-- Moments as a value. -/
abbrev mom (p : Int) (a : Option Addr) (n c : Nat) : Value := .agg #[.int .i64 p, .slice a n c]
theorem Own.setLow {B : Nat} {w : World} {a : Option Addr} {c : Nat} {ys : List Int} (h : Own B w a c ys) {x : Addr} (hx : x.block < B) (u : Value) : Own B (w.setCell x u) a c ys := ownsRow_setCell_below h hx u
set_option maxRecDepth 100000 in
set_option maxHeartbeats 800000 in
theorem toM (p : Int) (a : Option Addr) (n c : Nat) (xs : List Int) (w : World) (hs : SL w a n c xs) (hn : n ≤ 1048576) :
    Calls Try.prog 31 #[mom p a n c] w fun e w' => ∃ a', e = .returned (mom p a' n n) ∧ Own w.heap.size w' a' n xs ∧ Below w.heap.size w w' := by
  have hb0 := bl3 w (.cells #[.int .i64 p, .slice a n c] 33) (.cells #[.int .i64 0, .slice none 0 0] 24) (.cells #[.int .i64 p, .slice none 0 0] 24)
  have hs3 := hs.below hb0
  have hz0 := hb0.size
  go_enter Try.func31, Try.ntmps31
  go_wp2_with fail
  refine (toI _ _ _ _ _ hs3 hn).mono ?_
  rintro e w1 ⟨a', rfl, ho, hb1⟩
  have hz1 : w.heap.size + 2 < w1.heap.size := by have := hb1.size; simp at this; omega
  obtain ⟨hc1, hf1⟩ := bcell hb1
  have hB1 := bnext hb0 hb1
  go_wp2
  refine bodyPost_ret (v := mom p a' n n) (by simp [results, Try.results31, go_sem, hc1, hf1]) rfl ⟨a', rfl, ?_, ?_⟩
  · exact (((ho.setLow (by simp) _).setLow (by simp) _).setLow (by simp) _).mono hz0
  · exact ((hB1.setCell (by simp; omega) _).setCell (by simp) _).setCell (by simp) _
set_option maxHeartbeats 800000 in
theorem szI (a : Option Addr) (n c : Nat) (k : Int) (w : World) (hn : n ≤ 4000000) (hk0 : 0 ≤ k) (hk1 : k ≤ 4000000) :
    Calls Try.prog 27 #[.slice a n c, .int .i64 k] w fun e w' => e = .returned (.int .i64 (if k < n then -1 else k - n)) ∧ w = w' := by
  by_cases h : k < (n : Int)
  · have H : Hid ((if k < (n : Int) then (-1 : Int) else k - n) = -1) := Lib.hid (if_pos h)
    go_enter Try.func27, Try.ntmps27
    go_wp2
    go_ret
    exact ⟨rfl, rfl⟩
  · have H : Hid ((if k < (n : Int) then (-1 : Int) else k - n) = k - n) := Lib.hid (if_neg h)
    go_enter Try.func27, Try.ntmps27
    go_wp2
    go_ret
    exact ⟨rfl, rfl⟩
set_option maxRecDepth 100000 in
set_option maxHeartbeats 800000 in
theorem szM (p : Int) (a : Option Addr) (n c : Nat) (k : Int) (w : World) (hn : n ≤ 4000000) (hk0 : 0 ≤ k) (hk1 : k ≤ 4000000) (h : (n : Int) ≤ k) :
    Calls Try.prog 25 #[mom p a n c, .int .i64 k] w fun e w' => e = .returned (.int .i64 (k - n)) ∧ Below w.heap.size w w' := by
  have H : Hid ((if k < (n : Int) then (-1 : Int) else k - n) = k - n) := Lib.hid (if_neg (by omega))
  go_enter Try.func25, Try.ntmps25
  go_wp2_with fail
  refine (szI _ _ _ _ _ hn hk0 hk1).mono ?_
  rintro e w1 ⟨rfl, rfl⟩
  rw [H.out]
  go_wp2
  go_ret
  exact ⟨rfl, bl1 _ _⟩
set_option maxRecDepth 100000 in
set_option maxHeartbeats 800000 in
theorem szM_no (p : Int) (a : Option Addr) (n c : Nat) (k : Int) (w : World) (hn : n ≤ 9223372036854775807) (hk0 : 0 ≤ k) (hk1 : k ≤ 4000000) (h : k < (n : Int)) :
    Calls Try.prog 25 #[mom p a n c, .int .i64 k] w fun e w' => e = .returned (.int .i64 (-1)) ∧ Below w.heap.size w w' := by
  go_enter Try.func25, Try.ntmps25
  go_wp2_with (first | go_in)
  go_ret
  exact ⟨rfl, bl1 _ _⟩
set_option maxRecDepth 100000 in
set_option maxHeartbeats 800000 in
theorem eqM (p : Int) (a b : Option Addr) (n c d : Nat) (xs : List Int) (w : World) (h1 : SL w a n c xs) (h2 : SL w b n d xs) (hn : n ≤ 4000000) :
    Calls Try.prog 16 #[mom p a n c, mom p b n d] w fun e w' => e = .returned (.bool true) ∧ Below w.heap.size w w' := by
  have hb0 := bl2 w (.cells #[.int .i64 p, .slice a n c] 24) (.cells #[.int .i64 p, .slice b n d] 24)
  have g1 := h1.below hb0
  have g2 := h2.below hb0
  go_enter Try.func16, Try.ntmps16
  go_wp2_with fail
  refine (eqI _ _ _ _ _ _ _ g1 g2 hn).mono ?_
  rintro e w1 ⟨rfl, hb1⟩
  go_wp2
  go_ret
  exact ⟨rfl, bnext hb0 hb1⟩
set_option maxRecDepth 100000 in
set_option maxHeartbeats 800000 in
theorem markM (lo hi : Nat) (p : Int) (a : Option Addr) (n c : Nat) (ys : List Int) (k0 : Int) (w : World) (h1 : OZ lo hi w a n c ys) (hn : n ≤ 4000000) (hk0 : 0 ≤ k0) (hk1 : k0 ≤ 1000000000000) :
    Calls Try.prog 19 #[mom p a n c, .int .i64 k0] w fun e w' => e = .returned (.int .i64 (k0 + n)) ∧ OZ lo hi w' a n c (marks k0 n) ∧ ∃ row, w.grownBy w' row ∧ ∀ g, row = some g → lo ≤ g ∧ g < hi := by
  have hb0 := bl1 w (.cells #[.int .i64 p, .slice a n c] 24)
  have g1 := h1.below hb0
  have hg0 := World.grownBy_alloc w (.cells #[.int .i64 p, .slice a n c] 24)
  go_enter Try.func19, Try.ntmps19
  go_wp2_with fail
  refine (markZ _ _ _ _ _ _ _ _ g1 hn hk0 hk1).mono ?_
  rintro e w1 ⟨rfl, ho, row, gr, hr⟩
  go_wp2
  go_ret
  exact ⟨rfl, ho, row, grown_trans (hg0 _) gr, hr⟩
set_option maxRecDepth 100000 in
set_option maxHeartbeats 800000 in
theorem heldM (p : Int) (a : Option Addr) (n c : Nat) (k0 : Int) (w : World) (h1 : SL w a n c (marks k0 n)) (hn : n ≤ 4000000) (hk0 : 0 ≤ k0) (hk1 : k0 ≤ 1000000000000) :
    Calls Try.prog 22 #[mom p a n c, .int .i64 k0] w fun e w' => e = .returned (.int .i64 (k0 + n)) ∧ Below w.heap.size w w' := by
  have hb0 := bl1 w (.cells #[.int .i64 p, .slice a n c] 24)
  have g1 := h1.below hb0
  have hpos : ¬ k0 + (n : Int) < 0 := by omega
  go_enter Try.func22, Try.ntmps22
  go_wp2_with fail
  refine (heldI _ _ _ _ _ g1 hn hk0 hk1).mono ?_
  rintro e w1 ⟨rfl, rfl⟩
  go_wp2
  go_ret
  exact ⟨rfl, hb0⟩
end Go.Proofs.Ytpoabedlcljibaa
