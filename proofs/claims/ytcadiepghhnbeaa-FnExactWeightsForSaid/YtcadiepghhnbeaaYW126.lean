/- Merged texts. -/
import Derived.Test.YtcadiepghhnbeaaYW114
import Derived.Test.YtcadiepghhnbeaaYW118
import Derived.Test.YtcadiepghhnbeaaYW16
/- Contracts of the laws' helpers on rules: toRule, szRule, eqRule, markRule, heldRule. -/
namespace Go.Proofs.Ytcadiepghhnbeaa
open Go.RowKit
set_option linter.unusedVariables false
set_option linter.unusedSimpArgs false

set_option maxRecDepth 100000 in
set_option maxHeartbeats 800000 in
theorem eqU (p : Int) (a a' : Option Addr) (n c c' : Nat) (xs : List Int) (b b' : Option Addr) (m d d' : Nat) (ys : List Int) (w : World) (h1 : SL w a n c xs) (h2 : SL w a' n c' xs) (h3 : SL w b m d ys) (h4 : SL w b' m d' ys) (hn : n ≤ 4000000) (hm : m ≤ 4000000) :
    Calls Try.prog 16 #[jac p a n c b m d, jac p a' n c' b' m d'] w fun e w' => e = .returned (.bool true) ∧ Below w.heap.size w w' := by
  have hb0 := bl2 w (.cells #[.int .i64 p, .slice a n c, .slice b m d] 27) (.cells #[.int .i64 p, .slice a' n c', .slice b' m d'] 27)
  have g1 := h1.below hb0
  have g2 := h2.below hb0
  go_enter Try.func16, Try.ntmps16
  go_wp2_with fail
  refine (eqI _ _ _ _ _ _ _ g1 g2 hn).mono ?_
  rintro e w1 ⟨rfl, hb1⟩
  obtain ⟨hc1, hf1⟩ := bcell hb1
  have hB1 := bnext hb0 hb1
  have g3 := h3.below hB1
  have g4 := h4.below hB1
  go_wp2_with fail
  refine (eqI _ _ _ _ _ _ _ g3 g4 hm).mono ?_
  rintro e w2 ⟨rfl, hb2⟩
  go_wp2
  go_ret
  exact ⟨rfl, bnext hB1 hb2⟩
set_option maxRecDepth 100000 in
set_option maxHeartbeats 800000 in
theorem markU (lo hi : Nat) (p : Int) (a : Option Addr) (n c : Nat) (xs : List Int) (b : Option Addr) (m d : Nat) (ys : List Int) (k0 : Int) (w : World) (h : JZ lo hi w a n c xs b m d ys) (hlh : lo ≤ hi) (hhi : hi ≤ w.heap.size) (hn : n ≤ 4000000) (hm : m ≤ 4000000) (hk0 : 0 ≤ k0) (hk1 : k0 ≤ 100000000000) :
    Calls Try.prog 21 #[jac p a n c b m d, .int .i64 k0] w fun e w' => e = .returned (.int .i64 (k0 + n + m)) ∧ JZ lo hi w' a n c (marks k0 n) b m d (marks (k0 + n) m) ∧ Touch lo hi w w' := by
  have hdis := h.2.2
  obtain ⟨l1, h1, l2, h2, z1, z2, z3, z4, z5, o1, o2⟩ := h.fine hlh
  have hb0 := bl1 w (.cells #[.int .i64 p, .slice a n c, .slice b m d] 27)
  replace o1 := o1.below hb0
  replace o2 := o2.below hb0
  go_enter Try.func21, Try.ntmps21
  go_wp2_with fail
  refine (markZT _ _ _ _ _ _ _ _ o1 hn hk0 (by omega)).mono ?_
  rintro e w1 ⟨rfl, o1', t1⟩
  have c0 : w1.cell? ⟨w.heap.size, 0, none⟩ = some (.int .i64 p) := t1.cell (by simp [go_sem]) (.inr (by omega))
  have c1 : w1.cell? ⟨w.heap.size, 1, none⟩ = some (.slice a n c) := t1.cell (by simp [go_sem]) (.inr (by omega))
  have c2 : w1.cell? ⟨w.heap.size, 2, none⟩ = some (.slice b m d) := t1.cell (by simp [go_sem]) (.inr (by omega))
  have o2' := o2.touch t1 z5.symm
  clear o1 o2
  go_wp2_with fail
  refine (markZT _ _ _ _ _ _ _ _ o2' hm (by omega) (by omega)).mono ?_
  rintro e w2 ⟨rfl, o2'', t2⟩
  have o1'' := o1'.touch t2 z5
  go_wp2
  go_ret
  exact ⟨rfl, ⟨o1''.mono z1 z2, o2''.mono z3 z4, hdis⟩, (Touch.alloc lo hi w _).trans ((t1.mono z1 z2).trans (t2.mono z3 z4))⟩
set_option maxRecDepth 100000 in
set_option maxHeartbeats 800000 in
theorem heldU (p : Int) (a : Option Addr) (n c : Nat) (b : Option Addr) (m d : Nat) (k0 : Int) (w : World) (h1 : SL w a n c (marks k0 n)) (h2 : SL w b m d (marks (k0 + n) m)) (hn : n ≤ 4000000) (hm : m ≤ 4000000) (hk0 : 0 ≤ k0) (hk1 : k0 ≤ 100000000000) :
    Calls Try.prog 22 #[jac p a n c b m d, .int .i64 k0] w fun e w' => e = .returned (.int .i64 (k0 + n + m)) ∧ Below w.heap.size w w' := by
  have hb0 := bl1 w (.cells #[.int .i64 p, .slice a n c, .slice b m d] 27)
  have g1 := h1.below hb0
  have g2 := h2.below hb0
  have hpos : ¬ k0 + (n : Int) < 0 := by omega
  have hpos2 : ¬ k0 + (n : Int) + (m : Int) < 0 := by omega
  go_enter Try.func22, Try.ntmps22
  go_wp2_with fail
  refine (heldI _ _ _ _ _ g1 hn hk0 (by omega)).mono ?_
  rintro e w1 ⟨rfl, rfl⟩
  go_wp2_with fail
  refine (heldI _ _ _ _ _ g2 hm (by omega) (by omega)).mono ?_
  rintro e w1 ⟨rfl, rfl⟩
  go_wp2
  go_ret
  exact ⟨rfl, hb0⟩
end Go.Proofs.Ytcadiepghhnbeaa
/- Contracts: InterpolatePoly (program and model). -/
namespace Go.Proofs.Ytcadiepghhnbeaa
open Go.RowKit
set_option linter.unusedVariables false
set_option linter.unusedSimpArgs false

theorem areB_wf {p : Int} {xs : List Int} (hp2 : p ≤ 10007) (h : areB p xs = true) : ∀ y ∈ xs, (Lit.int .i64 y).wf = true := by
  intro y hy
  unfold areB at h
  rw [List.all_eq_true] at h
  have := h y hy
  unfold okN at this
  simp at this
  exact WalkArith.wf_i64 (by omega)
end Go.Proofs.Ytcadiepghhnbeaa
