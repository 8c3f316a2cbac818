/- Merged texts. -/
import Derived.Test.YtllcgoachgfpjaaYD42
import Derived.Test.YtllcgoachgfpjaaProg
import Derived.Test.YtllcgoachgfpjaaYD40
import Derived.WalkKit
import Derived.Lib.Hide
/- Contracts of the laws' helpers on rules: toRule, szRule, eqRule, markRule, heldRule. -/
namespace Go.Proofs.Ytllcgoachgfpjaa
open Go.RowKit
set_option linter.unusedVariables false
set_option linter.unusedSimpArgs false

set_option maxRecDepth 100000 in
set_option maxHeartbeats 800000 in
theorem toU (p : Int) (a : Option Addr) (n c : Nat) (xs : List Int) (b : Option Addr) (m d : Nat) (ys : List Int) (w : World) (hs : SL w a n c xs) (ht : SL w b m d ys) (hn : n ≤ 1048576) (hm : m ≤ 1048576) :
    Calls Try.prog 47 #[jac p a n c b m d] w fun e w' => ∃ a' b', e = .returned (jac p a' n n b' m m) ∧ JZ w.heap.size w'.heap.size w' a' n n xs b' m m ys ∧ Below w.heap.size w w' := by
  have hb0 := bl3 w (.cells #[.int .i64 p, .slice a n c, .slice b m d] 54) (.cells #[.int .i64 0, .slice none 0 0, .slice none 0 0] 56) (.cells #[.int .i64 p, .slice none 0 0, .slice none 0 0] 56)
  have hs3 := hs.below hb0
  have hz0 := hb0.size
  have ht3 := ht.below hb0
  go_enter Try.func47, Try.ntmps47
  go_wp2_with fail
  refine (toI _ _ _ _ _ hs3 hn).mono ?_
  rintro e w1 ⟨a', rfl, ho, hb1⟩
  have hz1 : w.heap.size + 2 < w1.heap.size := by have := hb1.size; simp at this; omega
  have hB1 := bnext hb0 hb1
  have f0 : w1.cell? ⟨w.heap.size, 0, none⟩ = some (.int .i64 p) := cell_be hb1 (by simp [go_sem])
  have f1 : w1.cell? ⟨w.heap.size, 1, none⟩ = some (.slice a n c) := cell_be hb1 (by simp [go_sem])
  have f2 : w1.cell? ⟨w.heap.size, 2, none⟩ = some (.slice b m d) := cell_be hb1 (by simp [go_sem])
  have r0 : w1.cell? ⟨w.heap.size + 1, 0, none⟩ = some (.int .i64 0) := cell_be hb1 (by simp [go_sem])
  have r1 : w1.cell? ⟨w.heap.size + 1, 1, none⟩ = some (.slice none 0 0) := cell_be hb1 (by simp [go_sem])
  have r2 : w1.cell? ⟨w.heap.size + 1, 2, none⟩ = some (.slice none 0 0) := cell_be hb1 (by simp [go_sem])
  have d0 : w1.cell? ⟨w.heap.size + 1 + 1, 0, none⟩ = some (.int .i64 p) := cell_be hb1 (by simp [go_sem])
  have d1 : w1.cell? ⟨w.heap.size + 1 + 1, 1, none⟩ = some (.slice none 0 0) := cell_be hb1 (by simp [go_sem])
  have d2 : w1.cell? ⟨w.heap.size + 1 + 1, 2, none⟩ = some (.slice none 0 0) := cell_be hb1 (by simp [go_sem])
  have y0 : w1.frozen? ⟨w.heap.size + 1, 0, none⟩ = false := (hb1.frozen (by simp)).trans (by simp [go_sem])
  have y1 : w1.frozen? ⟨w.heap.size + 1, 1, none⟩ = false := (hb1.frozen (by simp)).trans (by simp [go_sem])
  have y2 : w1.frozen? ⟨w.heap.size + 1, 2, none⟩ = false := (hb1.frozen (by simp)).trans (by simp [go_sem])
  have x1 : w1.frozen? ⟨w.heap.size + 1 + 1, 1, none⟩ = false := (hb1.frozen (by simp)).trans (by simp [go_sem])
  have x2 : w1.frozen? ⟨w.heap.size + 1 + 1, 2, none⟩ = false := (hb1.frozen (by simp)).trans (by simp [go_sem])
  go_wp2_with fail
  refine (toI _ _ _ _ _ (ht.below (hB1.setCell (p := ⟨w.heap.size + 1 + 1, 1, none⟩) (by simp; omega) (.slice a' n n))) hm).mono ?_
  rintro e w2 ⟨b', rfl, ho2, hb2⟩
  have hz2 := hb2.size
  simp at hz2
  have hB2 := (hB1.setCell (p := ⟨w.heap.size + 1 + 1, 1, none⟩) (by simp; omega) (.slice a' n n)).trans (hb2.mono (by simp; omega))
  have o1 := (OZ.of ho hs.len.symm).setLow (x := ⟨w.heap.size + 1 + 1, 1, none⟩) (by simp) (.slice a' n n)
  have o2 := OZ.of ho2 ht.len.symm
  replace o1 := o1.below hb2
  simp at o2
  replace r0 : w2.cell? ⟨w.heap.size + 1, 0, none⟩ = some (.int .i64 0) := cell_be hb2 (by simp [go_sem, r0])
  replace r1 : w2.cell? ⟨w.heap.size + 1, 1, none⟩ = some (.slice none 0 0) := cell_be hb2 (by simp [go_sem, r1])
  replace r2 : w2.cell? ⟨w.heap.size + 1, 2, none⟩ = some (.slice none 0 0) := cell_be hb2 (by simp [go_sem, r2])
  replace d0 : w2.cell? ⟨w.heap.size + 1 + 1, 0, none⟩ = some (.int .i64 p) := cell_be hb2 (by simp [go_sem, d0])
  replace d1 : w2.cell? ⟨w.heap.size + 1 + 1, 1, none⟩ = some (.slice a' n n) := cell_be hb2 (World.cell?_setCell_same _ _ _ d1)
  replace d2 : w2.cell? ⟨w.heap.size + 1 + 1, 2, none⟩ = some (.slice none 0 0) := cell_be hb2 (by simp [go_sem, d2])
  replace y0 : w2.frozen? ⟨w.heap.size + 1, 0, none⟩ = false := (hb2.frozen (by simp; omega)).trans (by simpa using y0)
  replace y1 : w2.frozen? ⟨w.heap.size + 1, 1, none⟩ = false := (hb2.frozen (by simp; omega)).trans (by simpa using y1)
  replace y2 : w2.frozen? ⟨w.heap.size + 1, 2, none⟩ = false := (hb2.frozen (by simp; omega)).trans (by simpa using y2)
  replace x2 : w2.frozen? ⟨w.heap.size + 1 + 1, 2, none⟩ = false := (hb2.frozen (by simp; omega)).trans (by simpa using x2)
  clear ho ho2 hb0 hb1 hb2 hs hs3 ht ht3 f0 f1 f2 x1
  go_wp2
  refine bodyPost_ret (v := jac p a' n n b' m m) (by simp [results, Try.results47, go_sem, r0, r1, r2]) rfl ⟨a', b', rfl, ?_, ?_⟩
  · have q1 := (((o1.setLow (x := ⟨w.heap.size + 1 + 1, 2, none⟩) (by simp) (.slice b' m m)).setLow (x := ⟨w.heap.size + 1, 0, none⟩) (by simp) (.int .i64 p)).setLow (x := ⟨w.heap.size + 1, 1, none⟩) (by simp) (.slice a' n n)).setLow (x := ⟨w.heap.size + 1, 2, none⟩) (by simp) (.slice b' m m)
    have q2 := (((o2.setLow (x := ⟨w.heap.size + 1 + 1, 2, none⟩) (by simp; omega) (.slice b' m m)).setLow (x := ⟨w.heap.size + 1, 0, none⟩) (by simp; omega) (.int .i64 p)).setLow (x := ⟨w.heap.size + 1, 1, none⟩) (by simp; omega) (.slice a' n n)).setLow (x := ⟨w.heap.size + 1, 2, none⟩) (by simp; omega) (.slice b' m m)
    simp at q1
    have := (JZ.two q1 q2 (by omega) hz2).mono (lo' := w.heap.size) (by omega) (Nat.le_refl _)
    simpa using this
  · exact (((hB2.setCell (by simp; omega) _).setCell (by simp) _).setCell (by simp) _).setCell (by simp) _
set_option maxRecDepth 100000 in
set_option maxHeartbeats 800000 in
theorem szU (p : Int) (a : Option Addr) (n c : Nat) (b : Option Addr) (m d : Nat) (k : Int) (w : World) (hk0 : 0 ≤ k) (hk1 : k ≤ 4000000) (hn : n ≤ 4000000) (hm : m ≤ 4000000) (h : (n : Int) + m ≤ k) :
    Calls Try.prog 45 #[jac p a n c b m d, .int .i64 k] w fun e w' => e = .returned (.int .i64 (k - n - m)) ∧ Below w.heap.size w w' := by
  have H : Hid ((if k < (n : Int) then (-1 : Int) else k - n) = k - n) := Lib.hid (if_neg (by omega))
  have H2 : Hid ((if k - (n : Int) < (m : Int) then (-1 : Int) else k - n - m) = k - n - m) := Lib.hid (if_neg (by omega))
  go_enter Try.func45, Try.ntmps45
  go_wp2_with fail
  refine (szI _ _ _ _ _ hn hk0 hk1).mono ?_
  rintro e w1 ⟨rfl, rfl⟩
  rw [H.out]
  go_wp2_with fail
  refine (szI _ _ _ _ _ hm (by omega) (by omega)).mono ?_
  rintro e w1 ⟨rfl, rfl⟩
  rw [H2.out]
  go_wp2
  go_ret
  exact ⟨rfl, bl1 _ _⟩
set_option maxRecDepth 100000 in
set_option maxHeartbeats 800000 in
theorem szU_no (p : Int) (a : Option Addr) (n c : Nat) (b : Option Addr) (m d : Nat) (k : Int) (w : World) (hn : n ≤ 9223372036854775807) (hm : m ≤ 9223372036854775807) (hk0 : 0 ≤ k) (hk1 : k ≤ 4000000) (h : k < (n : Int) + m) :
    Calls Try.prog 45 #[jac p a n c b m d, .int .i64 k] w fun e w' => e = .returned (.int .i64 (-1)) ∧ Below w.heap.size w w' := by
  by_cases h1 : k < (n : Int)
  · go_enter Try.func45, Try.ntmps45
    go_wp2_with (first | go_in)
    go_ret
    exact ⟨rfl, bl1 _ _⟩
  · have H : Hid ((if k < (n : Int) then (-1 : Int) else k - n) = k - n) := Lib.hid (if_neg h1)
    go_enter Try.func45, Try.ntmps45
    go_wp2_with fail
    refine (szI _ _ _ _ _ (by omega) hk0 hk1).mono ?_
    rintro e w1 ⟨rfl, rfl⟩
    rw [H.out]
    go_wp2_with (first | go_in)
    go_ret
    exact ⟨rfl, bl1 _ _⟩
set_option maxRecDepth 100000 in
set_option maxHeartbeats 800000 in
theorem eqU (p : Int) (a a' : Option Addr) (n c c' : Nat) (xs : List Int) (b b' : Option Addr) (m d d' : Nat) (ys : List Int) (w : World) (h1 : SL w a n c xs) (h2 : SL w a' n c' xs) (h3 : SL w b m d ys) (h4 : SL w b' m d' ys) (hn : n ≤ 4000000) (hm : m ≤ 4000000) :
    Calls Try.prog 49 #[jac p a n c b m d, jac p a' n c' b' m d'] w fun e w' => e = .returned (.bool true) ∧ Below w.heap.size w w' := by
  have hb0 := bl2 w (.cells #[.int .i64 p, .slice a n c, .slice b m d] 56) (.cells #[.int .i64 p, .slice a' n c', .slice b' m d'] 56)
  have g1 := h1.below hb0
  have g2 := h2.below hb0
  go_enter Try.func49, Try.ntmps49
  go_wp2_with fail
  refine (eqI _ _ _ _ _ _ _ g1 g2 hn).mono ?_
  rintro e w1 ⟨rfl, hb1⟩
  obtain ⟨hc1, hf1⟩ := bcell hb1
  have hB1 := bnext hb0 hb1
  have g3 := h3.below hB1
  have g4 := h4.below hB1
  go_wp2_with fail
  refine (eqI _ _ _ _ _ _ _ g3 g4 hm).mono ?_
  rintro e w2 ⟨rfl, hb2⟩
  go_wp2
  go_ret
  exact ⟨rfl, bnext hB1 hb2⟩
set_option maxRecDepth 100000 in
set_option maxHeartbeats 800000 in
theorem markU (lo hi : Nat) (p : Int) (a : Option Addr) (n c : Nat) (xs : List Int) (b : Option Addr) (m d : Nat) (ys : List Int) (k0 : Int) (w : World) (h : JZ lo hi w a n c xs b m d ys) (hlh : lo ≤ hi) (hhi : hi ≤ w.heap.size) (hn : n ≤ 4000000) (hm : m ≤ 4000000) (hk0 : 0 ≤ k0) (hk1 : k0 ≤ 100000000000) :
    Calls Try.prog 50 #[jac p a n c b m d, .int .i64 k0] w fun e w' => e = .returned (.int .i64 (k0 + n + m)) ∧ JZ lo hi w' a n c (marks k0 n) b m d (marks (k0 + n) m) ∧ Touch lo hi w w' := by
  have hdis := h.2.2
  obtain ⟨l1, h1, l2, h2, z1, z2, z3, z4, z5, o1, o2⟩ := h.fine hlh
  have hb0 := bl1 w (.cells #[.int .i64 p, .slice a n c, .slice b m d] 56)
  replace o1 := o1.below hb0
  replace o2 := o2.below hb0
  go_enter Try.func50, Try.ntmps50
  go_wp2_with fail
  refine (markZT _ _ _ _ _ _ _ _ o1 hn hk0 (by omega)).mono ?_
  rintro e w1 ⟨rfl, o1', t1⟩
  have c0 : w1.cell? ⟨w.heap.size, 0, none⟩ = some (.int .i64 p) := t1.cell (by simp [go_sem]) (.inr (by omega))
  have c1 : w1.cell? ⟨w.heap.size, 1, none⟩ = some (.slice a n c) := t1.cell (by simp [go_sem]) (.inr (by omega))
  have c2 : w1.cell? ⟨w.heap.size, 2, none⟩ = some (.slice b m d) := t1.cell (by simp [go_sem]) (.inr (by omega))
  have o2' := o2.touch t1 z5.symm
  clear o1 o2
  go_wp2_with fail
  refine (markZT _ _ _ _ _ _ _ _ o2' hm (by omega) (by omega)).mono ?_
  rintro e w2 ⟨rfl, o2'', t2⟩
  have o1'' := o1'.touch t2 z5
  go_wp2
  go_ret
  exact ⟨rfl, ⟨o1''.mono z1 z2, o2''.mono z3 z4, hdis⟩, (Touch.alloc lo hi w _).trans ((t1.mono z1 z2).trans (t2.mono z3 z4))⟩
set_option maxRecDepth 100000 in
set_option maxHeartbeats 800000 in
theorem heldU (p : Int) (a : Option Addr) (n c : Nat) (b : Option Addr) (m d : Nat) (k0 : Int) (w : World) (h1 : SL w a n c (marks k0 n)) (h2 : SL w b m d (marks (k0 + n) m)) (hn : n ≤ 4000000) (hm : m ≤ 4000000) (hk0 : 0 ≤ k0) (hk1 : k0 ≤ 100000000000) :
    Calls Try.prog 51 #[jac p a n c b m d, .int .i64 k0] w fun e w' => e = .returned (.int .i64 (k0 + n + m)) ∧ Below w.heap.size w w' := by
  have hb0 := bl1 w (.cells #[.int .i64 p, .slice a n c, .slice b m d] 56)
  have g1 := h1.below hb0
  have g2 := h2.below hb0
  have hpos : ¬ k0 + (n : Int) < 0 := by omega
  have hpos2 : ¬ k0 + (n : Int) + (m : Int) < 0 := by omega
  go_enter Try.func51, Try.ntmps51
  go_wp2_with fail
  refine (heldI _ _ _ _ _ g1 hn hk0 (by omega)).mono ?_
  rintro e w1 ⟨rfl, rfl⟩
  go_wp2_with fail
  refine (heldI _ _ _ _ _ g2 hm (by omega) (by omega)).mono ?_
  rintro e w1 ⟨rfl, rfl⟩
  go_wp2
  go_ret
  exact ⟨rfl, hb0⟩
end Go.Proofs.Ytllcgoachgfpjaa
/- Contracts of the functions of numbers of chapter 1 (program and model). -/
namespace Go.Proofs.Ytllcgoachgfpjaa
open Go.RowKit
set_option linter.unusedVariables false
set_option linter.unusedSimpArgs false

set_option maxHeartbeats 400000 in
theorem isPrime_any (p : Int) (w : World) :
    Calls Try.prog 110 #[.int .i64 p] w fun e w' => e = .returned (.bool (primeB p)) ∧ w = w' := by
  by_cases hp : p < 2
  · go_enter Try.func110, Try.ntmps110
    go_wp2
    go_ret
    exact ⟨ret_bool (by simp [primeB, hp]), rfl⟩
  by_cases hq : 10007 < p
  · go_enter Try.func110, Try.ntmps110
    go_wp2
    go_ret
    exact ⟨ret_bool (by simp [primeB, hp, hq]), rfl⟩
  have H : Hid (primeB p = primeLoop 101 2 p) := Lib.hid (by simp [primeB, hp, hq])
  go_enter Try.func110, Try.ntmps110
  go_wp2
  go_loop [3] (fun i => ∃ k : Nat, k ≤ 100 ∧ i = .int .i64 (2 + k) ∧ Hid (primeLoop 101 2 p = primeLoop (101 - k) (2 + k) p)) (fun i => 101 - (intOf i).toNat)
  case atStart => exact ⟨0, by omega, rfl, rfl⟩
  case round =>
    obtain ⟨k, hk, rfl, hr⟩ := hrel
    have hdd : (2 + (k:Int)) * (2 + k) ≤ 102 * 102 := Int.mul_le_mul (by omega) (by omega) (by omega) (by omega)
    have hdd0 : 0 ≤ (2 + (k:Int)) * (2 + k) := Int.mul_nonneg (by omega) (by omega)
    obtain ⟨g, hg⟩ : ∃ g, 101 - k = g + 1 := ⟨100 - k, by omega⟩
    have Hg := Lib.hid hg
    clear hg
    go_wp2
    · go_ret
      have h1 : (2 + (k:Int)) * (2 + k) ≤ p := by assumption
      have h2 : (p % (2 + (k:Int)) == 0) = true := by assumption
      exact ⟨ret_bool (by rw [H.out, hr.out, Hg.out, primeLoop, if_pos h1, if_pos (by simpa using h2)]), rfl⟩
    · have h1 : (2 + (k:Int)) * (2 + k) ≤ p := by assumption
      have h2 : (p % (2 + (k:Int)) == 0) = false := by assumption
      have hk9 : k ≤ 98 := by
        rcases Nat.lt_or_ge 98 k with h | h
        · have : (101:Int) * 101 ≤ (2 + (k:Int)) * (2 + k) := Int.mul_le_mul (by omega) (by omega) (by omega) (by omega)
          omega
        · exact h
      go_round
      case rel => exact ⟨k + 1, by omega, by go_num, by
        have : 101 - (k + 1) = g := by have := Hg.out; omega
        rw [this, show (2 + ((k+1 : Nat):Int)) = 2 + (k:Int) + 1 by omega]
        refine hr.out.trans ?_
        rw [Hg.out, primeLoop, if_pos h1, if_neg (by simpa using h2)]⟩
      case measure => simp [intOf]; omega
    · go_ret
      have h1 : ¬ (2 + (k:Int)) * (2 + k) ≤ p := by first | assumption | (simp at *; omega)
      exact ⟨ret_bool (by rw [H.out, hr.out, Hg.out, primeLoop, if_neg h1]), rfl⟩
set_option maxHeartbeats 400000 in
theorem l01In_yes (n lo hi : Int) (w : World) (h1 : lo ≤ n) (h2 : n ≤ hi) :
    Calls Try.prog 103 #[.int .i64 n, .int .i64 lo, .int .i64 hi] w fun e w' => e = .returned (.bool true) ∧ w = w' := by
  go_enter Try.func103, Try.ntmps103
  go_wp2
  go_ret
  exact ⟨rfl, rfl⟩
set_option maxHeartbeats 400000 in
theorem l01In_no (n lo hi : Int) (w : World) (h : ¬ (lo ≤ n ∧ n ≤ hi)) :
    Calls Try.prog 103 #[.int .i64 n, .int .i64 lo, .int .i64 hi] w fun e w' => e = .returned (.bool false) ∧ w = w' := by
  by_cases h1 : lo ≤ n
  · have h2 : ¬ n ≤ hi := fun h2 => h ⟨h1, h2⟩
    clear h
    go_enter Try.func103, Try.ntmps103
    go_wp2
    go_ret
    exact ⟨rfl, rfl⟩
  · clear h
    go_enter Try.func103, Try.ntmps103
    go_wp2
    go_ret
    exact ⟨rfl, rfl⟩
set_option maxHeartbeats 400000 in
theorem isNumber_yes (p x : Int) (w : World) (h1 : 0 ≤ x) (h2 : x < p) :
    Calls Try.prog 65 #[.int .i64 p, .int .i64 x] w fun e w' => e = .returned (.bool true) ∧ w = w' := by
  go_enter Try.func65, Try.ntmps65
  go_wp2
  go_ret
  exact ⟨rfl, rfl⟩
set_option maxHeartbeats 400000 in
theorem isNumber_no (p x : Int) (w : World) (h : ¬ (0 ≤ x ∧ x < p)) :
    Calls Try.prog 65 #[.int .i64 p, .int .i64 x] w fun e w' => e = .returned (.bool false) ∧ w = w' := by
  by_cases h1 : 0 ≤ x
  · have h2 : ¬ x < p := fun h2 => h ⟨h1, h2⟩
    clear h
    go_enter Try.func65, Try.ntmps65
    go_wp2
    go_ret
    exact ⟨rfl, rfl⟩
  · clear h
    go_enter Try.func65, Try.ntmps65
    go_wp2
    go_ret
    exact ⟨rfl, rfl⟩
set_option maxHeartbeats 400000 in
theorem l01Prime_any (p : Int) (w : World) :
    Calls Try.prog 109 #[.int .i64 p] w fun e w' => e = .returned (.bool (primeB p)) ∧ w = w' := by
  by_cases hpq : ¬ (2 ≤ p ∧ p ≤ 10007)
  · have hpf : primeB p = false := by
      unfold primeB
      split
      · rfl
      · split
        · rfl
        · omega
    have Hpf := Lib.hid hpf
    clear hpf
    go_enter Try.func109, Try.ntmps109
    go_wp2_with (go_at_call 103; refine (l01In_no _ _ _ _ hpq).mono ?_; rintro e w' ⟨rfl, rfl⟩)
    go_ret
    exact ⟨ret_bool (by rw [Hpf.out]), rfl⟩
  have hp : 2 ≤ p := by omega
  have hq : p ≤ 10007 := by omega
  clear hpq
  have H : Hid (primeB p = primeLoop 101 2 p) := Lib.hid (by simp [primeB, show ¬ p < 2 by omega, show ¬ 10007 < p by omega])
  go_enter Try.func109, Try.ntmps109
  go_wp2_with (go_at_call 103; refine (l01In_yes _ _ _ _ hp hq).mono ?_; rintro e w' ⟨rfl, rfl⟩)
  go_loop [3] (fun i => ∃ k : Nat, k ≤ 100 ∧ i = .int .i64 (2 + k) ∧ Hid (primeLoop 101 2 p = primeLoop (101 - k) (2 + k) p)) (fun i => 101 - (intOf i).toNat)
  case atStart => exact ⟨0, by omega, rfl, rfl⟩
  case round =>
    obtain ⟨k, hk, rfl, hr⟩ := hrel
    have hdd : (2 + (k:Int)) * (2 + k) ≤ 102 * 102 := Int.mul_le_mul (by omega) (by omega) (by omega) (by omega)
    have hdd0 : 0 ≤ (2 + (k:Int)) * (2 + k) := Int.mul_nonneg (by omega) (by omega)
    obtain ⟨g, hg⟩ : ∃ g, 101 - k = g + 1 := ⟨100 - k, by omega⟩
    have Hg := Lib.hid hg
    clear hg
    go_wp2
    · go_ret
      have h1 : (2 + (k:Int)) * (2 + k) ≤ p := by assumption
      have h2 : (p % (2 + (k:Int)) == 0) = true := by assumption
      exact ⟨ret_bool (by rw [H.out, hr.out, Hg.out, primeLoop, if_pos h1, if_pos (by simpa using h2)]), rfl⟩
    · have h1 : (2 + (k:Int)) * (2 + k) ≤ p := by assumption
      have h2 : (p % (2 + (k:Int)) == 0) = false := by assumption
      have hk9 : k ≤ 98 := by
        rcases Nat.lt_or_ge 98 k with h | h
        · have : (101:Int) * 101 ≤ (2 + (k:Int)) * (2 + k) := Int.mul_le_mul (by omega) (by omega) (by omega) (by omega)
          omega
        · exact h
      go_round
      case rel => exact ⟨k + 1, by omega, by go_num, by
        have : 101 - (k + 1) = g := by have := Hg.out; omega
        rw [this, show (2 + ((k+1 : Nat):Int)) = 2 + (k:Int) + 1 by omega]
        refine hr.out.trans ?_
        rw [Hg.out, primeLoop, if_pos h1, if_neg (by simpa using h2)]⟩
      case measure => simp [intOf]; omega
    · go_ret
      have h1 : ¬ (2 + (k:Int)) * (2 + k) ≤ p := by first | assumption | (simp at *; omega)
      exact ⟨ret_bool (by rw [H.out, hr.out, Hg.out, primeLoop, if_neg h1]), rfl⟩
end Go.Proofs.Ytllcgoachgfpjaa
