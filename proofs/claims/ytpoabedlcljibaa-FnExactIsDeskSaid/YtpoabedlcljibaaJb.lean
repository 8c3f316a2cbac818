/- Contracts: slices.Index, slices.Contains; l03Is, IsJacobi (program and model), l03Code, checkJacobi. -/
import Derived.Test.YtpoabedlcljibaaJa
import Derived.Test.YtpoabedlcljibaaPo
import Derived.Test.YtpoabedlcljibaaAd
import Derived.Deep.QuietTactic
import Derived.BigQuiet
namespace Go.Proofs.Ytpoabedlcljibaa
open Go.RowKit
set_option linter.unusedVariables false
set_option linter.unusedSimpArgs false

def okP (p x : Int) : Bool := decide (1 ≤ x ∧ x < p)
def posB (p : Int) (xs : List Int) : Bool := xs.all (okP p)
def hasB (v : Int) (xs : List Int) : Bool := xs.any (v == ·)
theorem posB_snoc (p : Int) (xs : List Int) (k : Nat) (h : k < xs.length) : posB p (xs.take (k + 1)) = (posB p (xs.take k) && okP p (xs.getD k 0)) := by
  rw [take_snocI xs k h]
  simp [posB]
theorem posB_false (p : Int) (xs : List Int) (k : Nat) (h : k < xs.length) (hx : okP p (xs.getD k 0) = false) : posB p xs = false := by
  unfold posB
  rw [Bool.eq_false_iff]
  intro hall
  rw [List.all_eq_true] at hall
  have := hall (xs.getD k 0) (by simp [h])
  rw [hx] at this
  cases this
theorem posB_at {p : Int} {xs : List Int} (h : posB p xs = true) (k : Nat) (hk : k < xs.length) : 1 ≤ xs.getD k 0 ∧ xs.getD k 0 < p := by
  unfold posB at h
  rw [List.all_eq_true] at h
  have := h (xs.getD k 0) (by simp [hk])
  simpa [okP] using this
theorem posB_eq (p : Int) (xs : List Int) : posB p xs = (areB p xs && !hasB 0 xs) := by
  induction xs with
  | nil => rfl
  | cons x l ih =>
    have e : posB p (x :: l) = (okP p x && posB p l) := rfl
    have e2 : areB p (x :: l) = (okN p x && areB p l) := rfl
    have e3 : hasB 0 (x :: l) = ((0 == x) || hasB 0 l) := rfl
    rw [e, e2, e3, ih]
    by_cases h0 : x = 0
    · subst h0; simp [okP]
    · have : okP p x = okN p x := by unfold okP okN; congr 1; apply propext; omega
      rw [this]
      have h1 : ((0 : Int) == x) = false := by simpa using fun h => h0 h.symm
      rw [h1]
      cases okN p x <;> cases areB p l <;> cases hasB 0 l <;> rfl
theorem hasB_snoc (v : Int) (xs : List Int) (k : Nat) (h : k < xs.length) : hasB v (xs.take (k + 1)) = (hasB v (xs.take k) || v == xs.getD k 0) := by
  rw [take_snocI xs k h]
  simp [hasB]
theorem hasB_true (v : Int) (xs : List Int) (k : Nat) (h : k < xs.length) (hx : v = xs.getD k 0) : hasB v xs = true := by
  unfold hasB
  rw [List.any_eq_true]
  exact ⟨xs.getD k 0, by simp [h], by simpa using hx⟩
def jacB (p : Int) (xs ys : List Int) : Bool := primeB p && decide (1 ≤ xs.length) && decide (xs.length ≤ 12) && decide (ys.length = xs.length) && areB p xs && posB p ys
theorem jacB_rng {p : Int} {xs ys : List Int} (h : jacB p xs ys = true) : primeB p = true ∧ 1 ≤ xs.length ∧ xs.length ≤ 12 ∧ ys.length = xs.length ∧ areB p xs = true ∧ posB p ys = true := by
  unfold jacB at h
  simp only [Bool.and_eq_true, decide_eq_true_eq] at h
  exact ⟨h.1.1.1.1.1, h.1.1.1.1.2, h.1.1.1.2, h.1.1.2, h.1.2, h.2⟩
theorem posB_are {p : Int} {xs : List Int} (h : posB p xs = true) : areB p xs = true := by
  rw [posB_eq] at h
  simp only [Bool.and_eq_true] at h
  exact h.1
set_option maxRecDepth 100000 in
set_option maxHeartbeats 800000 in
theorem index_any (a : Option Addr) (n c : Nat) (xs : List Int) (v : Int) (w : World) (hs : SL w a n c xs) (hn : n ≤ 4000000) :
    Calls Try.prog 55 #[.slice a n c, .int .i64 v] w fun e w' => (∃ r : Int, e = .returned (.int .i64 r) ∧ (decide (0 ≤ r) = hasB v xs)) ∧ w = w' := by
  have hl := hide hs.len
  by_cases h0 : n = 0
  · subst h0
    obtain rfl := hs.empty
    go_enter Try.func55, Try.ntmps55
    go_wp2
    refine wp_loop_rounds 1 ?_
    rw [rounds_succ]
    go_wp2
    go_ret
    exact ⟨⟨_, rfl, by simp [hasB]⟩, rfl⟩
  obtain ⟨b, off, rfl, hbw, hcell⟩ := hs.at (by omega)
  clear hs
  go_enter Try.func55, Try.ntmps55
  go_wp2
  go_loop [8] (fun i => ∃ k : Nat, k ≤ n ∧ i = .int .i64 k ∧ Hid (hasB v (xs.take k) = false)) (fun i => n - (intOf i).toNat)
  case atStart => exact ⟨0, by omega, rfl, by simp [Hid, hasB]⟩
  case round =>
    obtain ⟨k, hk, rfl, hR⟩ := hrel
    by_cases hlt : k < n
    · have e1 := hcell k hlt
      have hsn := Lib.hid (hasB_snoc v xs k (by rw [hl.out]; exact hlt))
      have hT := fun h => Lib.hid (hasB_true v xs k (by rw [hl.out]; exact hlt) h)
      obtain ⟨x, hx⟩ : ∃ x, x = xs.getD k 0 := ⟨_, rfl⟩
      rw [← hx] at e1
      have Hx := Lib.hid hx
      clear hx hcell
      by_cases hok : v = x
      · have hF := hT (by rw [hok, Hx.out])
        have ob : (v == x) = true := by simpa using hok
        clear hT hok
        go_wp2
        go_ret
        exact ⟨⟨_, rfl, by rw [hF.out]; simp⟩, rfl⟩
      · have ob : (v == x) = false := by simpa using hok
        have hF : Hid (hasB v (xs.take (k + 1)) = false) := hide (by rw [hsn.out, hR.out, ← Hx.out, ob]; rfl)
        clear hT hok hsn
        go_wp2
        go_round
        case rel => exact ⟨k + 1, by omega, by go_num, hF⟩
        case measure => simp [intOf]; omega
    · obtain rfl : k = n := by omega
      have hF : Hid (hasB v xs = false) := hide (by have := hR.out; rwa [List.take_of_length_le (by rw [hl.out]; omega)] at this)
      go_wp2
      go_ret
      exact ⟨⟨_, rfl, by rw [hF.out]; simp⟩, rfl⟩
set_option maxHeartbeats 800000 in
theorem contains_any (a : Option Addr) (n c : Nat) (xs : List Int) (v : Int) (w : World) (hs : SL w a n c xs) (hn : n ≤ 4000000) :
    Calls Try.prog 45 #[.slice a n c, .int .i64 v] w fun e w' => e = .returned (.bool (hasB v xs)) ∧ w = w' := by
  go_enter Try.func45, Try.ntmps45
  go_wp2_with fail
  refine (index_any _ _ _ _ _ _ hs hn).mono ?_
  rintro e w1 ⟨⟨r, rfl, hr⟩, rfl⟩
  have Hr := hide hr
  clear hr
  go_wp2
  go_ret
  exact ⟨ret_bool (by rw [← Hr.out]), rfl⟩
set_option maxRecDepth 100000 in
set_option maxHeartbeats 1600000 in
theorem l03Is_any (p : Int) (a : Option Addr) (n c : Nat) (xs : List Int) (b : Option Addr) (m d : Nat) (ys : List Int) (w : World) (hs : SL w a n c xs) (ht : SL w b m d ys) (hn : n ≤ 4000000) (hm : m ≤ 4000000) :
    Calls Try.prog 29 #[jac p a n c b m d] w fun e w' => e = .returned (.bool (jacB p xs ys)) ∧ Below w.heap.size w w' := by
  have hl := hide hs.len
  have ht2 := hide ht.len
  have hb0 := bl1 w (.cells #[.int .i64 p, .slice a n c, .slice b m d] 26)
  have g1 := hs.below hb0
  have g2 := ht.below hb0
  cases hp : primeB p
  · have H : Hid (jacB p xs ys = false) := hide (by simp [jacB, hp])
    have Hp := hide hp
    clear hp
    go_enter Try.func29, Try.ntmps29
    go_wp2_with fail
    refine (l01Prime_any _ _).mono ?_
    rintro e w1 ⟨rfl, rfl⟩
    rw [Hp.out]
    go_wp2
    go_ret
    exact ⟨ret_bool H.out.symm, hb0⟩
  have Hp := hide hp
  obtain ⟨hp1, hp2⟩ := primeB_lo hp
  clear hp
  by_cases hbad : (n : Int) < 1 ∨ 12 < (n : Int) ∨ (m : Int) ≠ (n : Int)
  · have H : Hid (jacB p xs ys = false) := hide (by
      cases hj : jacB p xs ys
      · rfl
      · have := jacB_rng hj
        rw [hl.out, ht2.out] at this
        omega)
    by_cases h1 : (n : Int) < 1
    · go_enter Try.func29, Try.ntmps29
      go_wp2_with fail
      refine (l01Prime_any _ _).mono ?_
      rintro e w1 ⟨rfl, rfl⟩
      rw [Hp.out]
      go_wp2
      go_ret
      exact ⟨ret_bool H.out.symm, hb0⟩
    · by_cases h2 : 12 < (n : Int)
      · go_enter Try.func29, Try.ntmps29
        go_wp2_with fail
        refine (l01Prime_any _ _).mono ?_
        rintro e w1 ⟨rfl, rfl⟩
        rw [Hp.out]
        go_wp2
        go_ret
        exact ⟨ret_bool H.out.symm, hb0⟩
      · have ob : ((m : Int) != (n : Int)) = true := by simp; omega
        go_enter Try.func29, Try.ntmps29
        go_wp2_with fail
        refine (l01Prime_any _ _).mono ?_
        rintro e w1 ⟨rfl, rfl⟩
        rw [Hp.out]
        go_wp2
        go_ret
        exact ⟨ret_bool H.out.symm, hb0⟩
  · obtain ⟨h1, h2, h3⟩ : ¬ (n : Int) < 1 ∧ ¬ 12 < (n : Int) ∧ m = n := by omega
    clear hbad
    subst h3
    have H : Hid (jacB p xs ys = (areB p xs && posB p ys)) := hide (by
      unfold jacB
      rw [Hp.out, hl.out, ht2.out]
      simp [show 1 ≤ m by omega, show m ≤ 12 by omega])
    obtain ⟨b1, o1, rfl, hbw1, hc1⟩ := g1.at (by omega)
    obtain ⟨b2, o2, rfl, hbw2, hc2⟩ := g2.at (by omega)
    clear hs ht g1 g2
    go_enter Try.func29, Try.ntmps29
    go_wp2_with fail
    refine (l01Prime_any _ _).mono ?_
    rintro e w1 ⟨rfl, rfl⟩
    rw [Hp.out]
    go_wp2
    go_loopw [3] (fun i wr => ∃ k : Nat, k ≤ m ∧ i = .int .i64 k ∧ Hid (areB p (xs.take k) = true) ∧ Hid (posB p (ys.take k) = true) ∧ Below (w.heap.size + 1) (w.alloc (.cells #[.int .i64 p, .slice (some ⟨b1, o1, none⟩) m c, .slice (some ⟨b2, o2, none⟩) m d] 26)) wr) (fun i _ => m - (intOf i).toNat)
    case atStart => exact ⟨0, by omega, rfl, by simp [Hid, areB], by simp [Hid, posB], Below.refl _ _⟩
    case round =>
      obtain ⟨k, hk, rfl, hR, hS, hbr⟩ := hrel
      have f0 : wr.cell? ⟨w.heap.size, 0, none⟩ = some (.int .i64 p) := (hbr.cell (by simp)).trans (by simp [go_sem])
      have f1 : wr.cell? ⟨w.heap.size, 1, none⟩ = some (.slice (some ⟨b1, o1, none⟩) m c) := (hbr.cell (by simp)).trans (by simp [go_sem])
      have f2 : wr.cell? ⟨w.heap.size, 2, none⟩ = some (.slice (some ⟨b2, o2, none⟩) m d) := (hbr.cell (by simp)).trans (by simp [go_sem])
      have hB := hb0.trans (hbr.mono (Nat.le_succ _))
      by_cases hlt : k < m
      · have e1 : wr.cell? ⟨b1, o1 + k, none⟩ = some (.int .i64 (xs.getD k 0)) := (hbr.cell (by simpa using hbw1)).trans (hc1 k hlt)
        have e2 : wr.cell? ⟨b2, o2 + k, none⟩ = some (.int .i64 (ys.getD k 0)) := (hbr.cell (by simpa using hbw2)).trans (hc2 k hlt)
        have s1 := Lib.hid (areB_snoc p xs k (by rw [hl.out]; exact hlt))
        have s2 := Lib.hid (posB_snoc p ys k (by rw [ht2.out]; exact hlt))
        have x1 := fun h => Lib.hid (areB_false p xs k (by rw [hl.out]; exact hlt) h)
        have x2 := fun h => Lib.hid (posB_false p ys k (by rw [ht2.out]; exact hlt) h)
        obtain ⟨x, hx⟩ : ∃ x, xs.getD k 0 = x := ⟨_, rfl⟩
        obtain ⟨y, hy⟩ : ∃ y, ys.getD k 0 = y := ⟨_, rfl⟩
        rw [hx] at e1 s1 x1
        rw [hy] at e2 s2 x2
        clear hx hy hc1 hc2
        have hlt' : (k : Int) < (m : Int) := by omega
        by_cases hx : 0 ≤ x ∧ x ≤ p - 1
        · by_cases hy : 1 ≤ y ∧ y ≤ p - 1
          · have n1 : Hid (areB p (xs.take (k + 1)) = true) := hide (by rw [s1.out, hR.out]; simp [okN]; omega)
            have n2 : Hid (posB p (ys.take (k + 1)) = true) := hide (by rw [s2.out, hS.out]; simp [okP]; omega)
            have hbx := hide hx
            have hby := hide hy
            clear x1 x2 hx hy
            go_wp2
            go_quiet (first
              | (go_at_call 42; refine Calls.quiet_of_same (still_of (l01In_yes _ _ _ _ hbx.out.1 hbx.out.2)))
              | (go_at_call 42; refine Calls.quiet_of_same (still_of (l01In_yes _ _ _ _ hby.out.1 hby.out.2))))
            go_wp2
            go_roundw
            case rel => exact ⟨k + 1, by omega, by go_num, n1, n2, below_drewN hbr _⟩
            case measure => simp [intOf]; omega
          · have hF : Hid (jacB p xs ys = false) := hide (by rw [H.out, (x2 (by simp [okP]; omega)).out]; simp)
            have hbx := hide hx
            have hby := hide hy
            clear x1 x2 hx hy
            go_wp2
            go_quiet (first
              | (go_at_call 42; refine Calls.quiet_of_same (still_of (l01In_yes _ _ _ _ hbx.out.1 hbx.out.2)))
              | (go_at_call 42; refine Calls.quiet_of_same (still_of (l01In_no _ _ _ _ hby.out))))
            go_wp2
            go_ret
            exact ⟨ret_bool hF.out.symm, below_drewN hB _⟩
        · have hF : Hid (jacB p xs ys = false) := hide (by rw [H.out, (x1 (by simp [okN]; omega)).out]; simp)
          have hbx := hide hx
          clear x1 x2 hx
          go_wp2
          go_quiet (first
            | (go_at_call 42; refine Calls.quiet_of_same (still_of (l01In_no _ _ _ _ hbx.out))))
          go_wp2
          go_ret
          exact ⟨ret_bool hF.out.symm, below_drewN hB _⟩
      · obtain rfl : k = m := by omega
        have hF : Hid (jacB p xs ys = true) := hide (by
          have h1 := hR.out
          have h2 := hS.out
          rw [List.take_of_length_le (by rw [hl.out]; omega)] at h1
          rw [List.take_of_length_le (by rw [ht2.out]; omega)] at h2
          rw [H.out, h1, h2]; rfl)
        go_wp2
        go_ret
        exact ⟨ret_bool hF.out.symm, hB⟩
set_option maxRecDepth 100000 in
set_option maxHeartbeats 1600000 in
theorem implIsJacobi (p : Int) (a : Option Addr) (n c : Nat) (xs : List Int) (b : Option Addr) (m d : Nat) (ys : List Int) (w : World) (hs : SL w a n c xs) (ht : SL w b m d ys) (hn : n ≤ 4000000) (hm : m ≤ 4000000) :
    Calls Try.prog 35 #[jac p a n c b m d] w fun e w' => e = .returned (.bool (jacB p xs ys)) ∧ Below w.heap.size w w' := by
  have hl := hide hs.len
  have ht2 := hide ht.len
  have hb0 := bl1 w (.cells #[.int .i64 p, .slice a n c, .slice b m d] 26)
  have g1 := hs.below hb0
  have g2 := ht.below hb0
  cases hp : primeB p
  · have H : Hid (jacB p xs ys = false) := hide (by simp [jacB, hp])
    have Hp := hide hp
    clear hp
    go_enter Try.func35, Try.ntmps35
    go_wp2_with fail
    refine (isPrime_any _ _).mono ?_
    rintro e w1 ⟨rfl, rfl⟩
    rw [Hp.out]
    go_wp2
    go_ret
    exact ⟨ret_bool H.out.symm, hb0⟩
  have Hp := hide hp
  obtain ⟨hp1, hp2⟩ := primeB_lo hp
  clear hp
  by_cases hbad : (n : Int) < 1 ∨ 12 < (n : Int) ∨ (m : Int) ≠ (n : Int)
  · have H : Hid (jacB p xs ys = false) := hide (by
      cases hj : jacB p xs ys
      · rfl
      · have := jacB_rng hj
        rw [hl.out, ht2.out] at this
        omega)
    by_cases h1 : (n : Int) < 1
    · go_enter Try.func35, Try.ntmps35
      go_wp2_with fail
      refine (isPrime_any _ _).mono ?_
      rintro e w1 ⟨rfl, rfl⟩
      rw [Hp.out]
      go_wp2
      go_ret
      exact ⟨ret_bool H.out.symm, hb0⟩
    · by_cases h2 : 12 < (n : Int)
      · go_enter Try.func35, Try.ntmps35
        go_wp2_with fail
        refine (isPrime_any _ _).mono ?_
        rintro e w1 ⟨rfl, rfl⟩
        rw [Hp.out]
        go_wp2
        go_ret
        exact ⟨ret_bool H.out.symm, hb0⟩
      · have ob : ((m : Int) != (n : Int)) = true := by simp; omega
        go_enter Try.func35, Try.ntmps35
        go_wp2_with fail
        refine (isPrime_any _ _).mono ?_
        rintro e w1 ⟨rfl, rfl⟩
        rw [Hp.out]
        go_wp2
        go_ret
        exact ⟨ret_bool H.out.symm, hb0⟩
  · obtain ⟨h1, h2, h3⟩ : ¬ (n : Int) < 1 ∧ ¬ 12 < (n : Int) ∧ m = n := by omega
    clear hbad
    subst h3
    have H : Hid (jacB p xs ys = (areB p xs && areB p ys && !hasB 0 ys)) := hide (by
      unfold jacB
      rw [Hp.out, hl.out, ht2.out, posB_eq]
      simp [show 1 ≤ m by omega, show m ≤ 12 by omega, Bool.and_assoc])
    cases hx : areB p xs
    · have F := hide (show jacB p xs ys = false by rw [H.out, hx]; rfl)
      have Hx := hide hx
      clear hx
      go_enter Try.func35, Try.ntmps35
      go_wp2_with fail
      refine (isPrime_any _ _).mono ?_
      rintro e w1 ⟨rfl, rfl⟩
      rw [Hp.out]
      go_wp2_with fail
      refine (areNumbers_any _ _ _ _ _ _ g1 hn).mono ?_
      rintro e w1 ⟨rfl, rfl⟩
      rw [Hx.out]
      go_wp2
      go_ret
      exact ⟨ret_bool F.out.symm, hb0⟩
    cases hy : areB p ys
    · have F := hide (show jacB p xs ys = false by rw [H.out, hx, hy]; rfl)
      have Hx := hide hx
      have Hy := hide hy
      clear hx hy
      go_enter Try.func35, Try.ntmps35
      go_wp2_with fail
      refine (isPrime_any _ _).mono ?_
      rintro e w1 ⟨rfl, rfl⟩
      rw [Hp.out]
      go_wp2_with fail
      refine (areNumbers_any _ _ _ _ _ _ g1 hn).mono ?_
      rintro e w1 ⟨rfl, rfl⟩
      rw [Hx.out]
      go_wp2_with fail
      refine (areNumbers_any _ _ _ _ _ _ g2 hn).mono ?_
      rintro e w1 ⟨rfl, rfl⟩
      rw [Hy.out]
      go_wp2
      go_ret
      exact ⟨ret_bool F.out.symm, hb0⟩
    · have F := hide (show jacB p xs ys = !hasB 0 ys by rw [H.out, hx, hy]; rfl)
      have Hx := hide hx
      have Hy := hide hy
      clear hx hy
      go_enter Try.func35, Try.ntmps35
      go_wp2_with fail
      refine (isPrime_any _ _).mono ?_
      rintro e w1 ⟨rfl, rfl⟩
      rw [Hp.out]
      go_wp2_with fail
      refine (areNumbers_any _ _ _ _ _ _ g1 hn).mono ?_
      rintro e w1 ⟨rfl, rfl⟩
      rw [Hx.out]
      go_wp2_with fail
      refine (areNumbers_any _ _ _ _ _ _ g2 hn).mono ?_
      rintro e w1 ⟨rfl, rfl⟩
      rw [Hy.out]
      go_wp2_with fail
      refine (contains_any _ _ _ _ _ _ g2 hn).mono ?_
      rintro e w1 ⟨rfl, rfl⟩
      go_wp2
      go_ret
      exact ⟨ret_bool F.out.symm, hb0⟩
/-- The code for data and a number in lo..hi. -/
def jcd (p : Int) (xs ys : List Int) (k lo hi : Int) : Int := if jacB p xs ys then (if lo ≤ k ∧ k ≤ hi then 0 else 2) else 1
theorem jcd_cases (p : Int) (xs ys : List Int) (k lo hi : Int) : jcd p xs ys k lo hi = 1 ∨ jcd p xs ys k lo hi = 2 ∨ (jcd p xs ys k lo hi = 0 ∧ jacB p xs ys = true ∧ lo ≤ k ∧ k ≤ hi) := by
  unfold jcd
  cases jacB p xs ys
  · exact .inl rfl
  · by_cases h : lo ≤ k ∧ k ≤ hi
    · exact .inr (.inr ⟨by simp [h], rfl, h⟩)
    · exact .inr (.inl (by simp only [if_true]; rw [if_neg h]))
end Go.Proofs.Ytpoabedlcljibaa
