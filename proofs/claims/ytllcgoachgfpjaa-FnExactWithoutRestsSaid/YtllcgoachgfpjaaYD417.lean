/- Merged texts. -/
import Derived.Test.YtllcgoachgfpjaaYD415
import Derived.Test.YtllcgoachgfpjaaYD413
import Derived.Test.YtllcgoachgfpjaaYD46
import Derived.Test.YtllcgoachgfpjaaYD42
import Derived.Test.YtllcgoachgfpjaaYD44
/- Mathematics of recurrences: one step, the polynomials P(k) and Q(k). No program. -/
namespace Go.Proofs.Ytllcgoachgfpjaa
open Go.RowKit
set_option linter.unusedVariables false
set_option linter.unusedSimpArgs false

def opp (p x : Int) : Int := (p - x) % p
def linM (p a : Int) : List Int := [opp p a, 1]
/-- (x - a) f - b g. -/
def stp (p a b : Int) (f g : List Int) : List Int := addM p (mulM p (linM p a) f) g (opp p b)
/-- The last two polynomials of the recurrence, begun with c, d and the numbers at s. -/
def rcP (p : Int) (xs ys : List Int) (s : Nat) (c d : List Int) : Nat → List Int × List Int
  | 0 => (c, d)
  | i + 1 => ((rcP p xs ys s c d i).2, stp p (xs.getD (s + i) 0) (ys.getD (s + i) 0) (rcP p xs ys s c d i).2 (rcP p xs ys s c d i).1)
def polJ (p : Int) (xs ys : List Int) (k : Nat) : List Int := (rcP p xs ys 0 [] [1] k).2
def secJ (p : Int) (xs ys : List Int) (k : Nat) : List Int := (rcP p xs ys 1 [] [1] k).1

theorem opp_rng {p x : Int} (hp : 2 ≤ p) : 0 ≤ opp p x ∧ opp p x < p := modb hp
theorem opp_neg (p x : Int) : (-x) % p = opp p x := by
  unfold opp
  rw [show p - x = -x + p * 1 by omega, Int.add_mul_emod_self_left]
theorem linM_poly {p a : Int} (hp : 2 ≤ p) : polyB p (linM p a) = true := by
  have := opp_rng (x := a) hp
  simp [polyB, areB, okN, lastZ, linM]
  omega
/-- A polynomial of a small degree. -/
def Small (p : Int) (m : Nat) (f : List Int) : Prop := polyB p f = true ∧ f.length ≤ m
theorem Small.are {p : Int} {m : Nat} {f : List Int} (h : Small p m f) : areB p f = true := (polyB_rng h.1).2.1
theorem Small.nil (p : Int) (m : Nat) : Small p m [] := ⟨by simp [polyB, areB], by simp⟩
theorem Small.one {p : Int} (hp : 2 ≤ p) {m : Nat} (hm : 1 ≤ m) : Small p m [1] := ⟨by simp [polyB, areB, okN, lastZ]; omega, by simpa using hm⟩
theorem lin_len (p a : Int) (f : List Int) : (mulM p (linM p a) f).length ≤ f.length + 1 := by
  by_cases h : f = []
  · rw [mulM_nil (.inr h)]; simp
  · rw [mulM_len (by simp [linM]) h]; simp [linM]; omega
theorem stp_small {p : Int} (hp : 2 ≤ p) {m : Nat} (hm : m ≤ 24) {f g : List Int} (a b : Int) (hf : Small p m f) (hg : Small p m g) : Small p (m + 1) (stp p a b f g) := by
  have h1 := lin_len p a f
  have h2 := hf.2
  have h3 := hg.2
  refine ⟨addM_poly hp (by omega) (by omega) (mulM_are hp), ?_⟩
  have := addM_up (p := p) (f := mulM p (linM p a) f) (g := g) (k := opp p b)
  unfold stp
  omega
theorem stp_trim {p : Int} (hp : primeB p = true) {m : Nat} {f : List Int} (a : Int) (hf : Small p m f) : trimL (mulM p (linM p a) f) = mulM p (linM p a) f :=
  mulM_trim hp (linM_poly (primeB_lo hp).1) hf.1
theorem rcP_small {p : Int} (hp : 2 ≤ p) (xs ys : List Int) (s m : Nat) {c d : List Int} (hc : Small p m c) (hd : Small p m d) : ∀ i, m + i ≤ 25 → Small p (m + i) (rcP p xs ys s c d i).1 ∧ Small p (m + i) (rcP p xs ys s c d i).2 := by
  intro i
  induction i with
  | zero => intro _; exact ⟨hc, hd⟩
  | succ i ih =>
    intro hi
    obtain ⟨h1, h2⟩ := ih (by omega)
    exact ⟨⟨h2.1, Nat.le_trans h2.2 (by omega)⟩, stp_small hp (show m + i ≤ 24 by omega) _ _ h2 h1⟩
theorem polJ_small {p : Int} (hp : 2 ≤ p) (xs ys : List Int) (k : Nat) (hk : k ≤ 24) : Small p (k + 1) (polJ p xs ys k) := by
  have := (rcP_small hp xs ys 0 1 (Small.nil p 1) (Small.one hp (Nat.le_refl _)) k (by omega)).2
  rwa [Nat.add_comm] at this
theorem secJ_small {p : Int} (hp : 2 ≤ p) (xs ys : List Int) (k : Nat) (hk : k ≤ 24) : Small p (k + 1) (secJ p xs ys k) := by
  have := (rcP_small hp xs ys 1 1 (Small.nil p 1) (Small.one hp (Nat.le_refl _)) k (by omega)).1
  rwa [Nat.add_comm] at this
theorem addM_nil {p k : Int} {f : List Int} (h : trimL f = f) : addM p f [] k = f := by
  unfold addM
  have : tab (max f.length ([] : List Int).length) (sumH p k f [] ([] : List Int).length) = f := by
    rw [show max f.length ([] : List Int).length = f.length by simp]
    conv => rhs; rw [tab_of f _ rfl]
    apply tab_congr
    intro j _
    simp [sumH]
  rw [this, h]
theorem stp_one {p : Int} (hp : 2 ≤ p) (a b : Int) : stp p a b [1] [] = linM p a := by
  unfold stp
  rw [mulM_comm hp, mulM_one hp (polyB_rng (linM_poly hp)).2.1]
  exact addM_nil (trimL_self (by simp [linM]))
theorem polJ_zero (p : Int) (xs ys : List Int) : polJ p xs ys 0 = [1] := rfl
theorem polJ_one {p : Int} (hp : 2 ≤ p) (xs ys : List Int) : polJ p xs ys 1 = linM p (xs.getD 0 0) := stp_one hp _ _
theorem rcP_one (p : Int) (xs ys : List Int) (s : Nat) (c d : List Int) (i : Nat) : (rcP p xs ys s c d (i + 1)).1 = (rcP p xs ys s c d i).2 := rfl
theorem rcP_succ (p : Int) (xs ys : List Int) (s : Nat) (c d : List Int) (i : Nat) : rcP p xs ys s c d (i + 1) = ((rcP p xs ys s c d i).2, stp p (xs.getD (s + i) 0) (ys.getD (s + i) 0) (rcP p xs ys s c d i).2 (rcP p xs ys s c d i).1) := rfl
theorem polJ_step (p : Int) (xs ys : List Int) (i : Nat) : polJ p xs ys (i + 2) = stp p (xs.getD (i + 1) 0) (ys.getD (i + 1) 0) (polJ p xs ys (i + 1)) (polJ p xs ys i) := by
  have e := rcP_succ p xs ys 0 [] [1] (i + 1)
  have e1 := rcP_succ p xs ys 0 [] [1] i
  unfold polJ
  rw [e, e1]
  simp only [Nat.zero_add]
theorem secJ_zero (p : Int) (xs ys : List Int) : secJ p xs ys 0 = [] := rfl
theorem secJ_one (p : Int) (xs ys : List Int) : secJ p xs ys 1 = [1] := rfl
theorem secJ_step (p : Int) (xs ys : List Int) (i : Nat) : secJ p xs ys (i + 2) = stp p (xs.getD (i + 1) 0) (ys.getD (i + 1) 0) (secJ p xs ys (i + 1)) (secJ p xs ys i) := by
  have e := rcP_succ p xs ys 1 [] [1] (i + 1)
  have e1 := rcP_succ p xs ys 1 [] [1] i
  unfold secJ
  rw [e, e1, Nat.add_comm 1 i]
end Go.Proofs.Ytllcgoachgfpjaa
/- Contracts: l02Numbers, l02Are, AreMoments (program and model). -/
namespace Go.Proofs.Ytllcgoachgfpjaa
open Go.RowKit
set_option linter.unusedVariables false
set_option linter.unusedSimpArgs false

def momB (p : Int) (xs : List Int) : Bool := primeB p && decide (1 ≤ xs.length) && decide (xs.length ≤ 24) && areB p xs
theorem momB_rng {p : Int} {xs : List Int} (h : momB p xs = true) : primeB p = true ∧ 1 ≤ xs.length ∧ xs.length ≤ 24 ∧ areB p xs = true := by
  unfold momB at h
  simp only [Bool.and_eq_true, decide_eq_true_eq] at h
  exact ⟨h.1.1.1, h.1.1.2, h.1.2, h.2⟩
set_option maxRecDepth 100000 in
set_option maxHeartbeats 800000 in
theorem l02Numbers_any (p : Int) (a : Option Addr) (n c : Nat) (xs : List Int) (w : World) (hs : SL w a n c xs) (hn : n ≤ 4000000) (hp : -1000000000000 ≤ p) (hp2 : p ≤ 1000000000000) :
    Calls Try.prog 97 #[.int .i64 p, .slice a n c] w fun e w' => e = .returned (.bool (areB p xs)) ∧ w = w' := by
  have hl := hide hs.len
  by_cases h0 : n = 0
  · subst h0
    obtain rfl := hs.empty
    go_enter Try.func97, Try.ntmps97
    go_wp2
    refine wp_loop_rounds 1 ?_
    rw [rounds_succ]
    go_wp2
    go_ret
    exact ⟨rfl, rfl⟩
  obtain ⟨b, off, rfl, hbw, hcell⟩ := hs.at (by omega)
  clear hs
  go_enter Try.func97, Try.ntmps97
  go_wp2
  go_loop [5] (fun i => ∃ k : Nat, k ≤ n ∧ i = .int .i64 k ∧ Hid (areB p (xs.take k) = true)) (fun i => n - (intOf i).toNat)
  case atStart => exact ⟨0, by omega, rfl, by simp [Hid, areB]⟩
  case round =>
    obtain ⟨k, hk, rfl, hR⟩ := hrel
    by_cases hlt : k < n
    · have e1 := hcell k hlt
      have hsn := Lib.hid (areB_snoc p xs k (by rw [hl.out]; exact hlt))
      obtain ⟨x, hx⟩ : ∃ x, x = xs.getD k 0 := ⟨_, rfl⟩
      rw [← hx] at e1
      have Hx := Lib.hid hx
      clear hx hcell
      by_cases hok : 0 ≤ x ∧ x ≤ p - 1
      · go_wp2_with (go_at_call 103; refine (l01In_yes _ _ _ _ hok.1 hok.2).mono ?_; rintro e w' ⟨rfl, rfl⟩)
        go_round
        case rel => exact ⟨k + 1, by omega, by go_num, hide (by rw [hsn.out, hR.out, ← Hx.out]; simp [okN]; omega)⟩
        case measure => simp [intOf]; omega
      · have hF : Hid (areB p xs = false) := hide (areB_false p xs k (by rw [hl.out]; exact hlt) (by rw [← Hx.out]; simp [okN]; omega))
        go_wp2_with (go_at_call 103; refine (l01In_no _ _ _ _ hok).mono ?_; rintro e w' ⟨rfl, rfl⟩)
        go_ret
        exact ⟨ret_bool hF.out.symm, rfl⟩
    · obtain rfl : k = n := by omega
      have hF : Hid (areB p xs = true) := hide (by have := hR.out; rwa [List.take_of_length_le (by rw [hl.out]; omega)] at this)
      go_wp2
      go_ret
      exact ⟨ret_bool hF.out.symm, rfl⟩
set_option maxRecDepth 100000 in
set_option maxHeartbeats 800000 in
theorem l02Are_any (p : Int) (a : Option Addr) (n c : Nat) (xs : List Int) (w : World) (hs : SL w a n c xs) (hn : n ≤ 4000000) :
    Calls Try.prog 82 #[mom p a n c] w fun e w' => e = .returned (.bool (momB p xs)) ∧ Below w.heap.size w w' := by
  have hl := hide hs.len
  have hb0 := bl1 w (.cells #[.int .i64 p, .slice a n c] 26)
  have g1 := hs.below hb0
  cases hp : primeB p
  · have H : Hid (momB p xs = false) := hide (by simp [momB, hp])
    have Hp := hide hp
    clear hp
    go_enter Try.func82, Try.ntmps82
    go_wp2_with fail
    refine (l01Prime_any _ _).mono ?_
    rintro e w1 ⟨rfl, rfl⟩
    rw [Hp.out]
    go_wp2
    go_ret
    exact ⟨ret_bool H.out.symm, hb0⟩
  · have Hp := hide hp
    obtain ⟨hp1, hp2⟩ := primeB_lo hp
    clear hp
    by_cases h1 : (1 : Int) ≤ (n : Int)
    · by_cases h2 : (n : Int) ≤ 24
      · have H : Hid (momB p xs = areB p xs) := hide (by simp [momB, Hp.out, hl.out]; omega)
        go_enter Try.func82, Try.ntmps82
        go_wp2_with fail
        refine (l01Prime_any _ _).mono ?_
        rintro e w1 ⟨rfl, rfl⟩
        rw [Hp.out]
        go_wp2_with fail
        refine (l02Numbers_any _ _ _ _ _ _ g1 hn (by omega) (by omega)).mono ?_
        rintro e w1 ⟨rfl, rfl⟩
        go_wp2
        go_ret
        exact ⟨ret_bool H.out.symm, hb0⟩
      · have H : Hid (momB p xs = false) := hide (by simp [momB, hl.out]; omega)
        go_enter Try.func82, Try.ntmps82
        go_wp2_with fail
        refine (l01Prime_any _ _).mono ?_
        rintro e w1 ⟨rfl, rfl⟩
        rw [Hp.out]
        go_wp2
        go_ret
        exact ⟨ret_bool H.out.symm, hb0⟩
    · have H : Hid (momB p xs = false) := hide (by simp [momB, hl.out]; omega)
      go_enter Try.func82, Try.ntmps82
      go_wp2_with fail
      refine (l01Prime_any _ _).mono ?_
      rintro e w1 ⟨rfl, rfl⟩
      rw [Hp.out]
      go_wp2
      go_ret
      exact ⟨ret_bool H.out.symm, hb0⟩
set_option maxRecDepth 100000 in
set_option maxHeartbeats 800000 in
theorem areMoments_any (p : Int) (a : Option Addr) (n c : Nat) (xs : List Int) (w : World) (hs : SL w a n c xs) (hn : n ≤ 4000000) :
    Calls Try.prog 84 #[mom p a n c] w fun e w' => e = .returned (.bool (momB p xs)) ∧ Below w.heap.size w w' := by
  have hl := hide hs.len
  have hb0 := bl1 w (.cells #[.int .i64 p, .slice a n c] 26)
  have g1 := hs.below hb0
  cases hp : primeB p
  · have H : Hid (momB p xs = false) := hide (by simp [momB, hp])
    have Hp := hide hp
    clear hp
    go_enter Try.func84, Try.ntmps84
    go_wp2_with fail
    refine (isPrime_any _ _).mono ?_
    rintro e w1 ⟨rfl, rfl⟩
    rw [Hp.out]
    go_wp2
    go_ret
    exact ⟨ret_bool H.out.symm, hb0⟩
  · have Hp := hide hp
    obtain ⟨hp1, hp2⟩ := primeB_lo hp
    clear hp
    by_cases h1 : (n : Int) < 1
    · have H : Hid (momB p xs = false) := hide (by simp [momB, hl.out]; omega)
      go_enter Try.func84, Try.ntmps84
      go_wp2_with fail
      refine (isPrime_any _ _).mono ?_
      rintro e w1 ⟨rfl, rfl⟩
      rw [Hp.out]
      go_wp2
      go_ret
      exact ⟨ret_bool H.out.symm, hb0⟩
    · by_cases h2 : 24 < (n : Int)
      · have H : Hid (momB p xs = false) := hide (by simp [momB, hl.out]; omega)
        go_enter Try.func84, Try.ntmps84
        go_wp2_with fail
        refine (isPrime_any _ _).mono ?_
        rintro e w1 ⟨rfl, rfl⟩
        rw [Hp.out]
        go_wp2
        go_ret
        exact ⟨ret_bool H.out.symm, hb0⟩
      · have H : Hid (momB p xs = areB p xs) := hide (by simp [momB, Hp.out, hl.out]; omega)
        go_enter Try.func84, Try.ntmps84
        go_wp2_with fail
        refine (isPrime_any _ _).mono ?_
        rintro e w1 ⟨rfl, rfl⟩
        rw [Hp.out]
        go_wp2_with fail
        refine (areNumbers_any _ _ _ _ _ _ g1 hn).mono ?_
        rintro e w1 ⟨rfl, rfl⟩
        go_wp2
        go_ret
        exact ⟨ret_bool H.out.symm, hb0⟩
end Go.Proofs.Ytllcgoachgfpjaa
