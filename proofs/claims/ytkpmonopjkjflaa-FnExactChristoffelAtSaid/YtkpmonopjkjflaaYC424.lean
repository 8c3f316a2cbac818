/- Merged texts. -/
import Derived.Test.YtkpmonopjkjflaaYC421
import Derived.Test.YtkpmonopjkjflaaYC418
import Derived.Test.YtkpmonopjkjflaaYC422
import Derived.Test.YtkpmonopjkjflaaYC423
import Derived.Test.YtkpmonopjkjflaaYC43
/- Contracts: l05Reverse (model), slices.Reverse on an owned list (program), SeriesOfJacobi (program and model). -/
namespace Go.Proofs.Ytkpmonopjkjflaa
open Go.RowKit
set_option linter.unusedVariables false
set_option linter.unusedSimpArgs false

/-- The numbers in the reverse order. -/
def revL (xs : List Int) : List Int := tab xs.length (fun j => xs.getD (xs.length - 1 - j) 0)
theorem revL_len (xs : List Int) : (revL xs).length = xs.length := tab_len _ _
theorem revL_are {p : Int} {xs : List Int} (h : areB p xs = true) : areB p (revL xs) = true := areB_mk fun j hj => by
  rw [revL_len] at hj
  unfold revL
  rw [tab_at _ _ _ hj]
  exact areB_at h _ (by omega)
theorem addM_long {p k : Int} {f g : List Int} (hlt : g.length < f.length) (hl : f.getD (f.length - 1) 0 ≠ 0) : (addM p f g k).length = f.length := by
  unfold addM
  rw [show max f.length g.length = f.length by omega, trimL_self, tab_len]
  rw [tab_len, tab_at _ _ _ (by omega)]
  unfold sumH
  rw [if_neg (by omega)]
  exact hl
theorem lin_full {p : Int} (hp : primeB p = true) (a : Int) {f : List Int} (hf : polyB p f = true) (h0 : f.length ≠ 0) : (mulM p (linM p a) f).length = f.length + 1 ∧ (mulM p (linM p a) f).getD ((mulM p (linM p a) f).length - 1) 0 ≠ 0 := by
  have e1 : (mulM p (linM p a) f).length = f.length + 1 := by
    rw [mulM_len (by simp [linM]) (fun h => h0 (by rw [h]; rfl))]
    simp [linM]
    omega
  refine ⟨e1, ?_⟩
  have e := mulM_trim hp (linM_poly (primeB_lo hp).1 (a := a)) hf
  have := trimL_last (mulM p (linM p a) f)
  rw [e] at this
  rcases this with h | h
  · omega
  · exact h
theorem polJ_len2 {p : Int} (hp : primeB p = true) (xs ys : List Int) : ∀ i, i ≤ 22 → (polJ p xs ys i).length = i + 1 ∧ (polJ p xs ys (i + 1)).length = i + 2 := by
  intro i
  induction i with
  | zero => intro _; exact ⟨rfl, by rw [polJ_one (primeB_lo hp).1]; rfl⟩
  | succ i ih =>
    intro hi
    obtain ⟨h1, h2⟩ := ih (by omega)
    refine ⟨h2, ?_⟩
    have hf := (polJ_small (primeB_lo hp).1 xs ys (i + 1) (by omega)).1
    obtain ⟨l1, l2⟩ := lin_full hp (xs.getD (i + 1) 0) hf (by omega)
    rw [polJ_step]
    unfold stp
    rw [addM_long (by omega) l2]
    omega
theorem polJ_len {p : Int} (hp : primeB p = true) (xs ys : List Int) (i : Nat) (hi : i ≤ 22) : (polJ p xs ys i).length = i + 1 := (polJ_len2 hp xs ys i hi).1
def sojC (p : Int) (xs ys : List Int) (k : Int) : Int := jcd p xs ys k 0 24
def sojF (p : Int) (xs ys : List Int) : List Int := addM p [] (secJ p xs ys xs.length) (ys.getD 0 0)
def sojV (p : Int) (xs ys : List Int) (k : Int) : List Int := if sojC p xs ys k = 0 then serL p (revL (sojF p xs ys)) (revL (polJ p xs ys xs.length)) k.toNat else []
end Go.Proofs.Ytkpmonopjkjflaa
/- Contracts: reversed, checkNonzero (program), l06Code, l02Back (model), ReversePolynomial (program and model). -/
namespace Go.Proofs.Ytkpmonopjkjflaa
open Go.RowKit
set_option linter.unusedVariables false
set_option linter.unusedSimpArgs false

/-- The first n lists all hold a number. -/
def nzB (X : Nat → List Int) : Nat → Bool
  | 0 => true
  | k + 1 => nzB X k && !(X k).isEmpty
def nzC (p : Int) (X : Nat → List Int) (n : Nat) : Int := if chkC p X n = 0 then (if nzB X n then 0 else 5) else chkC p X n
theorem nzB_false (X : Nat → List Int) (n k : Nat) (hk : k < n) (h : (X k).isEmpty = true) : nzB X n = false := by
  induction n with
  | zero => omega
  | succ n ih =>
    rcases (show k = n ∨ k < n by omega) with rfl | h'
    · unfold nzB; rw [h]; simp
    · unfold nzB; rw [ih h']; rfl
theorem chkC_cases (p : Int) (X : Nat → List Int) (n : Nat) : chkC p X n = 1 ∨ chkC p X n = 2 ∨ chkC p X n = 0 := by
  unfold chkC
  cases chkB p X n <;> cases primeB p <;> simp
theorem isEmpty_len {f : List Int} {n : Nat} (h : f.length = n) : f.isEmpty = decide (n = 0) := by
  subst h
  cases f <;> simp
set_option maxHeartbeats 1600000 in
theorem l06Code_any (p : Int) (b n c : Nat) (A : Nat → Option Addr) (L C : Nat → Nat) (X : Nat → List Int) (w : World) (hs : Lists w b n A L C X) (hn : n ≤ 100) :
    Calls Try.prog 87 #[.int .i64 p, .slice (some ⟨b, 0, none⟩) n c] w fun e w' => e = .returned (.int .i64 (nzC p X n)) ∧ w = w' := by
  rcases chkC_cases p X n with h | h | h
  · have HC := hide (show nzC p X n = 1 by simp [nzC, h])
    have Hc := hide h
    clear h
    go_enter Try.func87, Try.ntmps87
    go_wp2_with fail
    refine (l01Code_any p b n c A L C X _ hs hn).mono ?_
    rintro e w1 ⟨rfl, rfl⟩
    rw [Hc.out]
    go_wp2
    go_ret
    exact ⟨ret_int HC.out.symm, rfl⟩
  · have HC := hide (show nzC p X n = 2 by simp [nzC, h])
    have Hc := hide h
    clear h
    go_enter Try.func87, Try.ntmps87
    go_wp2_with fail
    refine (l01Code_any p b n c A L C X _ hs hn).mono ?_
    rintro e w1 ⟨rfl, rfl⟩
    rw [Hc.out]
    go_wp2
    go_ret
    exact ⟨ret_int HC.out.symm, rfl⟩
  have Hc := hide h
  have hN0 := hide (show nzB X 0 = true from rfl)
  clear h
  go_enter Try.func87, Try.ntmps87
  go_wp2_with fail
  refine (l01Code_any p b n c A L C X _ hs hn).mono ?_
  rintro e w1 ⟨rfl, rfl⟩
  rw [Hc.out]
  go_wp2
  go_loop [6] (fun i => ∃ k : Nat, k ≤ n ∧ i = .int .i64 k ∧ Hid (nzB X k = true)) (fun i => n - (intOf i).toNat)
  case atStart => exact ⟨0, by omega, rfl, hN0⟩
  case round =>
    obtain ⟨k, hk, rfl, hR⟩ := hrel
    clear hN0
    by_cases hlt : k < n
    · obtain ⟨h1, h2, h3⟩ := hs k hlt
      have hl := h2.len
      by_cases h0 : L k = 0
      · have hF := Lib.hid (show nzC p X n = 5 by unfold nzC; rw [if_pos Hc.out, nzB_false X n k hlt (by rw [isEmpty_len hl]; simpa using h0)]; rfl)
        rw [h0] at h1
        clear hl h2 h0
        go_wp2
        go_ret
        exact ⟨ret_int hF.out.symm, rfl⟩
      · have hF := Lib.hid (show nzB X (k + 1) = true by unfold nzB; rw [hR.out, isEmpty_len hl]; simpa using h0)
        have h0b : ((L k : Int) == 0) = false := by simpa using h0
        clear hl h2 h0
        go_wp2
        go_round
        case rel => exact ⟨k + 1, by omega, by go_num, hF⟩
        case measure => simp [intOf]; omega
    · obtain rfl : k = n := by omega
      have hF := Lib.hid (show nzC p X k = 0 by unfold nzC; rw [if_pos Hc.out, hR.out]; rfl)
      go_wp2
      go_ret
      exact ⟨ret_int hF.out.symm, rfl⟩
def nz1 (p : Int) (f : List Int) : Int := if chk1 p f = 0 then (if f.isEmpty then 5 else 0) else chk1 p f
def nz2 (p : Int) (f g : List Int) : Int := if chk2 p f g = 0 then (if f.isEmpty || g.isEmpty then 5 else 0) else chk2 p f g
theorem nzC1 (p : Int) (f : List Int) : nzC p (fun _ => f) 1 = nz1 p f := by
  unfold nzC nz1
  rw [chkC1]
  simp only [nzB, Bool.true_and]
  cases f.isEmpty <;> simp
theorem nzC2 (p : Int) (f g : List Int) : nzC p (fun j => if j = 0 then f else g) 2 = nz2 p f g := by
  unfold nzC nz2
  rw [chkC2]
  simp only [nzB, Bool.true_and, if_true, Nat.one_ne_zero, if_false]
  cases f.isEmpty <;> cases g.isEmpty <;> rfl
theorem nz1_cases (p : Int) (f : List Int) : (nz1 p f = 1 ∨ nz1 p f = 2 ∨ nz1 p f = 5) ∨ (nz1 p f = 0 ∧ polyB p f = true ∧ primeB p = true ∧ f.length ≠ 0) := by
  unfold nz1
  rcases chk1_cases p f with h | h | ⟨h, h1, h2⟩ <;> rw [h]
  · exact .inl (.inl (by simp))
  · exact .inl (.inr (.inl (by simp)))
  · cases he : f.isEmpty
    · exact .inr ⟨by simp, h1, h2, by cases f <;> simp at he ⊢⟩
    · exact .inl (.inr (.inr (by simp)))
theorem nz2_cases (p : Int) (f g : List Int) : (nz2 p f g = 1 ∨ nz2 p f g = 2 ∨ nz2 p f g = 5) ∨ (nz2 p f g = 0 ∧ polyB p f = true ∧ polyB p g = true ∧ primeB p = true ∧ f.length ≠ 0 ∧ g.length ≠ 0) := by
  unfold nz2
  rcases chk2_cases p f g with h | h | ⟨h, h1, h2, h3⟩ <;> rw [h]
  · exact .inl (.inl (by simp))
  · exact .inl (.inr (.inl (by simp)))
  · cases he : f.isEmpty
    · cases hg : g.isEmpty
      · exact .inr ⟨by simp, h1, h2, h3, by cases f <;> simp at he ⊢, by cases g <;> simp at hg ⊢⟩
      · exact .inl (.inr (.inr (by simp)))
    · exact .inl (.inr (.inr (by simp)))
theorem nzs1 (p : Int) (a1 : Option Addr) (n1 c1 : Nat) (f : List Int) (c : Int) (w : World) (h1 : SL w a1 n1 c1 f) (b1 : n1 ≤ 4000000) (hc : nz1 p f = c) :
    Calls Try.prog 87 #[.int .i64 p, .slice (some ⟨w.heap.size, 0, none⟩) 1 1] (w.alloc (.cells #[.slice a1 n1 c1] 22)) fun e w' => e = .returned (.int .i64 c) ∧ Below w.heap.size w w' :=
  (l06Code_any p w.heap.size 1 1 _ _ _ _ _ (lists1 h1 b1) (by omega)).mono fun e w' h => ⟨by rw [h.1, nzC1, hc], by rw [← h.2]; exact bl1 w _⟩
theorem nzs2 (p : Int) (a1 : Option Addr) (n1 c1 : Nat) (f : List Int) (a2 : Option Addr) (n2 c2 : Nat) (g : List Int) (c : Int) (w : World) (h1 : SL w a1 n1 c1 f) (h2 : SL w a2 n2 c2 g) (b1 : n1 ≤ 4000000) (b2 : n2 ≤ 4000000) (hc : nz2 p f g = c) :
    Calls Try.prog 87 #[.int .i64 p, .slice (some ⟨w.heap.size, 0, none⟩) 2 2] (w.alloc (.cells #[.slice a1 n1 c1, .slice a2 n2 c2] 22)) fun e w' => e = .returned (.int .i64 c) ∧ Below w.heap.size w w' :=
  (l06Code_any p w.heap.size 2 2 _ _ _ _ _ (lists2 h1 h2 b1 b2) (by omega)).mono fun e w' h => ⟨by rw [h.1, nzC2, hc], by rw [← h.2]; exact bl1 w _⟩
def rvpC (p : Int) (f : List Int) : Int := if nz1 p f = 0 then (if f.getD 0 0 = 0 then 5 else 0) else nz1 p f
def rvpV (p : Int) (f : List Int) : List Int := if rvpC p f = 0 then revL f else []
end Go.Proofs.Ytkpmonopjkjflaa
