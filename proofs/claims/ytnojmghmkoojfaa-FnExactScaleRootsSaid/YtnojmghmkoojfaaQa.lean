/- Contracts: reversed, checkNonzero (program), l06Code, l02Back (model), ReversePolynomial (program and model). -/
import Derived.Test.YtnojmghmkoojfaaCh
import Derived.Test.YtnojmghmkoojfaaSk
namespace Go.Proofs.Ytnojmghmkoojfaa
open Go.RowKit
set_option linter.unusedVariables false
set_option linter.unusedSimpArgs false

/-- The first n lists all hold a number. -/
def nzB (X : Nat → List Int) : Nat → Bool
  | 0 => true
  | k + 1 => nzB X k && !(X k).isEmpty
def nzC (p : Int) (X : Nat → List Int) (n : Nat) : Int := if chkC p X n = 0 then (if nzB X n then 0 else 5) else chkC p X n
theorem nzB_false (X : Nat → List Int) (n k : Nat) (hk : k < n) (h : (X k).isEmpty = true) : nzB X n = false := by
  induction n with
  | zero => omega
  | succ n ih =>
    rcases (show k = n ∨ k < n by omega) with rfl | h'
    · unfold nzB; rw [h]; simp
    · unfold nzB; rw [ih h']; rfl
theorem chkC_cases (p : Int) (X : Nat → List Int) (n : Nat) : chkC p X n = 1 ∨ chkC p X n = 2 ∨ chkC p X n = 0 := by
  unfold chkC
  cases chkB p X n <;> cases primeB p <;> simp
theorem isEmpty_len {f : List Int} {n : Nat} (h : f.length = n) : f.isEmpty = decide (n = 0) := by
  subst h
  cases f <;> simp
set_option maxHeartbeats 1600000 in
theorem checkNonzero_any (p : Int) (b n c : Nat) (A : Nat → Option Addr) (L C : Nat → Nat) (X : Nat → List Int) (w : World) (hs : Lists w b n A L C X) (hn : n ≤ 100) :
    Calls Try.prog 70 #[.int .i64 p, .slice (some ⟨b, 0, none⟩) n c] w fun e w' => e = .returned (.int .i64 (nzC p X n)) ∧ Below w.heap.size w w' := by
  rcases chkC_cases p X n with h | h | h
  · have HC := hide (show nzC p X n = 1 by simp [nzC, h])
    have Hc := hide h
    clear h
    go_enter Try.func70, Try.ntmps70
    go_wp2_with fail
    refine (checkPolys_any p b n c A L C X _ hs hn).mono ?_
    rintro e w1 ⟨rfl, hb1⟩
    rw [Hc.out]
    go_wp2
    go_ret
    exact ⟨ret_int HC.out.symm, hb1⟩
  · have HC := hide (show nzC p X n = 2 by simp [nzC, h])
    have Hc := hide h
    clear h
    go_enter Try.func70, Try.ntmps70
    go_wp2_with fail
    refine (checkPolys_any p b n c A L C X _ hs hn).mono ?_
    rintro e w1 ⟨rfl, hb1⟩
    rw [Hc.out]
    go_wp2
    go_ret
    exact ⟨ret_int HC.out.symm, hb1⟩
  have Hc := hide h
  have hN0 := hide (show nzB X 0 = true from rfl)
  clear h
  go_enter Try.func70, Try.ntmps70
  go_wp2_with fail
  refine (checkPolys_any p b n c A L C X _ hs hn).mono ?_
  rintro e w1 ⟨rfl, hb1⟩
  rw [Hc.out]
  go_wp2
  go_loop [16] (fun i => ∃ k : Nat, k ≤ n ∧ i = .int .i64 k ∧ Hid (nzB X k = true)) (fun i => n - (intOf i).toNat)
  case atStart => exact ⟨0, by omega, rfl, hN0⟩
  case round =>
    obtain ⟨k, hk, rfl, hR⟩ := hrel
    clear hN0
    by_cases hlt : k < n
    · obtain ⟨h1, h2, h3⟩ := hs.below hb1 k hlt
      have hl := h2.len
      by_cases h0 : L k = 0
      · have hF := Lib.hid (show nzC p X n = 5 by unfold nzC; rw [if_pos Hc.out, nzB_false X n k hlt (by rw [isEmpty_len hl]; simpa using h0)]; rfl)
        rw [h0] at h1
        clear hl h2 h0
        go_wp2
        go_ret
        exact ⟨ret_int hF.out.symm, hb1⟩
      · have hF := Lib.hid (show nzB X (k + 1) = true by unfold nzB; rw [hR.out, isEmpty_len hl]; simpa using h0)
        have h0b : ((L k : Int) == 0) = false := by simpa using h0
        clear hl h2 h0
        go_wp2
        go_round
        case rel => exact ⟨k + 1, by omega, by go_num, hF⟩
        case measure => simp [intOf]; omega
    · obtain rfl : k = n := by omega
      have hF := Lib.hid (show nzC p X k = 0 by unfold nzC; rw [if_pos Hc.out, hR.out]; rfl)
      go_wp2
      go_ret
      exact ⟨ret_int hF.out.symm, hb1⟩
set_option maxHeartbeats 1600000 in
theorem l06Code_any (p : Int) (b n c : Nat) (A : Nat → Option Addr) (L C : Nat → Nat) (X : Nat → List Int) (w : World) (hs : Lists w b n A L C X) (hn : n ≤ 100) :
    Calls Try.prog 68 #[.int .i64 p, .slice (some ⟨b, 0, none⟩) n c] w fun e w' => e = .returned (.int .i64 (nzC p X n)) ∧ w = w' := by
  rcases chkC_cases p X n with h | h | h
  · have HC := hide (show nzC p X n = 1 by simp [nzC, h])
    have Hc := hide h
    clear h
    go_enter Try.func68, Try.ntmps68
    go_wp2_with fail
    refine (l01Code_any p b n c A L C X _ hs hn).mono ?_
    rintro e w1 ⟨rfl, rfl⟩
    rw [Hc.out]
    go_wp2
    go_ret
    exact ⟨ret_int HC.out.symm, rfl⟩
  · have HC := hide (show nzC p X n = 2 by simp [nzC, h])
    have Hc := hide h
    clear h
    go_enter Try.func68, Try.ntmps68
    go_wp2_with fail
    refine (l01Code_any p b n c A L C X _ hs hn).mono ?_
    rintro e w1 ⟨rfl, rfl⟩
    rw [Hc.out]
    go_wp2
    go_ret
    exact ⟨ret_int HC.out.symm, rfl⟩
  have Hc := hide h
  have hN0 := hide (show nzB X 0 = true from rfl)
  clear h
  go_enter Try.func68, Try.ntmps68
  go_wp2_with fail
  refine (l01Code_any p b n c A L C X _ hs hn).mono ?_
  rintro e w1 ⟨rfl, rfl⟩
  rw [Hc.out]
  go_wp2
  go_loop [6] (fun i => ∃ k : Nat, k ≤ n ∧ i = .int .i64 k ∧ Hid (nzB X k = true)) (fun i => n - (intOf i).toNat)
  case atStart => exact ⟨0, by omega, rfl, hN0⟩
  case round =>
    obtain ⟨k, hk, rfl, hR⟩ := hrel
    clear hN0
    by_cases hlt : k < n
    · obtain ⟨h1, h2, h3⟩ := hs k hlt
      have hl := h2.len
      by_cases h0 : L k = 0
      · have hF := Lib.hid (show nzC p X n = 5 by unfold nzC; rw [if_pos Hc.out, nzB_false X n k hlt (by rw [isEmpty_len hl]; simpa using h0)]; rfl)
        rw [h0] at h1
        clear hl h2 h0
        go_wp2
        go_ret
        exact ⟨ret_int hF.out.symm, rfl⟩
      · have hF := Lib.hid (show nzB X (k + 1) = true by unfold nzB; rw [hR.out, isEmpty_len hl]; simpa using h0)
        have h0b : ((L k : Int) == 0) = false := by simpa using h0
        clear hl h2 h0
        go_wp2
        go_round
        case rel => exact ⟨k + 1, by omega, by go_num, hF⟩
        case measure => simp [intOf]; omega
    · obtain rfl : k = n := by omega
      have hF := Lib.hid (show nzC p X k = 0 by unfold nzC; rw [if_pos Hc.out, hR.out]; rfl)
      go_wp2
      go_ret
      exact ⟨ret_int hF.out.symm, rfl⟩
def nz1 (p : Int) (f : List Int) : Int := if chk1 p f = 0 then (if f.isEmpty then 5 else 0) else chk1 p f
def nz2 (p : Int) (f g : List Int) : Int := if chk2 p f g = 0 then (if f.isEmpty || g.isEmpty then 5 else 0) else chk2 p f g
theorem nzC1 (p : Int) (f : List Int) : nzC p (fun _ => f) 1 = nz1 p f := by
  unfold nzC nz1
  rw [chkC1]
  simp only [nzB, Bool.true_and]
  cases f.isEmpty <;> simp
theorem nzC2 (p : Int) (f g : List Int) : nzC p (fun j => if j = 0 then f else g) 2 = nz2 p f g := by
  unfold nzC nz2
  rw [chkC2]
  simp only [nzB, Bool.true_and, if_true, Nat.one_ne_zero, if_false]
  cases f.isEmpty <;> cases g.isEmpty <;> rfl
theorem nz1_cases (p : Int) (f : List Int) : (nz1 p f = 1 ∨ nz1 p f = 2 ∨ nz1 p f = 5) ∨ (nz1 p f = 0 ∧ polyB p f = true ∧ primeB p = true ∧ f.length ≠ 0) := by
  unfold nz1
  rcases chk1_cases p f with h | h | ⟨h, h1, h2⟩ <;> rw [h]
  · exact .inl (.inl (by simp))
  · exact .inl (.inr (.inl (by simp)))
  · cases he : f.isEmpty
    · exact .inr ⟨by simp, h1, h2, by cases f <;> simp at he ⊢⟩
    · exact .inl (.inr (.inr (by simp)))
theorem nz2_cases (p : Int) (f g : List Int) : (nz2 p f g = 1 ∨ nz2 p f g = 2 ∨ nz2 p f g = 5) ∨ (nz2 p f g = 0 ∧ polyB p f = true ∧ polyB p g = true ∧ primeB p = true ∧ f.length ≠ 0 ∧ g.length ≠ 0) := by
  unfold nz2
  rcases chk2_cases p f g with h | h | ⟨h, h1, h2, h3⟩ <;> rw [h]
  · exact .inl (.inl (by simp))
  · exact .inl (.inr (.inl (by simp)))
  · cases he : f.isEmpty
    · cases hg : g.isEmpty
      · exact .inr ⟨by simp, h1, h2, h3, by cases f <;> simp at he ⊢, by cases g <;> simp at hg ⊢⟩
      · exact .inl (.inr (.inr (by simp)))
    · exact .inl (.inr (.inr (by simp)))
theorem nzi1 (p : Int) (a1 : Option Addr) (n1 c1 : Nat) (f : List Int) (c : Int) (w : World) (h1 : SL w a1 n1 c1 f) (b1 : n1 ≤ 4000000) (hc : nz1 p f = c) :
    Calls Try.prog 70 #[.int .i64 p, .slice (some ⟨w.heap.size, 0, none⟩) 1 1] (w.alloc (.cells #[.slice a1 n1 c1] 22)) fun e w' => e = .returned (.int .i64 c) ∧ Below w.heap.size w w' :=
  (checkNonzero_any p w.heap.size 1 1 _ _ _ _ _ (lists1 h1 b1) (by omega)).mono fun e w' h => ⟨by rw [h.1, nzC1, hc], (bl1 w _).trans (h.2.mono (by simp))⟩
theorem nzi2 (p : Int) (a1 : Option Addr) (n1 c1 : Nat) (f : List Int) (a2 : Option Addr) (n2 c2 : Nat) (g : List Int) (c : Int) (w : World) (h1 : SL w a1 n1 c1 f) (h2 : SL w a2 n2 c2 g) (b1 : n1 ≤ 4000000) (b2 : n2 ≤ 4000000) (hc : nz2 p f g = c) :
    Calls Try.prog 70 #[.int .i64 p, .slice (some ⟨w.heap.size, 0, none⟩) 2 2] (w.alloc (.cells #[.slice a1 n1 c1, .slice a2 n2 c2] 22)) fun e w' => e = .returned (.int .i64 c) ∧ Below w.heap.size w w' :=
  (checkNonzero_any p w.heap.size 2 2 _ _ _ _ _ (lists2 h1 h2 b1 b2) (by omega)).mono fun e w' h => ⟨by rw [h.1, nzC2, hc], (bl1 w _).trans (h.2.mono (by simp))⟩
theorem nzs1 (p : Int) (a1 : Option Addr) (n1 c1 : Nat) (f : List Int) (c : Int) (w : World) (h1 : SL w a1 n1 c1 f) (b1 : n1 ≤ 4000000) (hc : nz1 p f = c) :
    Calls Try.prog 68 #[.int .i64 p, .slice (some ⟨w.heap.size, 0, none⟩) 1 1] (w.alloc (.cells #[.slice a1 n1 c1] 22)) fun e w' => e = .returned (.int .i64 c) ∧ Below w.heap.size w w' :=
  (l06Code_any p w.heap.size 1 1 _ _ _ _ _ (lists1 h1 b1) (by omega)).mono fun e w' h => ⟨by rw [h.1, nzC1, hc], by rw [← h.2]; exact bl1 w _⟩
theorem nzs2 (p : Int) (a1 : Option Addr) (n1 c1 : Nat) (f : List Int) (a2 : Option Addr) (n2 c2 : Nat) (g : List Int) (c : Int) (w : World) (h1 : SL w a1 n1 c1 f) (h2 : SL w a2 n2 c2 g) (b1 : n1 ≤ 4000000) (b2 : n2 ≤ 4000000) (hc : nz2 p f g = c) :
    Calls Try.prog 68 #[.int .i64 p, .slice (some ⟨w.heap.size, 0, none⟩) 2 2] (w.alloc (.cells #[.slice a1 n1 c1, .slice a2 n2 c2] 22)) fun e w' => e = .returned (.int .i64 c) ∧ Below w.heap.size w w' :=
  (l06Code_any p w.heap.size 2 2 _ _ _ _ _ (lists2 h1 h2 b1 b2) (by omega)).mono fun e w' h => ⟨by rw [h.1, nzC2, hc], by rw [← h.2]; exact bl1 w _⟩
set_option maxRecDepth 100000 in
theorem reversed_any (a : Option Addr) (n c : Nat) (xs : List Int) (w : World) (hs : SL w a n c xs) (hn : n ≤ 1000) :
    Calls Try.prog 71 #[.slice a n c] w fun e w' => ∃ a' c', e = .returned (.slice a' n c') ∧ Own w.heap.size w' a' c' (revL xs) ∧ Below w.heap.size w w' := by
  have hl := hs.len
  go_enter Try.func71, Try.ntmps71
  go_wp2_with fail
  refine (clone_any a n c xs _ hs (by omega)).mono ?_
  rintro e w1 ⟨a1, c1, rfl, ho, hb⟩
  go_wp2_with fail
  refine (reverse_own w.heap.size a1 n c1 xs w1 ho hl.symm hn).mono ?_
  rintro e w2 ⟨rfl, ho2, lo, hi, ht, hlo, _, _⟩
  have hB := below_touch hb ht hlo hb.size
  go_wp2
  go_ret
  exact ⟨a1, c1, rfl, ho2, hB⟩
set_option maxRecDepth 100000 in
set_option maxHeartbeats 1600000 in
theorem l02Back_any (a : Option Addr) (n c : Nat) (xs : List Int) (w : World) (hs : SL w a n c xs) (hn : n ≤ 100000) :
    Calls Try.prog 69 #[.slice a n c] w fun e w' => ∃ a' c', e = .returned (.slice a' n c') ∧ Own w.heap.size w' a' c' (revL xs) ∧ Below w.heap.size w w' := by
  have hl := hide hs.len
  have ho : Own w.heap.size (w.alloc (.cells #[] 2)) (some ⟨w.heap.size, 0, none⟩) 0 [] := World.ownsRow_lit w (base := w.heap.size) (e := 2) (size := 1) #[] 0 (Nat.le_refl _) (by simp) rfl
  have hb0 := bl1 w (.cells #[] 2)
  have hz0 : Hid (([] : List Int) = tab 0 (fun j => xs.getD (n - 1 - j) 0)) := hide rfl
  have v0 : IntKind.i64.wrap ((n : Int) - 1) = (n : Int) - 1 := IntWalk.i64_in _ (by omega)
  go_enter Try.func69, Try.ntmps69
  go_wp2
  clear v0
  go_loopw [3, 4] (fun ov iv wr => ∃ (k : Nat) (a' : Option Addr) (c' : Nat) (zs : List Int), k ≤ n ∧ iv = .int .i64 ((n : Int) - 1 - k) ∧ ov = .slice a' k c' ∧ Hid (zs = tab k (fun j => xs.getD (n - 1 - j) 0)) ∧ Hid (zs.length = k) ∧ Hid (Own w.heap.size wr a' c' zs) ∧ Below w.heap.size w wr) (fun _ iv _ => (intOf iv + 1).toNat)
  case atStart => exact ⟨0, _, 0, [], by omega, by simp, rfl, hz0, hide rfl, hide ho, hb0⟩
  case round =>
    obtain ⟨k, a', c', zs, hk, rfl, rfl, hZ, hzl, hO, hBr⟩ := hrel
    clear ho hb0 hz0
    by_cases hlt : k < n
    · obtain ⟨i, hi⟩ : ∃ i : Nat, i = n - 1 - k := ⟨_, rfl⟩
      have hii : (n : Int) - 1 - k = (i : Int) := by omega
      obtain ⟨b, off, ha, hbw, hcell⟩ := (hs.below hBr).at (by omega)
      subst ha
      have e1 := hcell i (by omega)
      have hst : Hid (tab (k + 1) (fun j => xs.getD (n - 1 - j) 0) = zs ++ [xs.getD i 0]) := hide (by rw [hZ.out, hi]; exact (tab_snoc k (fun j => xs.getD (n - 1 - j) 0)).symm)
      obtain ⟨x, hx⟩ : ∃ x, xs.getD i 0 = x := ⟨_, rfl⟩
      rw [hx] at e1 hst
      rw [hii]
      have Hi := hide hi
      have q1 : (i : Int) < (n : Int) := by omega
      have q2 : (0 : Int) ≤ (i : Int) := by omega
      have v1 : IntKind.i64.wrap ((i : Int) - 1) = (i : Int) - 1 := IntWalk.i64_in _ (by omega)
      have hbs := hBr.size
      have hOa := hide (hO.out.below (bl1 wr (.cells #[.int .i64 x] 2)))
      clear hcell hx hi hii hO
      go_wp2_with (at_builtin; refine wp_append rfl _ _ rfl w.heap.size _ k _ zs rfl hzl.out.symm hOa.out _ 1 1 [x] rfl (litSL wr x) (by omega) (by simp; omega) ?_; intro ad' cap' w1 hown hb)
      have hown' := hide hown
      have hB1 := (hBr.alloc hbs (.cells #[.int .i64 x] 2)).trans hb
      have hl2 : Hid ((zs ++ [x]).length = k + 1) := hide (by rw [List.length_append, hzl.out]; rfl)
      have hst' := hide hst.out.symm
      clear hown hb hOa hst
      go_wp2
      go_roundw
      case rel => exact ⟨k + 1, ad', cap', zs ++ [x], by omega, by rw [show ((n : Int) - 1 - ((k + 1 : Nat) : Int)) = (i : Int) - 1 by have := Hi.out; omega], by rw [hzl.out], hst', hl2, hown', hB1⟩
      case measure => first | (simp [intOf]; done) | (simp [intOf]; omega)
    · have hkn : k = n := by omega
      have Hk := hide hkn
      have hlt' : ¬ (0 : Int) ≤ (n : Int) - 1 - (k : Int) := by omega
      have hR : Hid (zs = revL xs) := hide (by rw [hZ.out, hkn]; unfold revL; rw [hl.out])
      clear hkn
      go_wp2
      refine bodyPost_ret (v := .slice a' k c') (by simp [results, Try.results69]) rfl ?_
      exact ⟨a', c', by rw [Hk.out], by rw [← hR.out]; exact hO.out, hBr⟩
def rvpC (p : Int) (f : List Int) : Int := if nz1 p f = 0 then (if f.getD 0 0 = 0 then 5 else 0) else nz1 p f
def rvpV (p : Int) (f : List Int) : List Int := if rvpC p f = 0 then revL f else []
set_option maxRecDepth 100000 in
set_option maxHeartbeats 1600000 in
theorem implReversePolynomial (p : Int) (a1 : Option Addr) (n1 c1 : Nat) (f : List Int) (w : World) (h1 : SL w a1 n1 c1 f) (b1 : n1 ≤ 4000000) :
    Calls Try.prog 26 #[.int .i64 p, .slice a1 n1 c1] w (Res1 w (rvpV p f) (rvpC p f)) := by
  have hl1 := hide h1.len
  rcases nz1_cases p f with (hc | hc | hc) | ⟨hc, hf, hpr, h0⟩
  · have HC := hide (show rvpC p f = 1 by simp [rvpC, hc])
    have HV := hide (show rvpV p f = [] by simp [rvpV, HC.out])
    have Hc := hide hc
    clear hc
    go_enter Try.func26, Try.ntmps26
    go_wp2_with fail
    refine (nzi1 p _ _ _ f 1 _ h1 b1 Hc.out).mono ?_
    rintro e w1 ⟨rfl, hb1⟩
    go_wp2
    go_ret2
    exact Res1.nil HV.out HC.out hb1
  · have HC := hide (show rvpC p f = 2 by simp [rvpC, hc])
    have HV := hide (show rvpV p f = [] by simp [rvpV, HC.out])
    have Hc := hide hc
    clear hc
    go_enter Try.func26, Try.ntmps26
    go_wp2_with fail
    refine (nzi1 p _ _ _ f 2 _ h1 b1 Hc.out).mono ?_
    rintro e w1 ⟨rfl, hb1⟩
    go_wp2
    go_ret2
    exact Res1.nil HV.out HC.out hb1
  · have HC := hide (show rvpC p f = 5 by simp [rvpC, hc])
    have HV := hide (show rvpV p f = [] by simp [rvpV, HC.out])
    have Hc := hide hc
    clear hc
    go_enter Try.func26, Try.ntmps26
    go_wp2_with fail
    refine (nzi1 p _ _ _ f 5 _ h1 b1 Hc.out).mono ?_
    rintro e w1 ⟨rfl, hb1⟩
    go_wp2
    go_ret2
    exact Res1.nil HV.out HC.out hb1
  have d1 : n1 ≤ 25 := by have := poly_len hf; have := hl1.out; omega
  have Hc := hide hc
  have hn0 : 0 < n1 := by have := hl1.out; omega
  obtain ⟨b, off, rfl, hbw, hcell⟩ := h1.at hn0
  have e0 := hcell 0 hn0
  rw [Nat.add_zero] at e0
  have hnp : (0 : Int) < (n1 : Int) := by omega
  by_cases hx : f.getD 0 0 = 0
  · have HC := hide (show rvpC p f = 5 by simp only [rvpC, hc, hx, if_true])
    have HV := hide (show rvpV p f = [] by simp [rvpV, HC.out])
    rw [hx] at e0
    clear hc hf hpr hx hcell
    go_enter Try.func26, Try.ntmps26
    go_wp2_with fail
    refine (nzi1 p _ _ _ f 0 _ h1 b1 Hc.out).mono ?_
    rintro e w1 ⟨rfl, hb1⟩
    have e1 := cell_be hb1 e0
    go_wp2
    go_ret2
    exact Res1.nil HV.out HC.out hb1
  · have HC := hide (show rvpC p f = 0 by simp only [rvpC, hc, if_true]; rw [if_neg hx])
    have HV := hide (show rvpV p f = revL f by simp only [rvpV, HC.out, if_true])
    obtain ⟨x, hxx⟩ : ∃ x, f.getD 0 0 = x := ⟨_, rfl⟩
    rw [hxx] at e0 hx
    clear hc hf hpr hxx hcell
    go_enter Try.func26, Try.ntmps26
    go_wp2_with fail
    refine (nzi1 p _ _ _ f 0 _ h1 b1 Hc.out).mono ?_
    rintro e w1 ⟨rfl, hb1⟩
    have e1 := cell_be hb1 e0
    have s1 := h1.below hb1
    go_wp2_with fail
    refine (reversed_any _ _ _ f _ s1 (by omega)).mono ?_
    rintro e w2 ⟨a', c', rfl, ho, hb2⟩
    have hB2 := bnext hb1 hb2
    have hz := hb1.size
    go_wp2
    go_ret2
    exact Res1.own HC.out (by rw [HV.out, revL_len, hl1.out]) (by rw [HV.out]; exact ho.mono hz) (by rw [HV.out, revL_len, hl1.out]; omega) hB2
set_option maxRecDepth 100000 in
set_option maxHeartbeats 1600000 in
theorem specReversePolynomial (p : Int) (a1 : Option Addr) (n1 c1 : Nat) (f : List Int) (w : World) (h1 : SL w a1 n1 c1 f) (b1 : n1 ≤ 4000000) :
    Calls Try.prog 25 #[.int .i64 p, .slice a1 n1 c1] w (Res1 w (rvpV p f) (rvpC p f)) := by
  have hl1 := hide h1.len
  rcases nz1_cases p f with (hc | hc | hc) | ⟨hc, hf, hpr, h0⟩
  · have HC := hide (show rvpC p f = 1 by simp [rvpC, hc])
    have HV := hide (show rvpV p f = [] by simp [rvpV, HC.out])
    have Hc := hide hc
    clear hc
    go_enter Try.func25, Try.ntmps25
    go_wp2_with fail
    refine (nzs1 p _ _ _ f 1 _ h1 b1 Hc.out).mono ?_
    rintro e w1 ⟨rfl, hb1⟩
    go_wp2
    go_ret2
    exact Res1.nil HV.out HC.out hb1
  · have HC := hide (show rvpC p f = 2 by simp [rvpC, hc])
    have HV := hide (show rvpV p f = [] by simp [rvpV, HC.out])
    have Hc := hide hc
    clear hc
    go_enter Try.func25, Try.ntmps25
    go_wp2_with fail
    refine (nzs1 p _ _ _ f 2 _ h1 b1 Hc.out).mono ?_
    rintro e w1 ⟨rfl, hb1⟩
    go_wp2
    go_ret2
    exact Res1.nil HV.out HC.out hb1
  · have HC := hide (show rvpC p f = 5 by simp [rvpC, hc])
    have HV := hide (show rvpV p f = [] by simp [rvpV, HC.out])
    have Hc := hide hc
    clear hc
    go_enter Try.func25, Try.ntmps25
    go_wp2_with fail
    refine (nzs1 p _ _ _ f 5 _ h1 b1 Hc.out).mono ?_
    rintro e w1 ⟨rfl, hb1⟩
    go_wp2
    go_ret2
    exact Res1.nil HV.out HC.out hb1
  have d1 : n1 ≤ 25 := by have := poly_len hf; have := hl1.out; omega
  have Hc := hide hc
  have hn0 : 0 < n1 := by have := hl1.out; omega
  obtain ⟨b, off, rfl, hbw, hcell⟩ := h1.at hn0
  have e0 := hcell 0 hn0
  rw [Nat.add_zero] at e0
  have hnp : (0 : Int) < (n1 : Int) := by omega
  by_cases hx : f.getD 0 0 = 0
  · have HC := hide (show rvpC p f = 5 by simp only [rvpC, hc, hx, if_true])
    have HV := hide (show rvpV p f = [] by simp [rvpV, HC.out])
    rw [hx] at e0
    clear hc hf hpr hx hcell
    go_enter Try.func25, Try.ntmps25
    go_wp2_with fail
    refine (nzs1 p _ _ _ f 0 _ h1 b1 Hc.out).mono ?_
    rintro e w1 ⟨rfl, hb1⟩
    have e1 := cell_be hb1 e0
    go_wp2
    go_ret2
    exact Res1.nil HV.out HC.out hb1
  · have HC := hide (show rvpC p f = 0 by simp only [rvpC, hc, if_true]; rw [if_neg hx])
    have HV := hide (show rvpV p f = revL f by simp only [rvpV, HC.out, if_true])
    obtain ⟨x, hxx⟩ : ∃ x, f.getD 0 0 = x := ⟨_, rfl⟩
    rw [hxx] at e0 hx
    clear hc hf hpr hxx hcell
    go_enter Try.func25, Try.ntmps25
    go_wp2_with fail
    refine (nzs1 p _ _ _ f 0 _ h1 b1 Hc.out).mono ?_
    rintro e w1 ⟨rfl, hb1⟩
    have e1 := cell_be hb1 e0
    have s1 := h1.below hb1
    go_wp2_with fail
    refine (l02Back_any _ _ _ f _ s1 (by omega)).mono ?_
    rintro e w2 ⟨a', c', rfl, ho, hb2⟩
    have hB2 := bnext hb1 hb2
    have hz := hb1.size
    go_wp2
    go_ret2
    exact Res1.own HC.out (by rw [HV.out, revL_len, hl1.out]) (by rw [HV.out]; exact ho.mono hz) (by rw [HV.out, revL_len, hl1.out]; omega) hB2
end Go.Proofs.Ytnojmghmkoojfaa
