/- Merged texts. -/
import Derived.Test.YtnojmghmkoojfaaYMx10
import Derived.Test.YtnojmghmkoojfaaYMx30
import Derived.Test.YtnojmghmkoojfaaYMx22
import Derived.Test.YtnojmghmkoojfaaYMx24
/- Contracts: reversed, checkNonzero (program), l06Code, l02Back (model), ReversePolynomial (program and model). -/
namespace Go.Proofs.Ytnojmghmkoojfaa
open Go.RowKit
set_option linter.unusedVariables false
set_option linter.unusedSimpArgs false

/-- The first n lists all hold a number. -/
def nzB (X : Nat → List Int) : Nat → Bool
  | 0 => true
  | k + 1 => nzB X k && !(X k).isEmpty
def nzC (p : Int) (X : Nat → List Int) (n : Nat) : Int := if chkC p X n = 0 then (if nzB X n then 0 else 5) else chkC p X n
theorem nzB_false (X : Nat → List Int) (n k : Nat) (hk : k < n) (h : (X k).isEmpty = true) : nzB X n = false := by
  induction n with
  | zero => omega
  | succ n ih =>
    rcases (show k = n ∨ k < n by omega) with rfl | h'
    · unfold nzB; rw [h]; simp
    · unfold nzB; rw [ih h']; rfl
theorem chkC_cases (p : Int) (X : Nat → List Int) (n : Nat) : chkC p X n = 1 ∨ chkC p X n = 2 ∨ chkC p X n = 0 := by
  unfold chkC
  cases chkB p X n <;> cases primeB p <;> simp
theorem isEmpty_len {f : List Int} {n : Nat} (h : f.length = n) : f.isEmpty = decide (n = 0) := by
  subst h
  cases f <;> simp
set_option maxHeartbeats 1600000 in
theorem checkNonzero_any (p : Int) (b n c : Nat) (A : Nat → Option Addr) (L C : Nat → Nat) (X : Nat → List Int) (w : World) (hs : Lists w b n A L C X) (hn : n ≤ 100) :
    Calls Try.prog 70 #[.int .i64 p, .slice (some ⟨b, 0, none⟩) n c] w fun e w' => e = .returned (.int .i64 (nzC p X n)) ∧ Below w.heap.size w w' := by
  rcases chkC_cases p X n with h | h | h
  · have HC := hide (show nzC p X n = 1 by simp [nzC, h])
    have Hc := hide h
    clear h
    go_enter Try.func70, Try.ntmps70
    go_wp2_with fail
    refine (checkPolys_any p b n c A L C X _ hs hn).mono ?_
    rintro e w1 ⟨rfl, hb1⟩
    rw [Hc.out]
    go_wp2
    go_ret
    exact ⟨ret_int HC.out.symm, hb1⟩
  · have HC := hide (show nzC p X n = 2 by simp [nzC, h])
    have Hc := hide h
    clear h
    go_enter Try.func70, Try.ntmps70
    go_wp2_with fail
    refine (checkPolys_any p b n c A L C X _ hs hn).mono ?_
    rintro e w1 ⟨rfl, hb1⟩
    rw [Hc.out]
    go_wp2
    go_ret
    exact ⟨ret_int HC.out.symm, hb1⟩
  have Hc := hide h
  have hN0 := hide (show nzB X 0 = true from rfl)
  clear h
  go_enter Try.func70, Try.ntmps70
  go_wp2_with fail
  refine (checkPolys_any p b n c A L C X _ hs hn).mono ?_
  rintro e w1 ⟨rfl, hb1⟩
  rw [Hc.out]
  go_wp2
  go_loop [16] (fun i => ∃ k : Nat, k ≤ n ∧ i = .int .i64 k ∧ Hid (nzB X k = true)) (fun i => n - (intOf i).toNat)
  case atStart => exact ⟨0, by omega, rfl, hN0⟩
  case round =>
    obtain ⟨k, hk, rfl, hR⟩ := hrel
    clear hN0
    by_cases hlt : k < n
    · obtain ⟨h1, h2, h3⟩ := hs.below hb1 k hlt
      have hl := h2.len
      by_cases h0 : L k = 0
      · have hF := Lib.hid (show nzC p X n = 5 by unfold nzC; rw [if_pos Hc.out, nzB_false X n k hlt (by rw [isEmpty_len hl]; simpa using h0)]; rfl)
        rw [h0] at h1
        clear hl h2 h0
        go_wp2
        go_ret
        exact ⟨ret_int hF.out.symm, hb1⟩
      · have hF := Lib.hid (show nzB X (k + 1) = true by unfold nzB; rw [hR.out, isEmpty_len hl]; simpa using h0)
        have h0b : ((L k : Int) == 0) = false := by simpa using h0
        clear hl h2 h0
        go_wp2
        go_round
        case rel => exact ⟨k + 1, by omega, by go_num, hF⟩
        case measure => simp [intOf]; omega
    · obtain rfl : k = n := by omega
      have hF := Lib.hid (show nzC p X k = 0 by unfold nzC; rw [if_pos Hc.out, hR.out]; rfl)
      go_wp2
      go_ret
      exact ⟨ret_int hF.out.symm, hb1⟩
set_option maxHeartbeats 1600000 in
theorem l06Code_any (p : Int) (b n c : Nat) (A : Nat → Option Addr) (L C : Nat → Nat) (X : Nat → List Int) (w : World) (hs : Lists w b n A L C X) (hn : n ≤ 100) :
    Calls Try.prog 68 #[.int .i64 p, .slice (some ⟨b, 0, none⟩) n c] w fun e w' => e = .returned (.int .i64 (nzC p X n)) ∧ w = w' := by
  rcases chkC_cases p X n with h | h | h
  · have HC := hide (show nzC p X n = 1 by simp [nzC, h])
    have Hc := hide h
    clear h
    go_enter Try.func68, Try.ntmps68
    go_wp2_with fail
    refine (l01Code_any p b n c A L C X _ hs hn).mono ?_
    rintro e w1 ⟨rfl, rfl⟩
    rw [Hc.out]
    go_wp2
    go_ret
    exact ⟨ret_int HC.out.symm, rfl⟩
  · have HC := hide (show nzC p X n = 2 by simp [nzC, h])
    have Hc := hide h
    clear h
    go_enter Try.func68, Try.ntmps68
    go_wp2_with fail
    refine (l01Code_any p b n c A L C X _ hs hn).mono ?_
    rintro e w1 ⟨rfl, rfl⟩
    rw [Hc.out]
    go_wp2
    go_ret
    exact ⟨ret_int HC.out.symm, rfl⟩
  have Hc := hide h
  have hN0 := hide (show nzB X 0 = true from rfl)
  clear h
  go_enter Try.func68, Try.ntmps68
  go_wp2_with fail
  refine (l01Code_any p b n c A L C X _ hs hn).mono ?_
  rintro e w1 ⟨rfl, rfl⟩
  rw [Hc.out]
  go_wp2
  go_loop [6] (fun i => ∃ k : Nat, k ≤ n ∧ i = .int .i64 k ∧ Hid (nzB X k = true)) (fun i => n - (intOf i).toNat)
  case atStart => exact ⟨0, by omega, rfl, hN0⟩
  case round =>
    obtain ⟨k, hk, rfl, hR⟩ := hrel
    clear hN0
    by_cases hlt : k < n
    · obtain ⟨h1, h2, h3⟩ := hs k hlt
      have hl := h2.len
      by_cases h0 : L k = 0
      · have hF := Lib.hid (show nzC p X n = 5 by unfold nzC; rw [if_pos Hc.out, nzB_false X n k hlt (by rw [isEmpty_len hl]; simpa using h0)]; rfl)
        rw [h0] at h1
        clear hl h2 h0
        go_wp2
        go_ret
        exact ⟨ret_int hF.out.symm, rfl⟩
      · have hF := Lib.hid (show nzB X (k + 1) = true by unfold nzB; rw [hR.out, isEmpty_len hl]; simpa using h0)
        have h0b : ((L k : Int) == 0) = false := by simpa using h0
        clear hl h2 h0
        go_wp2
        go_round
        case rel => exact ⟨k + 1, by omega, by go_num, hF⟩
        case measure => simp [intOf]; omega
    · obtain rfl : k = n := by omega
      have hF := Lib.hid (show nzC p X k = 0 by unfold nzC; rw [if_pos Hc.out, hR.out]; rfl)
      go_wp2
      go_ret
      exact ⟨ret_int hF.out.symm, rfl⟩
def nz1 (p : Int) (f : List Int) : Int := if chk1 p f = 0 then (if f.isEmpty then 5 else 0) else chk1 p f
def nz2 (p : Int) (f g : List Int) : Int := if chk2 p f g = 0 then (if f.isEmpty || g.isEmpty then 5 else 0) else chk2 p f g
theorem nzC1 (p : Int) (f : List Int) : nzC p (fun _ => f) 1 = nz1 p f := by
  unfold nzC nz1
  rw [chkC1]
  simp only [nzB, Bool.true_and]
  cases f.isEmpty <;> simp
theorem nzC2 (p : Int) (f g : List Int) : nzC p (fun j => if j = 0 then f else g) 2 = nz2 p f g := by
  unfold nzC nz2
  rw [chkC2]
  simp only [nzB, Bool.true_and, if_true, Nat.one_ne_zero, if_false]
  cases f.isEmpty <;> cases g.isEmpty <;> rfl
theorem nz1_cases (p : Int) (f : List Int) : (nz1 p f = 1 ∨ nz1 p f = 2 ∨ nz1 p f = 5) ∨ (nz1 p f = 0 ∧ polyB p f = true ∧ primeB p = true ∧ f.length ≠ 0) := by
  unfold nz1
  rcases chk1_cases p f with h | h | ⟨h, h1, h2⟩ <;> rw [h]
  · exact .inl (.inl (by simp))
  · exact .inl (.inr (.inl (by simp)))
  · cases he : f.isEmpty
    · exact .inr ⟨by simp, h1, h2, by cases f <;> simp at he ⊢⟩
    · exact .inl (.inr (.inr (by simp)))
theorem nz2_cases (p : Int) (f g : List Int) : (nz2 p f g = 1 ∨ nz2 p f g = 2 ∨ nz2 p f g = 5) ∨ (nz2 p f g = 0 ∧ polyB p f = true ∧ polyB p g = true ∧ primeB p = true ∧ f.length ≠ 0 ∧ g.length ≠ 0) := by
  unfold nz2
  rcases chk2_cases p f g with h | h | ⟨h, h1, h2, h3⟩ <;> rw [h]
  · exact .inl (.inl (by simp))
  · exact .inl (.inr (.inl (by simp)))
  · cases he : f.isEmpty
    · cases hg : g.isEmpty
      · exact .inr ⟨by simp, h1, h2, h3, by cases f <;> simp at he ⊢, by cases g <;> simp at hg ⊢⟩
      · exact .inl (.inr (.inr (by simp)))
    · exact .inl (.inr (.inr (by simp)))
theorem nzi1 (p : Int) (a1 : Option Addr) (n1 c1 : Nat) (f : List Int) (c : Int) (w : World) (h1 : SL w a1 n1 c1 f) (b1 : n1 ≤ 4000000) (hc : nz1 p f = c) :
    Calls Try.prog 70 #[.int .i64 p, .slice (some ⟨w.heap.size, 0, none⟩) 1 1] (w.alloc (.cells #[.slice a1 n1 c1] 22)) fun e w' => e = .returned (.int .i64 c) ∧ Below w.heap.size w w' :=
  (checkNonzero_any p w.heap.size 1 1 _ _ _ _ _ (lists1 h1 b1) (by omega)).mono fun e w' h => ⟨by rw [h.1, nzC1, hc], (bl1 w _).trans (h.2.mono (by simp))⟩
theorem nzi2 (p : Int) (a1 : Option Addr) (n1 c1 : Nat) (f : List Int) (a2 : Option Addr) (n2 c2 : Nat) (g : List Int) (c : Int) (w : World) (h1 : SL w a1 n1 c1 f) (h2 : SL w a2 n2 c2 g) (b1 : n1 ≤ 4000000) (b2 : n2 ≤ 4000000) (hc : nz2 p f g = c) :
    Calls Try.prog 70 #[.int .i64 p, .slice (some ⟨w.heap.size, 0, none⟩) 2 2] (w.alloc (.cells #[.slice a1 n1 c1, .slice a2 n2 c2] 22)) fun e w' => e = .returned (.int .i64 c) ∧ Below w.heap.size w w' :=
  (checkNonzero_any p w.heap.size 2 2 _ _ _ _ _ (lists2 h1 h2 b1 b2) (by omega)).mono fun e w' h => ⟨by rw [h.1, nzC2, hc], (bl1 w _).trans (h.2.mono (by simp))⟩
theorem nzs1 (p : Int) (a1 : Option Addr) (n1 c1 : Nat) (f : List Int) (c : Int) (w : World) (h1 : SL w a1 n1 c1 f) (b1 : n1 ≤ 4000000) (hc : nz1 p f = c) :
    Calls Try.prog 68 #[.int .i64 p, .slice (some ⟨w.heap.size, 0, none⟩) 1 1] (w.alloc (.cells #[.slice a1 n1 c1] 22)) fun e w' => e = .returned (.int .i64 c) ∧ Below w.heap.size w w' :=
  (l06Code_any p w.heap.size 1 1 _ _ _ _ _ (lists1 h1 b1) (by omega)).mono fun e w' h => ⟨by rw [h.1, nzC1, hc], by rw [← h.2]; exact bl1 w _⟩
theorem nzs2 (p : Int) (a1 : Option Addr) (n1 c1 : Nat) (f : List Int) (a2 : Option Addr) (n2 c2 : Nat) (g : List Int) (c : Int) (w : World) (h1 : SL w a1 n1 c1 f) (h2 : SL w a2 n2 c2 g) (b1 : n1 ≤ 4000000) (b2 : n2 ≤ 4000000) (hc : nz2 p f g = c) :
    Calls Try.prog 68 #[.int .i64 p, .slice (some ⟨w.heap.size, 0, none⟩) 2 2] (w.alloc (.cells #[.slice a1 n1 c1, .slice a2 n2 c2] 22)) fun e w' => e = .returned (.int .i64 c) ∧ Below w.heap.size w w' :=
  (l06Code_any p w.heap.size 2 2 _ _ _ _ _ (lists2 h1 h2 b1 b2) (by omega)).mono fun e w' h => ⟨by rw [h.1, nzC2, hc], by rw [← h.2]; exact bl1 w _⟩
set_option maxRecDepth 100000 in
theorem reversed_any (a : Option Addr) (n c : Nat) (xs : List Int) (w : World) (hs : SL w a n c xs) (hn : n ≤ 1000) :
    Calls Try.prog 71 #[.slice a n c] w fun e w' => ∃ a' c', e = .returned (.slice a' n c') ∧ Own w.heap.size w' a' c' (revL xs) ∧ Below w.heap.size w w' := by
  have hl := hs.len
  go_enter Try.func71, Try.ntmps71
  go_wp2_with fail
  refine (clone_any a n c xs _ hs (by omega)).mono ?_
  rintro e w1 ⟨a1, c1, rfl, ho, hb⟩
  go_wp2_with fail
  refine (reverse_own w.heap.size a1 n c1 xs w1 ho hl.symm hn).mono ?_
  rintro e w2 ⟨rfl, ho2, lo, hi, ht, hlo, _, _⟩
  have hB := below_touch hb ht hlo hb.size
  go_wp2
  go_ret
  exact ⟨a1, c1, rfl, ho2, hB⟩
set_option maxRecDepth 100000 in
set_option maxHeartbeats 1600000 in
theorem l02Back_any (a : Option Addr) (n c : Nat) (xs : List Int) (w : World) (hs : SL w a n c xs) (hn : n ≤ 100000) :
    Calls Try.prog 69 #[.slice a n c] w fun e w' => ∃ a' c', e = .returned (.slice a' n c') ∧ Own w.heap.size w' a' c' (revL xs) ∧ Below w.heap.size w w' := by
  have hl := hide hs.len
  have ho : Own w.heap.size (w.alloc (.cells #[] 2)) (some ⟨w.heap.size, 0, none⟩) 0 [] := World.ownsRow_lit w (base := w.heap.size) (e := 2) (size := 1) #[] 0 (Nat.le_refl _) (by simp) rfl
  have hb0 := bl1 w (.cells #[] 2)
  have hz0 : Hid (([] : List Int) = tab 0 (fun j => xs.getD (n - 1 - j) 0)) := hide rfl
  have v0 : IntKind.i64.wrap ((n : Int) - 1) = (n : Int) - 1 := IntWalk.i64_in _ (by omega)
  go_enter Try.func69, Try.ntmps69
  go_wp2
  clear v0
  go_loopw [3, 4] (fun ov iv wr => ∃ (k : Nat) (a' : Option Addr) (c' : Nat) (zs : List Int), k ≤ n ∧ iv = .int .i64 ((n : Int) - 1 - k) ∧ ov = .slice a' k c' ∧ Hid (zs = tab k (fun j => xs.getD (n - 1 - j) 0)) ∧ Hid (zs.length = k) ∧ Hid (Own w.heap.size wr a' c' zs) ∧ Below w.heap.size w wr) (fun _ iv _ => (intOf iv + 1).toNat)
  case atStart => exact ⟨0, _, 0, [], by omega, by simp, rfl, hz0, hide rfl, hide ho, hb0⟩
  case round =>
    obtain ⟨k, a', c', zs, hk, rfl, rfl, hZ, hzl, hO, hBr⟩ := hrel
    clear ho hb0 hz0
    by_cases hlt : k < n
    · obtain ⟨i, hi⟩ : ∃ i : Nat, i = n - 1 - k := ⟨_, rfl⟩
      have hii : (n : Int) - 1 - k = (i : Int) := by omega
      obtain ⟨b, off, ha, hbw, hcell⟩ := (hs.below hBr).at (by omega)
      subst ha
      have e1 := hcell i (by omega)
      have hst : Hid (tab (k + 1) (fun j => xs.getD (n - 1 - j) 0) = zs ++ [xs.getD i 0]) := hide (by rw [hZ.out, hi]; exact (tab_snoc k (fun j => xs.getD (n - 1 - j) 0)).symm)
      obtain ⟨x, hx⟩ : ∃ x, xs.getD i 0 = x := ⟨_, rfl⟩
      rw [hx] at e1 hst
      rw [hii]
      have Hi := hide hi
      have q1 : (i : Int) < (n : Int) := by omega
      have q2 : (0 : Int) ≤ (i : Int) := by omega
      have v1 : IntKind.i64.wrap ((i : Int) - 1) = (i : Int) - 1 := IntWalk.i64_in _ (by omega)
      have hbs := hBr.size
      have hOa := hide (hO.out.below (bl1 wr (.cells #[.int .i64 x] 2)))
      clear hcell hx hi hii hO
      go_wp2_with (at_builtin; refine wp_append rfl _ _ rfl w.heap.size _ k _ zs rfl hzl.out.symm hOa.out _ 1 1 [x] rfl (litSL wr x) (by omega) (by simp; omega) ?_; intro ad' cap' w1 hown hb)
      have hown' := hide hown
      have hB1 := (hBr.alloc hbs (.cells #[.int .i64 x] 2)).trans hb
      have hl2 : Hid ((zs ++ [x]).length = k + 1) := hide (by rw [List.length_append, hzl.out]; rfl)
      have hst' := hide hst.out.symm
      clear hown hb hOa hst
      go_wp2
      go_roundw
      case rel => exact ⟨k + 1, ad', cap', zs ++ [x], by omega, by rw [show ((n : Int) - 1 - ((k + 1 : Nat) : Int)) = (i : Int) - 1 by have := Hi.out; omega], by rw [hzl.out], hst', hl2, hown', hB1⟩
      case measure => first | (simp [intOf]; done) | (simp [intOf]; omega)
    · have hkn : k = n := by omega
      have Hk := hide hkn
      have hlt' : ¬ (0 : Int) ≤ (n : Int) - 1 - (k : Int) := by omega
      have hR : Hid (zs = revL xs) := hide (by rw [hZ.out, hkn]; unfold revL; rw [hl.out])
      clear hkn
      go_wp2
      refine bodyPost_ret (v := .slice a' k c') (by simp [results, Try.results69]) rfl ?_
      exact ⟨a', c', by rw [Hk.out], by rw [← hR.out]; exact hO.out, hBr⟩
def rvpC (p : Int) (f : List Int) : Int := if nz1 p f = 0 then (if f.getD 0 0 = 0 then 5 else 0) else nz1 p f
def rvpV (p : Int) (f : List Int) : List Int := if rvpC p f = 0 then revL f else []
set_option maxRecDepth 100000 in
set_option maxHeartbeats 1600000 in
theorem implReversePolynomial (p : Int) (a1 : Option Addr) (n1 c1 : Nat) (f : List Int) (w : World) (h1 : SL w a1 n1 c1 f) (b1 : n1 ≤ 4000000) :
    Calls Try.prog 26 #[.int .i64 p, .slice a1 n1 c1] w (Res1 w (rvpV p f) (rvpC p f)) := by
  have hl1 := hide h1.len
  rcases nz1_cases p f with (hc | hc | hc) | ⟨hc, hf, hpr, h0⟩
  · have HC := hide (show rvpC p f = 1 by simp [rvpC, hc])
    have HV := hide (show rvpV p f = [] by simp [rvpV, HC.out])
    have Hc := hide hc
    clear hc
    go_enter Try.func26, Try.ntmps26
    go_wp2_with fail
    refine (nzi1 p _ _ _ f 1 _ h1 b1 Hc.out).mono ?_
    rintro e w1 ⟨rfl, hb1⟩
    go_wp2
    go_ret2
    exact Res1.nil HV.out HC.out hb1
  · have HC := hide (show rvpC p f = 2 by simp [rvpC, hc])
    have HV := hide (show rvpV p f = [] by simp [rvpV, HC.out])
    have Hc := hide hc
    clear hc
    go_enter Try.func26, Try.ntmps26
    go_wp2_with fail
    refine (nzi1 p _ _ _ f 2 _ h1 b1 Hc.out).mono ?_
    rintro e w1 ⟨rfl, hb1⟩
    go_wp2
    go_ret2
    exact Res1.nil HV.out HC.out hb1
  · have HC := hide (show rvpC p f = 5 by simp [rvpC, hc])
    have HV := hide (show rvpV p f = [] by simp [rvpV, HC.out])
    have Hc := hide hc
    clear hc
    go_enter Try.func26, Try.ntmps26
    go_wp2_with fail
    refine (nzi1 p _ _ _ f 5 _ h1 b1 Hc.out).mono ?_
    rintro e w1 ⟨rfl, hb1⟩
    go_wp2
    go_ret2
    exact Res1.nil HV.out HC.out hb1
  have d1 : n1 ≤ 25 := by have := poly_len hf; have := hl1.out; omega
  have Hc := hide hc
  have hn0 : 0 < n1 := by have := hl1.out; omega
  obtain ⟨b, off, rfl, hbw, hcell⟩ := h1.at hn0
  have e0 := hcell 0 hn0
  rw [Nat.add_zero] at e0
  have hnp : (0 : Int) < (n1 : Int) := by omega
  by_cases hx : f.getD 0 0 = 0
  · have HC := hide (show rvpC p f = 5 by simp only [rvpC, hc, hx, if_true])
    have HV := hide (show rvpV p f = [] by simp [rvpV, HC.out])
    rw [hx] at e0
    clear hc hf hpr hx hcell
    go_enter Try.func26, Try.ntmps26
    go_wp2_with fail
    refine (nzi1 p _ _ _ f 0 _ h1 b1 Hc.out).mono ?_
    rintro e w1 ⟨rfl, hb1⟩
    have e1 := cell_be hb1 e0
    go_wp2
    go_ret2
    exact Res1.nil HV.out HC.out hb1
  · have HC := hide (show rvpC p f = 0 by simp only [rvpC, hc, if_true]; rw [if_neg hx])
    have HV := hide (show rvpV p f = revL f by simp only [rvpV, HC.out, if_true])
    obtain ⟨x, hxx⟩ : ∃ x, f.getD 0 0 = x := ⟨_, rfl⟩
    rw [hxx] at e0 hx
    clear hc hf hpr hxx hcell
    go_enter Try.func26, Try.ntmps26
    go_wp2_with fail
    refine (nzi1 p _ _ _ f 0 _ h1 b1 Hc.out).mono ?_
    rintro e w1 ⟨rfl, hb1⟩
    have e1 := cell_be hb1 e0
    have s1 := h1.below hb1
    go_wp2_with fail
    refine (reversed_any _ _ _ f _ s1 (by omega)).mono ?_
    rintro e w2 ⟨a', c', rfl, ho, hb2⟩
    have hB2 := bnext hb1 hb2
    have hz := hb1.size
    go_wp2
    go_ret2
    exact Res1.own HC.out (by rw [HV.out, revL_len, hl1.out]) (by rw [HV.out]; exact ho.mono hz) (by rw [HV.out, revL_len, hl1.out]; omega) hB2
set_option maxRecDepth 100000 in
set_option maxHeartbeats 1600000 in
theorem specReversePolynomial (p : Int) (a1 : Option Addr) (n1 c1 : Nat) (f : List Int) (w : World) (h1 : SL w a1 n1 c1 f) (b1 : n1 ≤ 4000000) :
    Calls Try.prog 25 #[.int .i64 p, .slice a1 n1 c1] w (Res1 w (rvpV p f) (rvpC p f)) := by
  have hl1 := hide h1.len
  rcases nz1_cases p f with (hc | hc | hc) | ⟨hc, hf, hpr, h0⟩
  · have HC := hide (show rvpC p f = 1 by simp [rvpC, hc])
    have HV := hide (show rvpV p f = [] by simp [rvpV, HC.out])
    have Hc := hide hc
    clear hc
    go_enter Try.func25, Try.ntmps25
    go_wp2_with fail
    refine (nzs1 p _ _ _ f 1 _ h1 b1 Hc.out).mono ?_
    rintro e w1 ⟨rfl, hb1⟩
    go_wp2
    go_ret2
    exact Res1.nil HV.out HC.out hb1
  · have HC := hide (show rvpC p f = 2 by simp [rvpC, hc])
    have HV := hide (show rvpV p f = [] by simp [rvpV, HC.out])
    have Hc := hide hc
    clear hc
    go_enter Try.func25, Try.ntmps25
    go_wp2_with fail
    refine (nzs1 p _ _ _ f 2 _ h1 b1 Hc.out).mono ?_
    rintro e w1 ⟨rfl, hb1⟩
    go_wp2
    go_ret2
    exact Res1.nil HV.out HC.out hb1
  · have HC := hide (show rvpC p f = 5 by simp [rvpC, hc])
    have HV := hide (show rvpV p f = [] by simp [rvpV, HC.out])
    have Hc := hide hc
    clear hc
    go_enter Try.func25, Try.ntmps25
    go_wp2_with fail
    refine (nzs1 p _ _ _ f 5 _ h1 b1 Hc.out).mono ?_
    rintro e w1 ⟨rfl, hb1⟩
    go_wp2
    go_ret2
    exact Res1.nil HV.out HC.out hb1
  have d1 : n1 ≤ 25 := by have := poly_len hf; have := hl1.out; omega
  have Hc := hide hc
  have hn0 : 0 < n1 := by have := hl1.out; omega
  obtain ⟨b, off, rfl, hbw, hcell⟩ := h1.at hn0
  have e0 := hcell 0 hn0
  rw [Nat.add_zero] at e0
  have hnp : (0 : Int) < (n1 : Int) := by omega
  by_cases hx : f.getD 0 0 = 0
  · have HC := hide (show rvpC p f = 5 by simp only [rvpC, hc, hx, if_true])
    have HV := hide (show rvpV p f = [] by simp [rvpV, HC.out])
    rw [hx] at e0
    clear hc hf hpr hx hcell
    go_enter Try.func25, Try.ntmps25
    go_wp2_with fail
    refine (nzs1 p _ _ _ f 0 _ h1 b1 Hc.out).mono ?_
    rintro e w1 ⟨rfl, hb1⟩
    have e1 := cell_be hb1 e0
    go_wp2
    go_ret2
    exact Res1.nil HV.out HC.out hb1
  · have HC := hide (show rvpC p f = 0 by simp only [rvpC, hc, if_true]; rw [if_neg hx])
    have HV := hide (show rvpV p f = revL f by simp only [rvpV, HC.out, if_true])
    obtain ⟨x, hxx⟩ : ∃ x, f.getD 0 0 = x := ⟨_, rfl⟩
    rw [hxx] at e0 hx
    clear hc hf hpr hxx hcell
    go_enter Try.func25, Try.ntmps25
    go_wp2_with fail
    refine (nzs1 p _ _ _ f 0 _ h1 b1 Hc.out).mono ?_
    rintro e w1 ⟨rfl, hb1⟩
    have e1 := cell_be hb1 e0
    have s1 := h1.below hb1
    go_wp2_with fail
    refine (l02Back_any _ _ _ f _ s1 (by omega)).mono ?_
    rintro e w2 ⟨a', c', rfl, ho, hb2⟩
    have hB2 := bnext hb1 hb2
    have hz := hb1.size
    go_wp2
    go_ret2
    exact Res1.own HC.out (by rw [HV.out, revL_len, hl1.out]) (by rw [HV.out]; exact ho.mono hz) (by rw [HV.out, revL_len, hl1.out]; omega) hB2
end Go.Proofs.Ytnojmghmkoojfaa
/- The determinant of the rows of two lists (program): resultant. -/
namespace Go.Proofs.Ytnojmghmkoojfaa
open Go.RowKit
set_option linter.unusedVariables false
set_option linter.unusedSimpArgs false

theorem splice_at (Y : List Int) (off : Nat) (zs : List Int) (h : off + zs.length ≤ Y.length) (j : Nat) (hj : j < Y.length) : (splice Y off zs).getD j 0 = if off ≤ j ∧ j < off + zs.length then zs.getD (j - off) 0 else Y.getD j 0 := by
  unfold splice
  have hl : (Y.take off).length = off := by rw [List.length_take]; omega
  simp only [List.getD_eq_getElem?_getD]
  by_cases h1 : j < off
  · rw [List.getElem?_append_left (by omega), if_neg (by omega), List.getElem?_take, if_pos h1]
  · rw [List.getElem?_append_right (by omega), hl]
    by_cases h2 : j < off + zs.length
    · rw [List.getElem?_append_left (by omega), if_pos ⟨by omega, h2⟩]
    · rw [List.getElem?_append_right (by omega), if_neg (by omega), List.getElem?_drop]
      congr 2
      omega
/-- A matrix of N rows, R i j in its rows ahead of row k, and 0 in the others. -/
def fillT (N : Nat) (R : Nat → Nat → Int) (k : Nat) : Nat → Int := fun t => if t / N < k then R (t / N) (t % N) else 0
theorem fill_zero (N : Nat) (R : Nat → Nat → Int) (M : Nat) : tab M (fun _ => 0) = tab M (fillT N R 0) := tab_congr fun t _ => by simp [fillT]
theorem div_row {N k j : Nat} (hj : j < N) : (k * N + j) / N = k ∧ (k * N + j) % N = j := by
  refine ⟨?_, ?_⟩
  · rw [Nat.add_comm, Nat.add_mul_div_right _ _ (by omega), Nat.div_eq_of_lt hj, Nat.zero_add]
  · rw [Nat.add_comm, Nat.add_mul_mod_self_right, Nat.mod_eq_of_lt hj]
theorem fill_row (N : Nat) (R : Nat → Nat → Int) (i : Nat) (hi : i < N) : rowM N (tab (N * N) (fillT N R N)) i = tab N (R i) := by
  unfold rowM
  apply tab_congr
  intro j hj
  rw [tab_at _ _ _ (mat_lt hi hj)]
  unfold fillT
  rw [(div_row hj).1, (div_row hj).2, if_pos hi]
theorem fill_splice (N : Nat) (R : Nat → Nat → Int) (k o : Nat) (zs : List Int) (hk : k < N) (ho : o + zs.length ≤ N) (hz : ∀ j, j < N → R k j = if o ≤ j ∧ j < o + zs.length then zs.getD (j - o) 0 else 0) :
    splice (tab (N * N) (fillT N R k)) (k * N + o) zs = tab (N * N) (fillT N R (k + 1)) := by
  have hkn : k * N + N ≤ N * N := by
    have : (k + 1) * N ≤ N * N := Nat.mul_le_mul_right N (by omega)
    rw [Nat.add_mul] at this
    omega
  have hfit : k * N + o + zs.length ≤ (tab (N * N) (fillT N R k)).length := by rw [tab_len]; omega
  apply ext_tab
  · rw [length_splice _ _ _ hfit, tab_len, tab_len]
  · intro t ht
    rw [length_splice _ _ _ hfit] at ht
    rw [splice_at _ _ _ hfit t ht]
    rw [tab_len] at ht
    rw [tab_at _ _ _ ht, tab_at _ _ _ ht]
    by_cases hin : k * N ≤ t ∧ t < k * N + N
    · obtain ⟨j, rfl⟩ : ∃ j, t = k * N + j := ⟨t - k * N, by omega⟩
      have hj : j < N := by omega
      unfold fillT
      rw [(div_row hj).1, (div_row hj).2, if_neg (Nat.lt_irrefl k), if_pos (Nat.lt_succ_self k), hz j hj]
      by_cases h : o ≤ j ∧ j < o + zs.length
      · rw [if_pos h, if_pos (by omega), show k * N + j - (k * N + o) = j - o by omega]
      · rw [if_neg h, if_neg (by omega)]
    · have hd : t / N < k ↔ t / N < k + 1 := by
        have h1 := Nat.div_add_mod t N
        have h2 := Nat.mod_lt t (show N > 0 by omega)
        constructor
        · omega
        · intro h3
          refine Nat.lt_of_le_of_ne (by omega) (fun e => hin ?_)
          rw [e, Nat.mul_comm] at h1
          omega
      rw [if_neg (by omega)]
      unfold fillT
      by_cases h : t / N < k
      · rw [if_pos h, if_pos (hd.1 h)]
      · rw [if_neg h, if_neg (fun h2 => h (hd.2 h2))]
/-- The rows of two lists A, B of n + 1 and of m + 1 numbers. -/
def sylR (n m : Nat) (A B : List Int) (i j : Nat) : Int :=
  if i < m then (if i ≤ j ∧ j < i + (n + 1) then A.getD (j - i) 0 else 0) else (if i - m ≤ j ∧ j < i - m + (m + 1) then B.getD (j - (i - m)) 0 else 0)
def sylX (n m : Nat) (A B : List Int) (i : Nat) : List Int := tab (n + m) (sylR n m A B i)
def sylM (p : Int) (n m : Nat) (A B : List Int) : Int := detM p (n + m) (sylX n m A B)
theorem sylX_are {p : Int} (hp : 2 ≤ p) {A B : List Int} (hA : areB p A = true) (hB : areB p B = true) (n m i : Nat) : areB p (sylX n m A B i) = true := tab_are' fun j _ => by
  unfold sylR
  split <;> split
  · exact getD_rng hA hp _
  · omega
  · exact getD_rng hB hp _
  · omega
theorem step_copyP {ops : Array Oper} {o : Oper} {a : Act} {w : World} {K : Act → World → Prop} {Q : Exit → Act → World → Prop} {F : Prop}
    (hgd : o.guard = none) (d s : Operand) (ho : o.op = .call { callee := .builtin .copy, args := #[d, s], argTypes := #[22, 22] })
    (L off dLen dCap : Nat) (Y : List Int) (hd : a.eval d = .slice (some ⟨L, off, none⟩) dLen dCap) (hrow : RowI w L Y) (sp : Option Addr) (m c : Nat) (zs : List Int)
    (hs : a.eval s = .slice sp m c) (hz : SL w sp m c zs) (hm : m ≤ dLen) (hfit : off + m ≤ Y.length)
    (h : ∀ w', Hid (RowI w' L (splice Y off zs)) → w.grownBy w' (some L) → K (a.put o.dst (.int .i64 m)) w') :
    if Region.wanted o (yielded ops a.tmps) = true then Oper.wp Try.prog o a w K Q else F := by
  rw [if_pos (show Region.wanted o (yielded ops a.tmps) = true by simp [Region.wanted, hgd])]
  obtain ⟨hl, hle, hcs⟩ := hz
  by_cases h0 : m = 0
  · subst h0
    obtain rfl : zs = [] := List.eq_nil_of_length_eq_zero hl
    have hrun := run_copy_none (P := Try.prog) w 22 22 o.type 2 (some ⟨L, off, none⟩) sp dLen dCap 0 c Try.underlying22 sizeI (by simp)
    have := h w (hide (by simpa [splice] using hrow)) (grown_refl _ _)
    unfold Oper.wp
    simp [execOp, ho, resolve, invoke, builtin, hd, hs, hrun, Result.andThen]
    exact this
  · rcases hcs with hc | ⟨b, o2, rfl, hcell⟩
    · exact absurd hc h0
    · have hcl : (zs.map (Value.int .i64)).length = m := by rw [List.length_map, hl]
      have hsrc : ∀ j v, (zs.map (Value.int .i64))[j]? = some v → w.cell? ((⟨b, o2, none⟩ : Addr).add j) = some v := fun j v hj => by
        have hjz : j < zs.length := by
          have := (List.getElem?_eq_some_iff.1 hj).1
          simpa using this
        rw [Addr.add_lit, hcell j (by omega)]
        simpa [hjz] using hj
      have h1 : ∀ v ∈ zs.map (Value.int .i64), v.oneCell' = true := fun u hu => by
        obtain ⟨_, _, rfl⟩ := List.mem_map.1 hu
        rfl
      have hrun := run_copy_row (P := Try.prog) w 22 22 o.type 2 L off dLen dCap ⟨b, o2, none⟩ m c (Y.map (Value.int .i64)).toArray 2 (zs.map (Value.int .i64)) Try.underlying22 sizeI hrow (by rw [hcl]; exact (Nat.min_eq_left hm).symm) hsrc (by rw [hcl]; simpa using hfit) h1
      have hR : RowI (w.setRow L (((Y.map (Value.int .i64)).toArray.toList.take off ++ zs.map (Value.int .i64) ++ (Y.map (Value.int .i64)).toArray.toList.drop (off + (zs.map (Value.int .i64)).length)).toArray)) L (splice Y off zs) := by
        unfold RowI
        rw [setRow_heap w L _ _ _ _ hrow]
        simp [splice]
      have := h _ (hide hR) ⟨rfl, rfl, rfl, by simp [World.setRow], fun k _ hk => setRow_other w L k _ (fun e => hk (by rw [e]))⟩
      rw [hcl] at hrun this
      rw [hcl] at hR
      simp only [← List.append_assoc] at hrun this
      generalize World.setRow w L _ = W at hrun this
      unfold Oper.wp
      simp [execOp, ho, resolve, invoke, builtin, hd, hs, hrun, Result.andThen]
      exact this
theorem MatW.copied {w w' : World} {L g n : Nat} {Y Z : List Int} (h : MatW w L g n Y) (hR : RowI w' L Z) (hl : Z.length = n * n) (hg : w.grownBy w' (some L)) : MatW w' L g n Z :=
  ⟨hR, hl, (hg.block g h.sl.lt (fun e => h.ne (by simpa using e.symm))).trans h.sl, h.ne⟩
set_option maxRecDepth 100000 in
set_option maxHeartbeats 6400000 in
theorem resultant_any (p : Int) (a1 : Option Addr) (n1 c1 : Nat) (f : List Int) (a2 : Option Addr) (n2 c2 : Nat) (g : List Int) (w : World) (h1 : SL w a1 n1 c1 f) (h2 : SL w a2 n2 c2 g)
    (k1 : 1 ≤ n1) (k2 : 1 ≤ n2) (b1 : n1 ≤ 100) (b2 : n2 ≤ 100) (hp : 2 ≤ p) (hp2 : p ≤ 10007) (hf : areB p f = true) (hg : areB p g = true) :
    Calls Try.prog 81 #[.int .i64 p, .slice a1 n1 c1, .slice a2 n2 c2] w
      fun e w' => e = .returned (.int .i64 (sylM p (n1 - 1) (n2 - 1) (revL f) (revL g))) ∧ Below w.heap.size w w' := by
  have hl1 := hide h1.len
  have hl2 := hide h2.len
  obtain ⟨n, hn⟩ : ∃ n, n1 - 1 = n := ⟨_, rfl⟩
  obtain ⟨m, hm⟩ : ∃ m, n2 - 1 = m := ⟨_, rfl⟩
  rw [hn, hm]
  have Hn := hide (show n1 = n + 1 by omega)
  have Hm := hide (show n2 = m + 1 by omega)
  obtain ⟨N, hN⟩ : ∃ N, n + m = N := ⟨_, rfl⟩
  have HN := hide hN
  have hNb : N ≤ 1000 := by omega
  have v1 : IntKind.i64.wrap ((n1 : Int) - 1) = (n : Int) := by rw [show (n1 : Int) - 1 = (n : Int) by omega]; exact IntWalk.i64_in _ (by omega)
  have v2 : IntKind.i64.wrap ((n2 : Int) - 1) = (m : Int) := by rw [show (n2 : Int) - 1 = (m : Int) by omega]; exact IntWalk.i64_in _ (by omega)
  have v3 : IntKind.i64.wrap ((n : Int) + (m : Int)) = (N : Int) := by rw [show (n : Int) + (m : Int) = (N : Int) by omega]; exact IntWalk.i64_in _ (by omega)
  have HA := hide (revL_are hf)
  have HB := hide (revL_are hg)
  have HAl := hide (show (revL f).length = n + 1 by rw [revL_len, hl1.out]; omega)
  have HBl := hide (show (revL g).length = m + 1 by rw [revL_len, hl2.out]; omega)
  obtain ⟨R, hR⟩ : ∃ R, sylR n m (revL f) (revL g) = R := ⟨_, rfl⟩
  have HR := hide hR
  clear hn hm hN hR hf hg
  go_enter Try.func81, Try.ntmps81
  go_wp2_with fail
  refine (zeroMatrix_any N w hNb).mono ?_
  rintro e w1 ⟨rfl, hM, hb1⟩
  rw [fill_zero N R] at hM
  have HM := hide hM
  clear v1 v2 v3 hM
  go_wp2
  go_loopw [23] (fun iv wr => ∃ i : Nat, i ≤ m ∧ iv = .int .i64 i ∧ Hid (MatW wr w.heap.size (w.heap.size + 1) N (tab (N * N) (fillT N R i))) ∧ Below w.heap.size w wr) (fun iv _ => m - (intOf iv).toNat)
  case atStart => exact ⟨0, by omega, rfl, HM, hb1⟩
  case round =>
    obtain ⟨i, hi, rfl, hM, hBr⟩ := hrel
    clear HM hb1
    by_cases hlt : i < m
    · have hiN : i < N := by have := HN.out; omega
      have cR := hM.out.cell i hiN
      obtain ⟨P, hP⟩ : ∃ P, i * N = P := ⟨_, rfl⟩
      rw [hP] at cR
      have HP := hide hP
      have q1 : (i : Int) < (N : Int) := by omega
      have q2 : (0 : Int) ≤ (i : Int) := by omega
      have q3 : (i : Int) ≤ (N : Int) := by omega
      have q4 : ¬ N = i := by omega
      have s1 := h1.below hBr
      have hbd := (Below.refl wr.heap.size wr).drew
      clear hP
      go_upto_region 6 with fail
      refine region_E (fun w' => w'.cell? ⟨w.heap.size + 1, i, none⟩ = some (.slice (some ⟨w.heap.size, P, none⟩) N N)) 100 (by kernel_rfl) (cell_be hbd cR) ?_
      intro hS
      refine anyE_takeH 0 rfl (by kernel_rfl) (fun _ _ _ h => h) hS (by rfl) (v := ?_) ?_ ?_
      rotate_left
      · intro w' hSw; (try dsimp only at hSw); go_simp; (try with_reducible rfl)
      try simp only [Act.put, List.setIfInBounds_toArray, List.set_cons_zero, List.set_cons_succ]
      refine anyE_takeH 1 rfl (by kernel_rfl) (fun _ _ _ h => h) hS (by rfl) (v := ?_) ?_ ?_
      rotate_left
      · intro w' hSw; (try dsimp only at hSw); go_simp; (try with_reducible rfl)
      try simp only [Act.put, List.setIfInBounds_toArray, List.set_cons_zero, List.set_cons_succ]
      refine anyE_takeH 2 rfl (by kernel_rfl) (fun _ _ _ h => h) hS (by rfl) (v := ?_) ?_ ?_
      rotate_left
      · intro w' hSw; (try dsimp only at hSw); go_simp; (try with_reducible rfl)
      try simp only [Act.put, List.setIfInBounds_toArray, List.set_cons_zero, List.set_cons_succ]
      refine anyE_takeH 3 rfl (by kernel_rfl) (fun _ _ _ h => h) hS (by rfl) (v := ?_) ?_ ?_
      rotate_left
      · intro w' hSw; (try dsimp only at hSw); go_simp; (try with_reducible rfl)
      try simp only [Act.put, List.setIfInBounds_toArray, List.set_cons_zero, List.set_cons_succ]
      refine anyE_takeH 4 rfl (by kernel_rfl) (fun _ _ _ h => h) hS (by rfl) (v := ?_) ?_ ?_
      rotate_left
      · intro w' hSw; (try dsimp only at hSw); go_simp; (try with_reducible rfl)
      try simp only [Act.put, List.setIfInBounds_toArray, List.set_cons_zero, List.set_cons_succ]
      refine anyE_takeH 5 rfl (by kernel_rfl) (fun _ _ _ h => h) hS (by rfl) (v := ?_) ?_ ?_
      rotate_left
      · intro w' hSw; (try dsimp only at hSw); go_simp; (try with_reducible rfl)
      try simp only [Act.put, List.setIfInBounds_toArray, List.set_cons_zero, List.set_cons_succ]
      refine anyE_takeH 6 rfl (by kernel_rfl) (fun _ _ _ h => h) hS (by rfl) (v := ?_) ?_ ?_
      rotate_left
      · intro w' hSw; (try dsimp only at hSw); go_simp; (try with_reducible rfl)
      try simp only [Act.put, List.setIfInBounds_toArray, List.set_cons_zero, List.set_cons_succ]
      refine anyE_oneL 7 (by kernel_rfl) rfl (fun K' hK' => ?_)
      go_simp
      refine (reversed_any _ _ _ f _ (s1.below hbd) (by omega)).mono ?_
      rintro e w3 ⟨a3, c3, rfl, o3, t3⟩
      dsimp only
      have hm3 := bnext hbd t3
      have S3 := cell_be hm3 cR
      refine hK'.out _ _ S3 ?_
      clear hK' K'
      try simp only [Act.put, List.setIfInBounds_toArray, List.set_cons_zero, List.set_cons_succ]
      clear hS
      have hM3 := hide (hM.out.next hm3)
      have sl3 : SL w3 a3 n1 c3 (revL f) := by have t := o3.sl; rwa [HAl.out, ← Hn.out] at t
      refine anyE_oneL 8 (by kernel_rfl) rfl (fun K' hK' => ?_)
      refine step_copyP rfl _ _ rfl w.heap.size (P + i) (N - i) (N - i) (tab (N * N) (fillT N R i)) rfl hM3.out.row a3 n1 c3 (revL f) rfl sl3 (by have := HN.out; have := Hn.out; omega) (by rw [tab_len, ← HP.out]; have := mat_lt (n := N) (i := i) (j := N - 1) hiN (by omega); have := HN.out; have := Hn.out; omega) ?_
      intro w4 hR4 hg4
      have e4 : splice (tab (N * N) (fillT N R i)) (P + i) (revL f) = tab (N * N) (fillT N R (i + 1)) := by
        rw [← HP.out]
        refine fill_splice N R i i (revL f) hiN (by rw [HAl.out]; have := HN.out; omega) (fun j hj => ?_)
        rw [← HR.out]
        unfold sylR
        rw [if_pos hlt, HAl.out]
      have hR4' := hR4.out
      rw [e4] at hR4'
      have hM4 := hide (hM3.out.copied hR4' (tab_len _ _) hg4)
      have hB4 : Below w.heap.size w w4 := (hBr.trans (hm3.mono hBr.size)).grown hg4 (Nat.le_trans hBr.size hm3.size) (fun k e => by cases e; exact Nat.le_refl _)
      have S4 := hM4.out.cell i hiN
      rw [HP.out] at S4
      refine hK'.out _ _ S4 (anyE_doneL (by kernel_rfl) ?_)
      clear hK' K' S4 hR4' hR4 hg4 e4 sl3 hM3 S3 cR o3 t3 hm3 hbd s1 hM
      go_wp2
      go_roundw
      case rel => exact ⟨i + 1, by omega, by go_num, hM4, hB4⟩
      case measure => simp [intOf]; omega
    · obtain rfl : i = m := by omega
      clear hlt hi
      go_wp2
      go_loopw [37] (fun iv wr => ∃ k : Nat, k ≤ n ∧ iv = .int .i64 k ∧ Hid (MatW wr w.heap.size (w.heap.size + 1) N (tab (N * N) (fillT N R (i + k)))) ∧ Below w.heap.size w wr) (fun iv _ => n - (intOf iv).toNat)
      case atStart => exact ⟨0, by omega, rfl, hM, hBr⟩
      case round =>
        obtain ⟨k, hk, rfl, hMx, hBx⟩ := hrel
        clear hM hBr
        by_cases hlt : k < n
        · have hiN : i + k < N := by have := HN.out; omega
          have cR := hMx.out.cell (i + k) hiN
          obtain ⟨P, hP⟩ : ∃ P, (i + k) * N = P := ⟨_, rfl⟩
          rw [hP] at cR
          have HP := hide hP
          obtain ⟨r, hr⟩ : ∃ r, i + k = r := ⟨_, rfl⟩
          have Hr := hide hr
          have v4 : IntKind.i64.wrap ((i : Int) + (k : Int)) = (r : Int) := by rw [show (i : Int) + (k : Int) = (r : Int) by omega]; exact IntWalk.i64_in _ (by omega)
          rw [hr] at cR hiN hMx HP
          have q1 : (r : Int) < (N : Int) := by omega
          have q2 : (0 : Int) ≤ (r : Int) := by omega
          have q3 : (k : Int) ≤ (N : Int) := by have := Hr.out; omega
          have q4 : ¬ N = k := by have := HN.out; have := Hr.out; omega
          have q5 : (0 : Int) ≤ (k : Int) := by omega
          have s1 := h2.below hBx
          have hbd := (Below.refl wr.heap.size wr).drew
          clear hP hr
          go_upto_region 11 with fail
          refine region_E (fun w' => w'.cell? ⟨w.heap.size + 1, r, none⟩ = some (.slice (some ⟨w.heap.size, P, none⟩) N N)) 100 (by kernel_rfl) (cell_be hbd cR) ?_
          intro hS
          refine anyE_takeH 0 rfl (by kernel_rfl) (fun _ _ _ h => h) hS (by rfl) (v := ?_) ?_ ?_
          rotate_left
          · intro w' hSw; (try dsimp only at hSw); go_simp; (try with_reducible rfl)
          try simp only [Act.put, List.setIfInBounds_toArray, List.set_cons_zero, List.set_cons_succ]
          refine anyE_takeH 1 rfl (by kernel_rfl) (fun _ _ _ h => h) hS (by rfl) (v := ?_) ?_ ?_
          rotate_left
          · intro w' hSw; (try dsimp only at hSw); go_simp; (try with_reducible rfl)
          try simp only [Act.put, List.setIfInBounds_toArray, List.set_cons_zero, List.set_cons_succ]
          refine anyE_takeH 2 rfl (by kernel_rfl) (fun _ _ _ h => h) hS (by rfl) (v := ?_) ?_ ?_
          rotate_left
          · intro w' hSw; (try dsimp only at hSw); go_simp; (try with_reducible rfl)
          try simp only [Act.put, List.setIfInBounds_toArray, List.set_cons_zero, List.set_cons_succ]
          refine anyE_takeH 3 rfl (by kernel_rfl) (fun _ _ _ h => h) hS (by rfl) (v := ?_) ?_ ?_
          rotate_left
          · intro w' hSw; (try dsimp only at hSw); go_simp; (try with_reducible rfl)
          try simp only [Act.put, List.setIfInBounds_toArray, List.set_cons_zero, List.set_cons_succ]
          refine anyE_takeH 4 rfl (by kernel_rfl) (fun _ _ _ h => h) hS (by rfl) (v := ?_) ?_ ?_
          rotate_left
          · intro w' hSw; (try dsimp only at hSw); go_simp; (try with_reducible rfl)
          try simp only [Act.put, List.setIfInBounds_toArray, List.set_cons_zero, List.set_cons_succ]
          refine anyE_takeH 5 rfl (by kernel_rfl) (fun _ _ _ h => h) hS (by rfl) (v := ?_) ?_ ?_
          rotate_left
          · intro w' hSw; (try dsimp only at hSw); go_simp; (try with_reducible rfl)
          try simp only [Act.put, List.setIfInBounds_toArray, List.set_cons_zero, List.set_cons_succ]
          refine anyE_takeH 6 rfl (by kernel_rfl) (fun _ _ _ h => h) hS (by rfl) (v := ?_) ?_ ?_
          rotate_left
          · intro w' hSw; (try dsimp only at hSw); go_simp; (try with_reducible rfl)
          try simp only [Act.put, List.setIfInBounds_toArray, List.set_cons_zero, List.set_cons_succ]
          refine anyE_takeH 7 rfl (by kernel_rfl) (fun _ _ _ h => h) hS (by rfl) (v := ?_) ?_ ?_
          rotate_left
          · intro w' hSw; (try dsimp only at hSw); go_simp; (try with_reducible rfl)
          try simp only [Act.put, List.setIfInBounds_toArray, List.set_cons_zero, List.set_cons_succ]
          refine anyE_takeH 8 rfl (by kernel_rfl) (fun _ _ _ h => h) hS (by rfl) (v := ?_) ?_ ?_
          rotate_left
          · intro w' hSw; (try dsimp only at hSw); go_simp; (try with_reducible rfl)
          try simp only [Act.put, List.setIfInBounds_toArray, List.set_cons_zero, List.set_cons_succ]
          refine anyE_oneL 9 (by kernel_rfl) rfl (fun K' hK' => ?_)
          go_simp
          refine (reversed_any _ _ _ g _ (s1.below hbd) (by omega)).mono ?_
          rintro e w3 ⟨a3, c3, rfl, o3, t3⟩
          dsimp only
          have hm3 := bnext hbd t3
          have S3 := cell_be hm3 cR
          refine hK'.out _ _ S3 ?_
          clear hK' K'
          try simp only [Act.put, List.setIfInBounds_toArray, List.set_cons_zero, List.set_cons_succ]
          clear hS
          have hM3 := hide (hMx.out.next hm3)
          have sl3 : SL w3 a3 n2 c3 (revL g) := by have t := o3.sl; rwa [HBl.out, ← Hm.out] at t
          refine anyE_oneL 10 (by kernel_rfl) rfl (fun K' hK' => ?_)
          refine step_copyP rfl _ _ rfl w.heap.size (P + k) (N - k) (N - k) (tab (N * N) (fillT N R r)) rfl hM3.out.row a3 n2 c3 (revL g) rfl sl3 (by have := HN.out; have := Hm.out; have := Hr.out; omega) (by rw [tab_len, ← HP.out]; have := mat_lt (n := N) (i := r) (j := N - 1) hiN (by omega); have := HN.out; have := Hm.out; have := Hr.out; omega) ?_
          intro w4 hR4 hg4
          have e4 : splice (tab (N * N) (fillT N R r)) (P + k) (revL g) = tab (N * N) (fillT N R (i + (k + 1))) := by
            rw [← HP.out, show i + (k + 1) = r + 1 by have := Hr.out; omega]
            refine fill_splice N R r k (revL g) hiN (by rw [HBl.out]; have := HN.out; have := Hr.out; omega) (fun j hj => ?_)
            rw [← HR.out]
            unfold sylR
            rw [if_neg (by have := Hr.out; omega), HBl.out, show r - i = k by have := Hr.out; omega]
          have hR4' := hR4.out
          rw [e4] at hR4'
          have hM4 := hide (hM3.out.copied hR4' (tab_len _ _) hg4)
          have hB4 : Below w.heap.size w w4 := (hBx.trans (hm3.mono hBx.size)).grown hg4 (Nat.le_trans hBx.size hm3.size) (fun k e => by cases e; exact Nat.le_refl _)
          have S4 := hM4.out.cell r hiN
          rw [HP.out] at S4
          refine hK'.out _ _ S4 (anyE_doneL (by kernel_rfl) ?_)
          clear hK' K' S4 hR4' hR4 hg4 e4 sl3 hM3 S3 cR o3 t3 hm3 hbd s1 hMx
          go_wp2
          go_roundw
          case rel => exact ⟨k + 1, by omega, by go_num, hM4, hB4⟩
          case measure => simp [intOf]; omega
        · obtain rfl : k = n := by omega
          have hzb := hBx.size
          by_cases h0 : N = 0
          · have h00 : k = 0 ∧ i = 0 := by have := HN.out; omega
            have hv := hide (show sylM p k i (revL f) (revL g) = 1 by rw [h00.1, h00.2]; rfl)
            subst h0
            clear h00
            go_wp2_with fail
            refine (determinant_zero p _ _ _).mono ?_
            rintro e w5 ⟨rfl, t5⟩
            have hB5 := bnext hBx t5
            go_wp2
            go_ret
            exact ⟨ret_int hv.out.symm, hB5⟩
          · have hrows : ∀ j, j < N → ∃ a c, wr.cell? ⟨w.heap.size + 1, j, none⟩ = some (.slice a N c) ∧ SL wr a N c (sylX k i (revL f) (revL g) j) := fun j hj => by
              refine ⟨_, _, hMx.out.cell j hj, ?_⟩
              have t := hMx.out.slr j hj
              rw [show i + k = N by have := HN.out; omega, fill_row N R j hj] at t
              unfold sylX
              rw [HN.out, HR.out]
              exact t
            have Hrows := hide hrows
            have Hare := hide (fun j => sylX_are hp HA.out HB.out k i j)
            have hv := hide (show sylM p k i (revL f) (revL g) = detM p N (sylX k i (revL f) (revL g)) by unfold sylM; rw [HN.out])
            clear hrows
            go_wp2_with fail
            refine (determinant_any p _ N _ (sylX k i (revL f) (revL g)) _ Hrows.out (by omega) hNb hp hp2 (fun j _ => Hare.out j)).mono ?_
            rintro e w5 ⟨rfl, t5⟩
            have hB5 := bnext hBx t5
            go_wp2
            go_ret
            exact ⟨ret_int hv.out.symm, hB5⟩
end Go.Proofs.Ytnojmghmkoojfaa
