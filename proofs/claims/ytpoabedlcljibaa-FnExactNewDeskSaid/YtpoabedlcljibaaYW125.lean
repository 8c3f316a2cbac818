/- Merged texts. -/
import Derived.Test.YtpoabedlcljibaaYW120
import Derived.Test.YtpoabedlcljibaaYW122
import Derived.Test.YtpoabedlcljibaaYW123
import Derived.Test.YtpoabedlcljibaaYW124
import Derived.Test.YtpoabedlcljibaaYW18
/- Contracts: l05Reverse (model), slices.Reverse on an owned list (program), SeriesOfJacobi (program and model). -/
namespace Go.Proofs.Ytpoabedlcljibaa
open Go.RowKit
set_option linter.unusedVariables false
set_option linter.unusedSimpArgs false

/-- The numbers in the reverse order. -/
def revL (xs : List Int) : List Int := tab xs.length (fun j => xs.getD (xs.length - 1 - j) 0)
theorem revL_len (xs : List Int) : (revL xs).length = xs.length := tab_len _ _
theorem revL_are {p : Int} {xs : List Int} (h : areB p xs = true) : areB p (revL xs) = true := areB_mk fun j hj => by
  rw [revL_len] at hj
  unfold revL
  rw [tab_at _ _ _ hj]
  exact areB_at h _ (by omega)
theorem reverse_own (B : Nat) (a : Option Addr) (n c : Nat) (xs : List Int) (w : World) (ho : Own B w a c xs) (hl : n = xs.length) (hn : n ≤ 1000) :
    Calls Try.prog 87 #[.slice a n c] w fun e w' => e = .returned (.tuple #[]) ∧ Own B w' a c (revL xs) ∧ ∃ lo hi, Touch lo hi w w' ∧ B ≤ lo ∧ (∀ g, blk a = some g → lo = g ∧ hi = g + 1) ∧ (blk a = none → hi = 0) := by
  subst hl
  by_cases h1 : xs.length ≤ 1
  · refine (reverse_small a xs.length c w h1).mono ?_
    rintro e w' ⟨rfl, rfl⟩
    have e : revL xs = xs := by
      unfold revL
      apply ext_tab
      · rw [tab_len]
      · intro j hj
        rw [tab_len] at hj
        rw [tab_at _ _ _ hj]
        congr 1
        omega
    rw [e]
    cases hb : blk a with
    | none => exact ⟨rfl, ho, B, 0, Touch.refl _ _ _, Nat.le_refl _, (by intro g h; cases h), fun _ => rfl⟩
    | some g => exact ⟨rfl, ho, g, g + 1, Touch.refl _ _ _, own_blk_ge ho g hb, (by intro g' h; cases h; exact ⟨rfl, rfl⟩), (by intro h; cases h)⟩
  · obtain ⟨g, rfl, _, _, _⟩ := ho.blkG (by omega)
    have ho' : Own B w (some ⟨g, 0, none⟩) c (tab (0 + xs.length) (fun j => xs.getD j 0)) := by
      rw [Nat.zero_add, ← tab_of xs _ rfl]
      exact ho
    refine (reverse_any B g 0 xs.length c c (fun j => xs.getD j 0) w ho' (by omega) hn (by omega)).mono ?_
    rintro e w' ⟨rfl, h2, h3⟩
    refine ⟨rfl, ?_, g, g + 1, h3, own_blk_ge ho g rfl, fun g' h => by cases h; exact ⟨rfl, rfl⟩, fun h => by cases h⟩
    have e2 : tab (0 + xs.length) (fun j => if 0 ≤ j then (fun j => xs.getD j 0) (0 + (0 + xs.length - 1 - j)) else (fun j => xs.getD j 0) j) = revL xs := by
      unfold revL
      rw [Nat.zero_add]
      apply tab_congr
      intro j hj
      rw [if_pos (Nat.zero_le _)]
      simp only [Nat.zero_add]
    rw [e2] at h2
    exact h2
theorem addM_long {p k : Int} {f g : List Int} (hlt : g.length < f.length) (hl : f.getD (f.length - 1) 0 ≠ 0) : (addM p f g k).length = f.length := by
  unfold addM
  rw [show max f.length g.length = f.length by omega, trimL_self, tab_len]
  rw [tab_len, tab_at _ _ _ (by omega)]
  unfold sumH
  rw [if_neg (by omega)]
  exact hl
theorem lin_full {p : Int} (hp : primeB p = true) (a : Int) {f : List Int} (hf : polyB p f = true) (h0 : f.length ≠ 0) : (mulM p (linM p a) f).length = f.length + 1 ∧ (mulM p (linM p a) f).getD ((mulM p (linM p a) f).length - 1) 0 ≠ 0 := by
  have e1 : (mulM p (linM p a) f).length = f.length + 1 := by
    rw [mulM_len (by simp [linM]) (fun h => h0 (by rw [h]; rfl))]
    simp [linM]
    omega
  refine ⟨e1, ?_⟩
  have e := mulM_trim hp (linM_poly (primeB_lo hp).1 (a := a)) hf
  have := trimL_last (mulM p (linM p a) f)
  rw [e] at this
  rcases this with h | h
  · omega
  · exact h
theorem polJ_len2 {p : Int} (hp : primeB p = true) (xs ys : List Int) : ∀ i, i ≤ 22 → (polJ p xs ys i).length = i + 1 ∧ (polJ p xs ys (i + 1)).length = i + 2 := by
  intro i
  induction i with
  | zero => intro _; exact ⟨rfl, by rw [polJ_one (primeB_lo hp).1]; rfl⟩
  | succ i ih =>
    intro hi
    obtain ⟨h1, h2⟩ := ih (by omega)
    refine ⟨h2, ?_⟩
    have hf := (polJ_small (primeB_lo hp).1 xs ys (i + 1) (by omega)).1
    obtain ⟨l1, l2⟩ := lin_full hp (xs.getD (i + 1) 0) hf (by omega)
    rw [polJ_step]
    unfold stp
    rw [addM_long (by omega) l2]
    omega
theorem polJ_len {p : Int} (hp : primeB p = true) (xs ys : List Int) (i : Nat) (hi : i ≤ 22) : (polJ p xs ys i).length = i + 1 := (polJ_len2 hp xs ys i hi).1
def sojC (p : Int) (xs ys : List Int) (k : Int) : Int := jcd p xs ys k 0 24
def sojF (p : Int) (xs ys : List Int) : List Int := addM p [] (secJ p xs ys xs.length) (ys.getD 0 0)
def sojV (p : Int) (xs ys : List Int) (k : Int) : List Int := if sojC p xs ys k = 0 then serL p (revL (sojF p xs ys)) (revL (polJ p xs ys xs.length)) k.toNat else []
end Go.Proofs.Ytpoabedlcljibaa
/- Contracts: reversed, checkNonzero (program), l06Code, l02Back (model), ReversePolynomial (program and model). -/
namespace Go.Proofs.Ytpoabedlcljibaa
open Go.RowKit
set_option linter.unusedVariables false
set_option linter.unusedSimpArgs false

/-- The first n lists all hold a number. -/
def nzB (X : Nat → List Int) : Nat → Bool
  | 0 => true
  | k + 1 => nzB X k && !(X k).isEmpty
def nzC (p : Int) (X : Nat → List Int) (n : Nat) : Int := if chkC p X n = 0 then (if nzB X n then 0 else 5) else chkC p X n
theorem nzB_false (X : Nat → List Int) (n k : Nat) (hk : k < n) (h : (X k).isEmpty = true) : nzB X n = false := by
  induction n with
  | zero => omega
  | succ n ih =>
    rcases (show k = n ∨ k < n by omega) with rfl | h'
    · unfold nzB; rw [h]; simp
    · unfold nzB; rw [ih h']; rfl
theorem chkC_cases (p : Int) (X : Nat → List Int) (n : Nat) : chkC p X n = 1 ∨ chkC p X n = 2 ∨ chkC p X n = 0 := by
  unfold chkC
  cases chkB p X n <;> cases primeB p <;> simp
theorem isEmpty_len {f : List Int} {n : Nat} (h : f.length = n) : f.isEmpty = decide (n = 0) := by
  subst h
  cases f <;> simp
def nz1 (p : Int) (f : List Int) : Int := if chk1 p f = 0 then (if f.isEmpty then 5 else 0) else chk1 p f
def nz2 (p : Int) (f g : List Int) : Int := if chk2 p f g = 0 then (if f.isEmpty || g.isEmpty then 5 else 0) else chk2 p f g
theorem nzC1 (p : Int) (f : List Int) : nzC p (fun _ => f) 1 = nz1 p f := by
  unfold nzC nz1
  rw [chkC1]
  simp only [nzB, Bool.true_and]
  cases f.isEmpty <;> simp
theorem nzC2 (p : Int) (f g : List Int) : nzC p (fun j => if j = 0 then f else g) 2 = nz2 p f g := by
  unfold nzC nz2
  rw [chkC2]
  simp only [nzB, Bool.true_and, if_true, Nat.one_ne_zero, if_false]
  cases f.isEmpty <;> cases g.isEmpty <;> rfl
theorem nz1_cases (p : Int) (f : List Int) : (nz1 p f = 1 ∨ nz1 p f = 2 ∨ nz1 p f = 5) ∨ (nz1 p f = 0 ∧ polyB p f = true ∧ primeB p = true ∧ f.length ≠ 0) := by
  unfold nz1
  rcases chk1_cases p f with h | h | ⟨h, h1, h2⟩ <;> rw [h]
  · exact .inl (.inl (by simp))
  · exact .inl (.inr (.inl (by simp)))
  · cases he : f.isEmpty
    · exact .inr ⟨by simp, h1, h2, by cases f <;> simp at he ⊢⟩
    · exact .inl (.inr (.inr (by simp)))
theorem nz2_cases (p : Int) (f g : List Int) : (nz2 p f g = 1 ∨ nz2 p f g = 2 ∨ nz2 p f g = 5) ∨ (nz2 p f g = 0 ∧ polyB p f = true ∧ polyB p g = true ∧ primeB p = true ∧ f.length ≠ 0 ∧ g.length ≠ 0) := by
  unfold nz2
  rcases chk2_cases p f g with h | h | ⟨h, h1, h2, h3⟩ <;> rw [h]
  · exact .inl (.inl (by simp))
  · exact .inl (.inr (.inl (by simp)))
  · cases he : f.isEmpty
    · cases hg : g.isEmpty
      · exact .inr ⟨by simp, h1, h2, h3, by cases f <;> simp at he ⊢, by cases g <;> simp at hg ⊢⟩
      · exact .inl (.inr (.inr (by simp)))
    · exact .inl (.inr (.inr (by simp)))
set_option maxRecDepth 100000 in
theorem reversed_any (a : Option Addr) (n c : Nat) (xs : List Int) (w : World) (hs : SL w a n c xs) (hn : n ≤ 1000) :
    Calls Try.prog 80 #[.slice a n c] w fun e w' => ∃ a' c', e = .returned (.slice a' n c') ∧ Own w.heap.size w' a' c' (revL xs) ∧ Below w.heap.size w w' := by
  have hl := hs.len
  go_enter Try.func80, Try.ntmps80
  go_wp2_with fail
  refine (clone_any a n c xs _ hs (by omega)).mono ?_
  rintro e w1 ⟨a1, c1, rfl, ho, hb⟩
  go_wp2_with fail
  refine (reverse_own w.heap.size a1 n c1 xs w1 ho hl.symm hn).mono ?_
  rintro e w2 ⟨rfl, ho2, lo, hi, ht, hlo, _, _⟩
  have hB := below_touch hb ht hlo hb.size
  go_wp2
  go_ret
  exact ⟨a1, c1, rfl, ho2, hB⟩
set_option maxRecDepth 100000 in
set_option maxHeartbeats 1600000 in
theorem l02Back_any (a : Option Addr) (n c : Nat) (xs : List Int) (w : World) (hs : SL w a n c xs) (hn : n ≤ 100000) :
    Calls Try.prog 76 #[.slice a n c] w fun e w' => ∃ a' c', e = .returned (.slice a' n c') ∧ Own w.heap.size w' a' c' (revL xs) ∧ Below w.heap.size w w' := by
  have hl := hide hs.len
  have ho : Own w.heap.size (w.alloc (.cells #[] 2)) (some ⟨w.heap.size, 0, none⟩) 0 [] := World.ownsRow_lit w (base := w.heap.size) (e := 2) (size := 1) #[] 0 (Nat.le_refl _) (by simp) rfl
  have hb0 := bl1 w (.cells #[] 2)
  have hz0 : Hid (([] : List Int) = tab 0 (fun j => xs.getD (n - 1 - j) 0)) := hide rfl
  have v0 : IntKind.i64.wrap ((n : Int) - 1) = (n : Int) - 1 := IntWalk.i64_in _ (by omega)
  go_enter Try.func76, Try.ntmps76
  go_wp2
  clear v0
  go_loopw [3, 4] (fun ov iv wr => ∃ (k : Nat) (a' : Option Addr) (c' : Nat) (zs : List Int), k ≤ n ∧ iv = .int .i64 ((n : Int) - 1 - k) ∧ ov = .slice a' k c' ∧ Hid (zs = tab k (fun j => xs.getD (n - 1 - j) 0)) ∧ Hid (zs.length = k) ∧ Hid (Own w.heap.size wr a' c' zs) ∧ Below w.heap.size w wr) (fun _ iv _ => (intOf iv + 1).toNat)
  case atStart => exact ⟨0, _, 0, [], by omega, by simp, rfl, hz0, hide rfl, hide ho, hb0⟩
  case round =>
    obtain ⟨k, a', c', zs, hk, rfl, rfl, hZ, hzl, hO, hBr⟩ := hrel
    clear ho hb0 hz0
    by_cases hlt : k < n
    · obtain ⟨i, hi⟩ : ∃ i : Nat, i = n - 1 - k := ⟨_, rfl⟩
      have hii : (n : Int) - 1 - k = (i : Int) := by omega
      obtain ⟨b, off, ha, hbw, hcell⟩ := (hs.below hBr).at (by omega)
      subst ha
      have e1 := hcell i (by omega)
      have hst : Hid (tab (k + 1) (fun j => xs.getD (n - 1 - j) 0) = zs ++ [xs.getD i 0]) := hide (by rw [hZ.out, hi]; exact (tab_snoc k (fun j => xs.getD (n - 1 - j) 0)).symm)
      obtain ⟨x, hx⟩ : ∃ x, xs.getD i 0 = x := ⟨_, rfl⟩
      rw [hx] at e1 hst
      rw [hii]
      have Hi := hide hi
      have q1 : (i : Int) < (n : Int) := by omega
      have q2 : (0 : Int) ≤ (i : Int) := by omega
      have v1 : IntKind.i64.wrap ((i : Int) - 1) = (i : Int) - 1 := IntWalk.i64_in _ (by omega)
      have hbs := hBr.size
      have hOa := hide (hO.out.below (bl1 wr (.cells #[.int .i64 x] 2)))
      clear hcell hx hi hii hO
      go_wp2_with (at_builtin; refine wp_append rfl _ _ rfl w.heap.size _ k _ zs rfl hzl.out.symm hOa.out _ 1 1 [x] rfl (litSL wr x) (by omega) (by simp; omega) ?_; intro ad' cap' w1 hown hb)
      have hown' := hide hown
      have hB1 := (hBr.alloc hbs (.cells #[.int .i64 x] 2)).trans hb
      have hl2 : Hid ((zs ++ [x]).length = k + 1) := hide (by rw [List.length_append, hzl.out]; rfl)
      have hst' := hide hst.out.symm
      clear hown hb hOa hst
      go_wp2
      go_roundw
      case rel => exact ⟨k + 1, ad', cap', zs ++ [x], by omega, by rw [show ((n : Int) - 1 - ((k + 1 : Nat) : Int)) = (i : Int) - 1 by have := Hi.out; omega], by rw [hzl.out], hst', hl2, hown', hB1⟩
      case measure => first | (simp [intOf]; done) | (simp [intOf]; omega)
    · have hkn : k = n := by omega
      have Hk := hide hkn
      have hlt' : ¬ (0 : Int) ≤ (n : Int) - 1 - (k : Int) := by omega
      have hR : Hid (zs = revL xs) := hide (by rw [hZ.out, hkn]; unfold revL; rw [hl.out])
      clear hkn
      go_wp2
      refine bodyPost_ret (v := .slice a' k c') (by simp [results, Try.results76]) rfl ?_
      exact ⟨a', c', by rw [Hk.out], by rw [← hR.out]; exact hO.out, hBr⟩
def rvpC (p : Int) (f : List Int) : Int := if nz1 p f = 0 then (if f.getD 0 0 = 0 then 5 else 0) else nz1 p f
def rvpV (p : Int) (f : List Int) : List Int := if rvpC p f = 0 then revL f else []
end Go.Proofs.Ytpoabedlcljibaa
