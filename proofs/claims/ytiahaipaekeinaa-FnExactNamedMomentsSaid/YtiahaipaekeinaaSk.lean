/- Contracts: l05Reverse (model), slices.Reverse on an owned list (program), SeriesOfJacobi (program and model). -/
import Derived.Test.YtiahaipaekeinaaSg
import Derived.Test.YtiahaipaekeinaaRf
import Derived.Test.YtiahaipaekeinaaRv
import Derived.Test.YtiahaipaekeinaaPd
import Derived.Test.YtiahaipaekeinaaWa
namespace Go.Proofs.Ytiahaipaekeinaa
open Go.RowKit
set_option linter.unusedVariables false
set_option linter.unusedSimpArgs false

/-- The numbers in the reverse order. -/
def revL (xs : List Int) : List Int := tab xs.length (fun j => xs.getD (xs.length - 1 - j) 0)
theorem revL_len (xs : List Int) : (revL xs).length = xs.length := tab_len _ _
theorem revL_are {p : Int} {xs : List Int} (h : areB p xs = true) : areB p (revL xs) = true := areB_mk fun j hj => by
  rw [revL_len] at hj
  unfold revL
  rw [tab_at _ _ _ hj]
  exact areB_at h _ (by omega)
theorem reverse_own (B : Nat) (a : Option Addr) (n c : Nat) (xs : List Int) (w : World) (ho : Own B w a c xs) (hl : n = xs.length) (hn : n ≤ 1000) :
    Calls Try.prog 38 #[.slice a n c] w fun e w' => e = .returned (.tuple #[]) ∧ Own B w' a c (revL xs) ∧ ∃ lo hi, Touch lo hi w w' ∧ B ≤ lo ∧ (∀ g, blk a = some g → lo = g ∧ hi = g + 1) ∧ (blk a = none → hi = 0) := by
  subst hl
  by_cases h1 : xs.length ≤ 1
  · refine (reverse_small a xs.length c w h1).mono ?_
    rintro e w' ⟨rfl, rfl⟩
    have e : revL xs = xs := by
      unfold revL
      apply ext_tab
      · rw [tab_len]
      · intro j hj
        rw [tab_len] at hj
        rw [tab_at _ _ _ hj]
        congr 1
        omega
    rw [e]
    cases hb : blk a with
    | none => exact ⟨rfl, ho, B, 0, Touch.refl _ _ _, Nat.le_refl _, (by intro g h; cases h), fun _ => rfl⟩
    | some g => exact ⟨rfl, ho, g, g + 1, Touch.refl _ _ _, own_blk_ge ho g hb, (by intro g' h; cases h; exact ⟨rfl, rfl⟩), (by intro h; cases h)⟩
  · obtain ⟨g, rfl, _, _, _⟩ := ho.blkG (by omega)
    have ho' : Own B w (some ⟨g, 0, none⟩) c (tab (0 + xs.length) (fun j => xs.getD j 0)) := by
      rw [Nat.zero_add, ← tab_of xs _ rfl]
      exact ho
    refine (reverse_any B g 0 xs.length c c (fun j => xs.getD j 0) w ho' (by omega) hn (by omega)).mono ?_
    rintro e w' ⟨rfl, h2, h3⟩
    refine ⟨rfl, ?_, g, g + 1, h3, own_blk_ge ho g rfl, fun g' h => by cases h; exact ⟨rfl, rfl⟩, fun h => by cases h⟩
    have e2 : tab (0 + xs.length) (fun j => if 0 ≤ j then (fun j => xs.getD j 0) (0 + (0 + xs.length - 1 - j)) else (fun j => xs.getD j 0) j) = revL xs := by
      unfold revL
      rw [Nat.zero_add]
      apply tab_congr
      intro j hj
      rw [if_pos (Nat.zero_le _)]
      simp only [Nat.zero_add]
    rw [e2] at h2
    exact h2
theorem addM_long {p k : Int} {f g : List Int} (hlt : g.length < f.length) (hl : f.getD (f.length - 1) 0 ≠ 0) : (addM p f g k).length = f.length := by
  unfold addM
  rw [show max f.length g.length = f.length by omega, trimL_self, tab_len]
  rw [tab_len, tab_at _ _ _ (by omega)]
  unfold sumH
  rw [if_neg (by omega)]
  exact hl
theorem lin_full {p : Int} (hp : primeB p = true) (a : Int) {f : List Int} (hf : polyB p f = true) (h0 : f.length ≠ 0) : (mulM p (linM p a) f).length = f.length + 1 ∧ (mulM p (linM p a) f).getD ((mulM p (linM p a) f).length - 1) 0 ≠ 0 := by
  have e1 : (mulM p (linM p a) f).length = f.length + 1 := by
    rw [mulM_len (by simp [linM]) (fun h => h0 (by rw [h]; rfl))]
    simp [linM]
    omega
  refine ⟨e1, ?_⟩
  have e := mulM_trim hp (linM_poly (primeB_lo hp).1 (a := a)) hf
  have := trimL_last (mulM p (linM p a) f)
  rw [e] at this
  rcases this with h | h
  · omega
  · exact h
theorem polJ_len2 {p : Int} (hp : primeB p = true) (xs ys : List Int) : ∀ i, i ≤ 22 → (polJ p xs ys i).length = i + 1 ∧ (polJ p xs ys (i + 1)).length = i + 2 := by
  intro i
  induction i with
  | zero => intro _; exact ⟨rfl, by rw [polJ_one (primeB_lo hp).1]; rfl⟩
  | succ i ih =>
    intro hi
    obtain ⟨h1, h2⟩ := ih (by omega)
    refine ⟨h2, ?_⟩
    have hf := (polJ_small (primeB_lo hp).1 xs ys (i + 1) (by omega)).1
    obtain ⟨l1, l2⟩ := lin_full hp (xs.getD (i + 1) 0) hf (by omega)
    rw [polJ_step]
    unfold stp
    rw [addM_long (by omega) l2]
    omega
theorem polJ_len {p : Int} (hp : primeB p = true) (xs ys : List Int) (i : Nat) (hi : i ≤ 22) : (polJ p xs ys i).length = i + 1 := (polJ_len2 hp xs ys i hi).1
def sojC (p : Int) (xs ys : List Int) (k : Int) : Int := jcd p xs ys k 0 24
def sojF (p : Int) (xs ys : List Int) : List Int := addM p [] (secJ p xs ys xs.length) (ys.getD 0 0)
def sojV (p : Int) (xs ys : List Int) (k : Int) : List Int := if sojC p xs ys k = 0 then serL p (revL (sojF p xs ys)) (revL (polJ p xs ys xs.length)) k.toNat else []
end Go.Proofs.Ytiahaipaekeinaa
