/- Mathematics of FindJacobi: divisions of monic polynomials, one after the other. No program. -/
import Derived.Test.YtllcgoachgfpjaaPd
import Derived.Test.YtllcgoachgfpjaaRm
namespace Go.Proofs.Ytllcgoachgfpjaa
open Go.RowKit
set_option linter.unusedVariables false
set_option linter.unusedSimpArgs false

/-- The two polynomials that are divided at the step s. -/
def fjG (p : Int) (f g : List Int) : Nat → List Int × List Int
  | 0 => (f, g)
  | s + 1 => ((fjG p f g s).2, monM p (remM p (fjG p f g s).1 (fjG p f g s).2))
def fjQ (p : Int) (f g : List Int) (s : Nat) : List Int := quoM p (fjG p f g s).1 (fjG p f g s).2
def fjR (p : Int) (f g : List Int) (s : Nat) : List Int := remM p (fjG p f g s).1 (fjG p f g s).2
theorem fjG_succ (p : Int) (f g : List Int) (s : Nat) : fjG p f g (s + 1) = ((fjG p f g s).2, monM p (fjR p f g s)) := rfl
/-- The rests have the degrees that they must have, up to the step s. -/
def fjOk (p : Int) (f g : List Int) (n s : Nat) : Prop := ∀ t, t < s → (fjR p f g t).length = n - 1 - t
def fjB (p : Int) (f g : List Int) (n : Nat) : Bool := (List.range (n - 1)).all (fun t => (fjR p f g t).length == n - 1 - t)
theorem fjB_true {p : Int} {f g : List Int} {n : Nat} (h : fjOk p f g n (n - 1)) : fjB p f g n = true := by
  unfold fjB
  rw [List.all_eq_true]
  intro t ht
  simpa using h t (by simpa using ht)
theorem fjB_false {p : Int} {f g : List Int} {n s : Nat} (hs : s < n - 1) (h : (fjR p f g s).length ≠ n - 1 - s) : fjB p f g n = false := by
  unfold fjB
  rw [Bool.eq_false_iff]
  intro h2
  rw [List.all_eq_true] at h2
  have := h2 s (by simpa using hs)
  simp at this
  exact h this
/-- What holds of the two polynomials at the step s. -/
structure FjS (p : Int) (f g : List Int) (n s : Nat) : Prop where
  p1 : polyB p (fjG p f g s).1 = true
  p2 : polyB p (fjG p f g s).2 = true
  l1 : (fjG p f g s).1.length = n + 1 - s
  l2 : (fjG p f g s).2.length = n - s
  t2 : cf (fjG p f g s).2 (n - s - 1) = 1
theorem fjS_all {p : Int} (hp : primeB p = true) {f g : List Int} {n : Nat} (hn : n ≤ 12) (hf : polyB p f = true) (hg : polyB p g = true) (h1 : f.length = n + 1) (h2 : g.length = n) (h3 : cf g (n - 1) = 1) : ∀ s, s ≤ n - 1 → fjOk p f g n s → FjS p f g n s := by
  intro s
  induction s with
  | zero => intro _ _; exact ⟨hf, hg, h1, h2, h3⟩
  | succ s ih =>
    intro hs hok
    have h := ih (by omega) (fun t ht => hok t (by omega))
    have hr := hok s (by omega)
    have hrp : polyB p (fjR p f g s) = true := remM_poly hp h.p1 h.p2
    obtain ⟨m1, m2⟩ := monM_top hp hrp (by omega)
    rw [hr] at m1 m2
    have e1 : (fjG p f g (s + 1)).1 = (fjG p f g s).2 := rfl
    have e2 : (fjG p f g (s + 1)).2 = monM p (fjR p f g s) := rfl
    have ha : areB p (monM p (fjR p f g s)) = true := by
      unfold monM
      split
      · rfl
      · exact addM_areB (primeB_lo hp).1 rfl _ _
    have hmp : polyB p (monM p (fjR p f g s)) = true := by
      refine polyB_mk (by rw [m1]; omega) ha (.inr ?_)
      rw [m1]
      unfold cf at m2
      rw [m2]
      omega
    exact ⟨by rw [e1]; exact h.p2, by rw [e2]; exact hmp, by rw [e1, h.l2]; omega, by rw [e2, m1]; omega, by rw [e2, show n - (s + 1) - 1 = n - 1 - s - 1 by omega]; exact m2⟩
/-- The quotient has two numbers at least. -/
theorem quo_two {p : Int} (hp : primeB p = true) {f g : List Int} (hf : polyB p f = true) (hg : polyB p g = true) (h : f.length = g.length + 1) (h0 : g.length ≠ 0) : 1 < (quoM p f g).length := by
  have hlt : ¬ (quoM p f g).length ≤ 1 := fun hle => by
    have hb := div_back hp hf hg h0 g.length
    rw [cv_far (by omega), cf_far (f := remM p f g) (by have := remM_lt hp hf hg h0; omega)] at hb
    rcases (polyB_rng hf).2.2 with e | e
    · rw [e] at h; simp at h
    · rw [h, Nat.add_sub_cancel] at e
      unfold cf at hb
      exact e (by rw [hb]; simp)
  omega
/-- The quotient by 1 is the polynomial itself. -/
theorem quo_one {p : Int} (hp : primeB p = true) {f g : List Int} (hf : polyB p f = true) (hg : polyB p g = true) (h1 : g.length = 1) (h2 : cf g 0 = 1) : quoM p f g = f := by
  have hl := (primeB_lo hp).1
  have hr := remM_lt hp hf hg (by omega)
  refine can_ext (can_poly (quoM_poly hp hf hg (by omega))) (can_poly hf) fun j => ?_
  have hb := div_back hp hf hg (by omega) j
  rw [cf_far (f := remM p f g) (by omega), Int.add_zero] at hb
  have e : cv (cf (quoM p f g)) (cf g) j = cf (quoM p f g) j := by
    rw [cv_comm]
    unfold cv
    rw [sm_head, h2, Int.one_mul, Nat.sub_zero]
    have : sm j (fun k => cf g (k + 1) * cf (quoM p f g) (j - (k + 1))) = 0 := by
      rw [show (0 : Int) = sm 0 (fun k => cf g (k + 1) * cf (quoM p f g) (j - (k + 1))) from rfl]
      apply sm_ext _ 0 _ (by omega)
      intro k _ _
      rw [cf_far (f := g) (by omega), Int.zero_mul]
    rw [this, Int.add_zero]
  rw [e] at hb
  have hq := cf_rng hl (polyB_rng (quoM_poly hp hf hg (by omega))).2.1 j
  rw [hb, Int.emod_eq_of_lt hq.1 hq.2]
/-- The numbers Alpha and Beta that are found. -/
def fjA (p : Int) (f g : List Int) (n j : Nat) : Int := opp p ((fjQ p f g (n - 1 - j)).getD 0 0)
def fjE (p : Int) (f g : List Int) (b : Int) (n j : Nat) : Int := if j = 0 then b else opp p ((fjR p f g (n - 1 - j)).getD (j - 1) 0)
/-- The rows when all from k on are found. -/
def fjX (p : Int) (f g : List Int) (n k : Nat) : Nat → Int := fun j => if k ≤ j then fjA p f g n j else 0
def fjY (p : Int) (f g : List Int) (b : Int) (n k : Nat) : Nat → Int := fun j => if j = 0 ∨ k ≤ j then fjE p f g b n j else 0
theorem fjX_set (p : Int) (f g : List Int) (n k : Nat) : (tab n (fjX p f g n (k + 1))).set k (fjA p f g n k) = tab n (fjX p f g n k) := by
  rw [tab_set]
  apply tab_congr
  intro j _
  unfold fjX
  by_cases e : j = k
  · subst e; rw [if_pos rfl, if_pos (Nat.le_refl _)]
  · rw [if_neg e]
    by_cases h : k + 1 ≤ j
    · rw [if_pos h, if_pos (by omega)]
    · rw [if_neg h, if_neg (by omega)]
theorem fjY_set (p : Int) (f g : List Int) (b : Int) (n k : Nat) : (tab n (fjY p f g b n (k + 1))).set k (fjE p f g b n k) = tab n (fjY p f g b n k) := by
  rw [tab_set]
  apply tab_congr
  intro j _
  unfold fjY
  by_cases e : j = k
  · subst e; rw [if_pos rfl, if_pos (.inr (Nat.le_refl _))]
  · rw [if_neg e]
    by_cases h : j = 0 ∨ k + 1 ≤ j
    · rw [if_pos h, if_pos (by omega)]
    · rw [if_neg h, if_neg (by omega)]
theorem fjX_all (p : Int) (f g : List Int) (n : Nat) : tab n (fjX p f g n n) = List.replicate n 0 := by
  rw [tab_zero]
  exact tab_congr fun j hj => by unfold fjX; rw [if_neg (by omega)]
theorem fjY_first (p : Int) (f g : List Int) (b : Int) (n : Nat) (hn : 1 ≤ n) : (List.replicate n 0).set 0 b = tab n (fjY p f g b n n) := by
  rw [tab_zero, tab_set]
  apply tab_congr
  intro j hj
  unfold fjY fjE
  by_cases e : j = 0
  · rw [if_pos e, if_pos (.inl e), if_pos e]
  · rw [if_neg e, if_neg (by omega)]
def fjT (p : Int) (f g : List Int) (b : Int) : Bool := decide (2 ≤ f.length ∧ f.length ≤ 13 ∧ g.length + 1 = f.length) && (decide (cf f (f.length - 1) = 1) && decide (cf g (g.length - 1) = 1)) && decide (1 ≤ b ∧ b < p)
def fjC (p : Int) (f g : List Int) (b : Int) : Int := if chk2 p f g = 0 then (if fjT p f g b = true then (if fjB p f g g.length = true then 0 else 5) else 2) else chk2 p f g
def fjP (p : Int) (f g : List Int) (b : Int) : Int := if fjC p f g b = 0 then p else 0
def fjV (p : Int) (f g : List Int) (b : Int) : List Int := if fjC p f g b = 0 then tab g.length (fjA p f g g.length) else []
def fjU (p : Int) (f g : List Int) (b : Int) : List Int := if fjC p f g b = 0 then tab g.length (fjE p f g b g.length) else []
end Go.Proofs.Ytllcgoachgfpjaa
