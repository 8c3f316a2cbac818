/- The mathematics of FnPolynomials, and what its walk meets. -/
import Derived.Test.YtjmhkodbkkdfdaaWd
import Derived.Test.YtjmhkodbkkdfdaaPq
import Derived.Test.YtjmhkodbkkdfdaaPd
import Derived.Test.YtjmhkodbkkdfdaaPp
import Derived.Test.YtjmhkodbkkdfdaaDe
import Derived.Test.YtjmhkodbkkdfdaaAp
import Derived.Test.YtjmhkodbkkdfdaaMp
import Derived.Deep.CutBlock
import Derived.Deep.DeepCutAuto
namespace Go.Proofs.Ytjmhkodbkkdfdaa
open Go.RowKit
set_option linter.unusedVariables false
set_option linter.unusedSimpArgs false
theorem chk2_zero {p : Int} {f g : List Int} (h : chk2 p f g = 0) : polyB p f = true ∧ polyB p g = true ∧ primeB p = true := by
  rcases chk2_cases p f g with e | e | ⟨_, h1, h2, h3⟩
  · rw [e] at h; cases h
  · rw [e] at h; cases h
  · exact ⟨h1, h2, h3⟩
theorem chk2_ok {p : Int} {f g : List Int} (h1 : polyB p f = true) (h2 : polyB p g = true) (h3 : primeB p = true) : chk2 p f g = 0 := by simp [chk2, h1, h2, h3]
theorem chk2_ge (p : Int) (f g : List Int) : chk2 p f g = 0 ∨ chk2 p f g = 1 ∨ chk2 p f g = 2 := by
  rcases chk2_cases p f g with e | e | ⟨e, _⟩
  · exact .inr (.inl e)
  · exact .inr (.inr e)
  · exact .inl e
theorem mul_poly {p : Int} {f g : List Int} (hp : primeB p = true) (hf : polyB p f = true) (hg : polyB p g = true) (hl : (mulM p f g).length ≤ 25) : polyB p (mulM p f g) = true := by
  have hpl := primeB_lo hp
  have := polyB_trim (p := p) (xs := mulM p f g) hl (fun j hj => areB_at (mulM_areB hpl.1 f g) j hj)
  rwa [mulM_trim hp hf hg] at this
theorem div_facts {p : Int} {f g : List Int} (h : divC p f g = 0) : mulC p (divV p f g) g = 0 ∧ addC p (mulV p (divV p f g) g) (divU p f g) 1 = 0 ∧ addV p (mulV p (divV p f g) g) (divU p f g) 1 = f ∧ (divU p f g).length < g.length := by
  have h0 := h
  unfold divC at h
  split at h
  · rename_i hc
    obtain ⟨hf, hg, hp⟩ := chk2_zero hc
    have hpl := primeB_lo hp
    split at h
    · cases h
    · rename_i hne
      have hg0 : g.length ≠ 0 := fun e => hne (by rw [List.eq_nil_of_length_eq_zero e]; rfl)
      have hV : divV p f g = quoM p f g := by simp [divV, h0]
      have hU : divU p f g = remM p f g := by simp [divU, h0]
      have hq := quoM_poly hp hf hg hg0
      have hr := remM_poly hp hf hg
      have hml : (mulM p (quoM p f g) g).length ≤ 25 := by
        rw [mulM_mlen]
        unfold mlen
        have hfl := (polyB_rng hf).1
        have hql : (quoM p f g).length = 0 ∨ (quoM p f g).length ≤ f.length - g.length + 1 ∧ g.length ≤ f.length := by
          unfold quoM
          split
          · exact .inl rfl
          · exact .inr ⟨Nat.le_trans (trimL_le _) (by rw [tab_len]; exact Nat.le_refl _), by omega⟩
        split <;> omega
      have hmp := mul_poly hp hq hg hml
      have hmc : mulC p (quoM p f g) g = 0 := by simp [mulC, chk2_ok hq hg hp, hml]
      have hmv : mulV p (quoM p f g) g = mulM p (quoM p f g) g := by simp [mulV, hmc]
      have hac : addC p (mulM p (quoM p f g) g) (remM p f g) 1 = 0 := by
        simp [addC, chk2_ok hmp hr hp]
        omega
      have hav : addV p (mulM p (quoM p f g) g) (remM p f g) 1 = f := by
        simp only [addV, hac, if_true]
        exact div_sum hp hf hg hg0
      rw [hV, hU, hmv]
      exact ⟨hmc, hac, hav, remM_lt hp hf hg hg0⟩
  · rename_i hc; exact absurd h hc
theorem gcd_facts {p : Int} {f g : List Int} (h : gcdC p f g = 0) (hl : (gcdV p f g).length ≠ 0) :
    divC p f (gcdV p f g) = 0 ∧ divU p f (gcdV p f g) = [] ∧ divC p g (gcdV p f g) = 0 ∧ divU p g (gcdV p f g) = [] ∧ (gcdV p f g).getD ((gcdV p f g).length - 1) 0 = 1 := by
  have h0 := h
  obtain ⟨hf, hg, hp⟩ := chk2_zero h
  have hpl := primeB_lo hp
  have hV : gcdV p f g = monM p (gcdL p (g.length + 1) f g) := by simp [gcdV, h0, gcdM]
  rw [hV] at hl ⊢
  have hcp := gcdL_poly hp (g.length + 1) f g hf hg
  obtain ⟨d1, d2⟩ := gcd_dvd hp (g.length + 1) f g (Nat.lt_succ_self _) hf hg
  generalize gcdL p (g.length + 1) f g = c at *
  have hc0 : c.length ≠ 0 := fun e => hl (by rw [List.eq_nil_of_length_eq_zero e]; rfl)
  obtain ⟨t1, t2⟩ := monM_top hp hcp hc0
  have hlast : (monM p c).getD ((monM p c).length - 1) 0 = 1 := by rw [t1]; exact t2
  have hmp : polyB p (monM p c) = true := by
    refine polyB_mk (by rw [t1]; exact (polyB_rng hcp).1) (areB_mk fun j _ => ?_) (.inr (by rw [hlast]; decide))
    have := monM_cf hpl.1 hc0 j
    unfold cf at this
    rw [this]
    exact modb hpl.1
  have e1 := rem_zero hp hf hmp hl (dvd_mon hp hcp hc0 d1)
  have e2 := rem_zero hp hg hmp hl (dvd_mon hp hcp hc0 d2)
  have hne : (monM p c).isEmpty = false := by
    cases h : monM p c with
    | nil => rw [h] at hl; exact absurd rfl hl
    | cons a l => rfl
  have c1 : divC p f (monM p c) = 0 := by simp [divC, chk2_ok hf hmp hp, hne]
  have c2 : divC p g (monM p c) = 0 := by simp [divC, chk2_ok hg hmp hp, hne]
  exact ⟨c1, by simp [divU, c1, e1], c2, by simp [divU, c2, e2], hlast⟩
theorem mul_facts {p : Int} {f g : List Int} (h : mulC p f g = 0) : mulC p g f = 0 ∧ mulV p g f = mulV p f g := by
  have h0 := h
  unfold mulC at h
  split at h
  · rename_i hc
    obtain ⟨hf, hg, hp⟩ := chk2_zero hc
    have hpl := primeB_lo hp
    split at h
    · rename_i hle
      have hcm := mulM_comm hpl.1 f g
      have c2 : mulC p g f = 0 := by simp [mulC, chk2_ok hg hf hp, ← hcm, hle]
      exact ⟨c2, by simp [mulV, c2, h0, hcm]⟩
    · cases h
  · rename_i hc; exact absurd h hc
theorem mulV_len (p : Int) (f g : List Int) : (mulV p f g).length ≤ f.length + g.length := by
  unfold mulV
  split
  · exact mulM_mlen' p f g
  · simp
set_option maxRecDepth 100000 in
theorem specIsPoly (p : Int) (a : Option Addr) (n c : Nat) (xs : List Int) (w : World) (hs : SL w a n c xs) (hn : n ≤ 4000000) :
    Calls Try.prog 33 #[.int .i64 p, .slice a n c] w fun e w' => e = .returned (.bool (polyB p xs)) ∧ w = w' := by
  go_enter Try.func33, Try.ntmps33
  go_wp2_with fail
  refine (l01Poly_any _ _ _ _ _ _ hs hn).mono ?_
  rintro e w' ⟨rfl, rfl⟩
  go_wp2
  go_ret
  exact ⟨rfl, rfl⟩
end Go.Proofs.Ytjmhkodbkkdfdaa
