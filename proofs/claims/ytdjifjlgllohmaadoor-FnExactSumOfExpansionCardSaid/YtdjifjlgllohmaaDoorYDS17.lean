/- Merged texts. -/
import Derived.Test.YtdjifjlgllohmaaDoorYDS16
import Derived.Test.YtdjifjlgllohmaaDoorYDS13
import Derived.Test.YtdjifjlgllohmaaDoorYDS2
/- Mathematics: the polynomials of the recurrence that belongs to moments are orthogonal; Hankel determinants tell their norms. -/
namespace Go.Proofs.YtdjifjlgllohmaaDoor
set_option linter.unusedVariables false
set_option linter.unusedSimpArgs false

/-- The functional at F times x^i, F of less than N numbers. -/
def apF (m F : Nat → Int) (N i : Nat) : Int := sm N (fun t => F t * m (t + i))
theorem apF_ext (m F : Nat → Int) {n N : Nat} (i : Nat) (h : n ≤ N) (hF : ∀ t, n ≤ t → F t = 0) : apF m F N i = apF m F n i :=
  sm_ext _ n N h (fun k hk _ => by rw [hF k hk, Int.zero_mul])
theorem apF_sh (m F : Nat → Int) (N i : Nat) : apF m (shF F) (N + 1) i = apF m F N (i + 1) := by
  unfold apF
  rw [sm_head]
  have : shF F 0 = 0 := rfl
  rw [this, Int.zero_mul, Int.zero_add]
  apply sm_congr
  intro k _
  unfold shF
  rw [if_neg (by omega), Nat.add_sub_cancel]
  congr 2
  omega
theorem sm_swap (n l : Nat) (T : Nat → Nat → Int) : sm n (fun i => sm l (fun j => T i j)) = sm l (fun j => sm n (fun i => T i j)) := by
  induction n with
  | zero => simp only [sm]; exact (sm_nul _ l (fun _ _ => rfl)).symm
  | succ n ih => simp only [sm]; rw [ih, ← sm_add]
section
variable (m A B : Nat → Int)
/-- P(k) and what the functional makes of it. -/
def oQ (k : Nat) : Nat → Int := (qJ A B k).2
def oA (k i : Nat) : Int := apF m (oQ A B k) (k + 1) i
/-- The norm of P(k), and the functional at x P(k) P(k). -/
def oH (k : Nat) : Int := sm (k + 1) (fun i => oQ A B k i * oA m A B k i)
def oX (k : Nat) : Int := sm (k + 1) (fun i => oQ A B k i * oA m A B k (i + 1))
/-- The number of P(k) at k - 1. -/
def oS (k : Nat) : Int := if k = 0 then 0 else oQ A B k (k - 1)
theorem oQ_top (k : Nat) : oQ A B k k = 1 := (qJ_top A B k).1
theorem oQ_far (k j : Nat) (h : k < j) : oQ A B k j = 0 := (qJ_top A B k).2.1 j h
theorem oA_ext (k N i : Nat) (h : k + 1 ≤ N) : apF m (oQ A B k) N i = oA m A B k i := apF_ext m _ i h (fun t ht => oQ_far A B k t (by omega))
theorem oA_next (k i : Nat) : oA m A B (k + 1) i = oA m A B k (i + 1) - A k * oA m A B k i - (if k = 0 then 0 else B k * oA m A B (k - 1) i) := by
  have e : ∀ t, oQ A B (k + 1) t = shF (oQ A B k) t - A k * oQ A B k t - B k * (qJ A B k).1 t := fun t => rfl
  have e2 : oA m A B (k + 1) i = apF m (shF (oQ A B k)) (k + 1 + 1) i - A k * apF m (oQ A B k) (k + 1 + 1) i - B k * apF m (qJ A B k).1 (k + 1 + 1) i := by
    unfold oA apF
    have : ∀ t, oQ A B (k + 1) t * m (t + i) = (shF (oQ A B k) t * m (t + i) + -(A k) * (oQ A B k t * m (t + i))) + -(B k) * ((qJ A B k).1 t * m (t + i)) := fun t => by rw [e]; grind
    rw [sm_congr (fun t _ => this t), sm_add, sm_add, sm_mul, sm_mul]
    grind
  rw [e2, apF_sh, oA_ext m A B k (k + 1 + 1) i (by omega)]
  have e3 : apF m (oQ A B k) (k + 1) (i + 1) = oA m A B k (i + 1) := rfl
  rw [e3]
  cases k with
  | zero =>
    have : apF m (qJ A B 0).1 (0 + 1 + 1) i = 0 := sm_nul _ _ (fun t _ => by show (0 : Int) * _ = 0; rw [Int.zero_mul])
    rw [this]; simp
  | succ k =>
    have : (qJ A B (k + 1)).1 = oQ A B k := rfl
    rw [this, oA_ext m A B k _ i (by omega)]
    simp
theorem oS_next (k : Nat) : oS A B (k + 1) = oS A B k - A k := by
  have e : oQ A B (k + 1) k = shF (oQ A B k) k - A k * oQ A B k k - B k * (qJ A B k).1 k := rfl
  have e1 : (qJ A B k).1 k = 0 := (qJ_top A B k).2.2 k (Nat.le_refl _)
  unfold oS
  rw [if_neg (by omega), Nat.add_sub_cancel, e, e1, oQ_top]
  cases k with
  | zero => simp [shF]
  | succ k => simp [shF]
variable {m A B}
variable {p : Int}
/-- Whether P(0) to P(k - 1) are orthogonal to what is smaller. -/
def OrT (p : Int) (m A B : Nat → Int) (k : Nat) : Prop := ∀ i, i < k → p ∣ oA m A B k i
theorem oH_eq {k : Nat} (h : OrT p m A B k) : p ∣ oH m A B k - oA m A B k k := by
  unfold oH
  show p ∣ sm k (fun i => oQ A B k i * oA m A B k i) + oQ A B k k * oA m A B k k - oA m A B k k
  rw [oQ_top, Int.one_mul]
  have : p ∣ sm k (fun i => oQ A B k i * oA m A B k i) := by
    have h2 : p ∣ sm k (fun i => oQ A B k i * oA m A B k i) - sm k (fun _ => 0) := xv_sm fun i hi => by
      rw [Int.sub_zero]; exact Int.dvd_mul_of_dvd_right (h i hi)
    rwa [sm_nul (fun _ => 0) k (fun _ _ => rfl), Int.sub_zero] at h2
  rw [Int.add_sub_cancel]; exact this
theorem oX_eq {k : Nat} (h : OrT p m A B k) : p ∣ oX m A B k - (oS A B k * oA m A B k k + oA m A B k (k + 1)) := by
  unfold oX
  show p ∣ sm k (fun i => oQ A B k i * oA m A B k (i + 1)) + oQ A B k k * oA m A B k (k + 1) - _
  rw [oQ_top, Int.one_mul]
  have : p ∣ sm k (fun i => oQ A B k i * oA m A B k (i + 1)) - oS A B k * oA m A B k k := by
    cases k with
    | zero => simp [sm, oS]
    | succ k =>
      show p ∣ sm k (fun i => oQ A B (k + 1) i * oA m A B (k + 1) (i + 1)) + oQ A B (k + 1) k * oA m A B (k + 1) (k + 1) - _
      have e : oS A B (k + 1) = oQ A B (k + 1) k := by unfold oS; rw [if_neg (by omega)]; rfl
      rw [e, Int.add_sub_cancel]
      have h2 : p ∣ sm k (fun i => oQ A B (k + 1) i * oA m A B (k + 1) (i + 1)) - sm k (fun _ => 0) := xv_sm fun i hi => by
        rw [Int.sub_zero]; exact Int.dvd_mul_of_dvd_right (h (i + 1) (by omega))
      rwa [sm_nul (fun _ => 0) k (fun _ _ => rfl), Int.sub_zero] at h2
  obtain ⟨x, hx⟩ := this
  exact ⟨x, by grind⟩
/-- The data belong to the moments, up to n. -/
structure Belongs (p : Int) (m A B : Nat → Int) (n : Nat) : Prop where
  alpha : ∀ k, k < n → p ∣ A k * oH m A B k - oX m A B k
  beta : ∀ k, k < n → 0 < k → p ∣ B k * oH m A B (k - 1) - oH m A B k
theorem ort_two {n : Nat} (h : Belongs p m A B n) : ∀ k, k ≤ n → OrT p m A B k ∧ (∀ j, j + 1 = k → p ∣ oA m A B j (j + 1) - (A j - oS A B j) * oA m A B j j) := by
  intro k
  induction k using Nat.strongRecOn with
  | ind k ih =>
    intro hk
    cases k with
    | zero => exact ⟨fun i hi => by omega, fun j hj => by omega⟩
    | succ k =>
      obtain ⟨o1, -⟩ := ih k (by omega) (by omega)
      -- the functional at x^(k+1) P(k)
      have key : p ∣ oA m A B k (k + 1) - (A k - oS A B k) * oA m A B k k := by
        obtain ⟨x, hx⟩ := h.alpha k (by omega)
        obtain ⟨y, hy⟩ := oH_eq o1
        obtain ⟨z, hz⟩ := oX_eq o1
        exact ⟨A k * y - x - z, by grind⟩
      refine ⟨fun i hi => ?_, fun j hj => by have : j = k := by omega
                                             subst this; exact key⟩
      rw [oA_next]
      by_cases h0 : k = 0
      · subst h0
        have : i = 0 := by omega
        subst this
        rw [if_pos rfl, Int.sub_zero]
        have : oS A B 0 = 0 := rfl
        rw [this, Int.sub_zero] at key
        exact key
      rw [if_neg h0]
      obtain ⟨o0, key0⟩ := ih (k - 1) (by omega) (by omega)
      obtain ⟨-, key1⟩ := ih k (by omega) (by omega)
      by_cases h1 : i = k
      · subst h1
        -- B h(k-1) is h(k)
        have kk := key1 (i - 1) (by omega)
        have e1 : i - 1 + 1 = i := by omega
        rw [e1] at kk
        have hs := oS_next A B (i - 1)
        rw [e1] at hs
        obtain ⟨x, hx⟩ := h.beta i (by omega) (by omega)
        obtain ⟨y, hy⟩ := oH_eq o1
        obtain ⟨y0, hy0⟩ := oH_eq o0
        obtain ⟨z, hz⟩ := key
        obtain ⟨u, hu⟩ := kk
        refine ⟨oS A B i * (x + y - B i * y0) + z - B i * u, ?_⟩
        clear ih o1 o0 key0 key1
        grind
      by_cases h2 : i = k - 1
      · subst h2
        have e1 : k - 1 + 1 = k := by omega
        rw [e1]
        obtain ⟨x, hx⟩ := h.beta k (by omega) (by omega)
        obtain ⟨y, hy⟩ := oH_eq o1
        obtain ⟨y0, hy0⟩ := oH_eq o0
        obtain ⟨u, hu⟩ := o1 (k - 1) (by omega)
        exact ⟨-x - y - A k * u + B k * y0, by grind⟩
      · obtain ⟨u, hu⟩ := o1 (i + 1) (by omega)
        obtain ⟨v, hv⟩ := o1 i (by omega)
        obtain ⟨w, hw⟩ := o0 i (by omega)
        exact ⟨u - A k * v - B k * w, by grind⟩
theorem ort {n : Nat} (h : Belongs p m A B n) : OrT p m A B n := (ort_two h n (Nat.le_refl _)).1
theorem Belongs.mono {n k : Nat} (h : Belongs p m A B n) (hk : k ≤ n) : Belongs p m A B k := ⟨fun j hj => h.alpha j (by omega), fun j hj => h.beta j (by omega)⟩
/-- The Hankel matrix of n + 1 rows has a kernel exactly if the norm of P(n) is 0, where the norms ahead of it are not. -/
theorem hank_ker {n : Nat} (hp : primeB p = true) (h : Belongs p m A B n) (hn : ∀ k, k < n → ¬ p ∣ oH m A B k) :
    (∃ v : Nat → Int, (∀ i, i ≤ n → p ∣ sm (n + 1) (fun j => m (i + j) * v j)) ∧ ∃ j, j ≤ n ∧ ¬ p ∣ v j) ↔ p ∣ oH m A B n := by
  have flip : ∀ (v : Nat → Int) i, sm (n + 1) (fun j => m (i + j) * v j) = apF m v (n + 1) i := fun v i => sm_congr fun j _ => by rw [Int.mul_comm, Nat.add_comm]
  constructor
  · rintro ⟨v, hv, j0, hj0, hnz⟩
    -- the last number of v that is not 0
    obtain ⟨d, hd, hdn, hdz⟩ : ∃ d, d ≤ n ∧ ¬ p ∣ v d ∧ ∀ j, d < j → j ≤ n → p ∣ v j := by
      have : ∀ t, t ≤ n → (∀ j, n - t < j → j ≤ n → p ∣ v j) → (∃ d, d ≤ n ∧ ¬ p ∣ v d ∧ ∀ j, d < j → j ≤ n → p ∣ v j) ∨ ∀ j, n - t ≤ j → j ≤ n → p ∣ v j := by
        intro t ht hz
        by_cases e : p ∣ v (n - t)
        · exact .inr fun j h1 h2 => by
            by_cases e2 : j = n - t
            · rw [e2]; exact e
            · exact hz j (by omega) h2
        · exact .inl ⟨n - t, by omega, e, hz⟩
      have all : ∀ t, t ≤ n + 1 → (∃ d, d ≤ n ∧ ¬ p ∣ v d ∧ ∀ j, d < j → j ≤ n → p ∣ v j) ∨ ∀ j, n + 1 - t ≤ j → j ≤ n → p ∣ v j := by
        intro t
        induction t with
        | zero => intro _; exact .inr fun j h1 h2 => by omega
        | succ t ih =>
          intro ht
          rcases ih (by omega) with h' | h'
          · exact .inl h'
          · rcases this t (by omega) (fun j h1 h2 => h' j (by omega) h2) with h'' | h''
            · exact .inl h''
            · exact .inr fun j h1 h2 => h'' j (by omega) h2
      rcases all (n + 1) (Nat.le_refl _) with h' | h'
      · exact h'
      · exact absurd (h' j0 (by omega) hj0) hnz
    have hb := h.mono hd
    have ho := ort hb
    -- the functional at v P(d), in two ways
    have s1 : p ∣ sm (d + 1) (fun i => oQ A B d i * apF m v (n + 1) i) := by
      have h2 : p ∣ sm (d + 1) (fun i => oQ A B d i * apF m v (n + 1) i) - sm (d + 1) (fun _ => 0) := xv_sm fun i hi => by
        rw [Int.sub_zero]
        have := hv i (by omega)
        rw [flip] at this
        exact Int.dvd_mul_of_dvd_right this
      rwa [sm_nul (fun _ => 0) _ (fun _ _ => rfl), Int.sub_zero] at h2
    have s2 : sm (d + 1) (fun i => oQ A B d i * apF m v (n + 1) i) = sm (n + 1) (fun j => v j * oA m A B d j) := by
      have e1 : ∀ i, oQ A B d i * apF m v (n + 1) i = sm (n + 1) (fun j => oQ A B d i * (v j * m (j + i))) := fun i => by rw [sm_mul]; rfl
      rw [sm_congr (fun i _ => e1 i), sm_swap]
      apply sm_congr
      intro j _
      unfold oA apF
      rw [← sm_mul]
      apply sm_congr
      intro i _
      rw [Nat.add_comm j i]
      grind
    rw [s2] at s1
    have s3 : p ∣ sm (n + 1) (fun j => v j * oA m A B d j) - sm (n + 1) (fun j => if j = d then v d * oA m A B d d else 0) := xv_sm fun j hj => by
      by_cases e : j = d
      · subst e; rw [if_pos rfl, Int.sub_self]; exact Int.dvd_zero p
      · rw [if_neg e, Int.sub_zero]
        by_cases e2 : j < d
        · exact Int.dvd_mul_of_dvd_right (ho j e2)
        · exact Int.dvd_mul_of_dvd_left (hdz j (by omega) (by omega))
    rw [sm_one _ d (n + 1) (fun j hj => if_neg hj), if_pos (by omega), if_pos rfl] at s3
    have s4 : p ∣ v d * oA m A B d d := by
      have := Int.dvd_sub s1 s3
      have e5 : ∀ a b : Int, a - (a - b) = b := fun a b => by omega
      rwa [e5] at this
    have s5 : p ∣ oH m A B d := by
      rcases prime_dvO hp s4 with h' | h'
      · exact absurd h' hdn
      · have := Int.dvd_add (oH_eq ho) h'
        have e5 : ∀ a b : Int, a - b + b = a := fun a b => by omega
        rwa [e5] at this
    by_cases e : d = n
    · rw [e] at s5; exact s5
    · exact absurd s5 (hn d (by omega))
  · intro hz
    have ho := ort h
    refine ⟨oQ A B n, fun i hi => ?_, n, Nat.le_refl _, ?_⟩
    · rw [flip]
      show p ∣ oA m A B n i
      by_cases e : i = n
      · subst e
        have := Int.dvd_sub hz (oH_eq ho)
        have e5 : ∀ a b : Int, a - (a - b) = b := fun a b => by omega
        rwa [e5] at this
      · exact ho i (by omega)
    · rw [oQ_top]
      intro h'
      have := Int.le_of_dvd (by omega) h'
      have := (primeB_lo hp).1
      omega
end
end Go.Proofs.YtdjifjlgllohmaaDoor
/- Contracts: l02Numbers, l02Are, AreMoments (program and model). -/
namespace Go.Proofs.YtdjifjlgllohmaaDoor
open Go.RowKit
set_option linter.unusedVariables false
set_option linter.unusedSimpArgs false

def momB (p : Int) (xs : List Int) : Bool := primeB p && decide (1 ≤ xs.length) && decide (xs.length ≤ 24) && areB p xs
theorem momB_rng {p : Int} {xs : List Int} (h : momB p xs = true) : primeB p = true ∧ 1 ≤ xs.length ∧ xs.length ≤ 24 ∧ areB p xs = true := by
  unfold momB at h
  simp only [Bool.and_eq_true, decide_eq_true_eq] at h
  exact ⟨h.1.1.1, h.1.1.2, h.1.2, h.2⟩
set_option maxRecDepth 100000 in
set_option maxHeartbeats 800000 in
theorem l02Numbers_any (p : Int) (a : Option Addr) (n c : Nat) (xs : List Int) (w : World) (hs : SL w a n c xs) (hn : n ≤ 4000000) (hp : -1000000000000 ≤ p) (hp2 : p ≤ 1000000000000) :
    Calls Tryd.prog 68 #[.int .i64 p, .slice a n c] w fun e w' => e = .returned (.bool (areB p xs)) ∧ w = w' := by
  have hl := hide hs.len
  by_cases h0 : n = 0
  · subst h0
    obtain rfl := hs.empty
    go_enter Tryd.func68, Tryd.ntmps68
    go_wp2
    refine wp_loop_rounds 1 ?_
    rw [rounds_succ]
    go_wp2
    go_ret
    exact ⟨rfl, rfl⟩
  obtain ⟨b, off, rfl, hbw, hcell⟩ := hs.at (by omega)
  clear hs
  go_enter Tryd.func68, Tryd.ntmps68
  go_wp2
  go_loop [5] (fun i => ∃ k : Nat, k ≤ n ∧ i = .int .i64 k ∧ Hid (areB p (xs.take k) = true)) (fun i => n - (intOf i).toNat)
  case atStart => exact ⟨0, by omega, rfl, by simp [Hid, areB]⟩
  case round =>
    obtain ⟨k, hk, rfl, hR⟩ := hrel
    by_cases hlt : k < n
    · have e1 := hcell k hlt
      have hsn := Lib.hid (areB_snoc p xs k (by rw [hl.out]; exact hlt))
      obtain ⟨x, hx⟩ : ∃ x, x = xs.getD k 0 := ⟨_, rfl⟩
      rw [← hx] at e1
      have Hx := Lib.hid hx
      clear hx hcell
      by_cases hok : 0 ≤ x ∧ x ≤ p - 1
      · go_wp2_with (go_at_call 77; refine (l01In_yes _ _ _ _ hok.1 hok.2).mono ?_; rintro e w' ⟨rfl, rfl⟩)
        go_round
        case rel => exact ⟨k + 1, by omega, by go_num, hide (by rw [hsn.out, hR.out, ← Hx.out]; simp [okN]; omega)⟩
        case measure => simp [intOf]; omega
      · have hF : Hid (areB p xs = false) := hide (areB_false p xs k (by rw [hl.out]; exact hlt) (by rw [← Hx.out]; simp [okN]; omega))
        go_wp2_with (go_at_call 77; refine (l01In_no _ _ _ _ hok).mono ?_; rintro e w' ⟨rfl, rfl⟩)
        go_ret
        exact ⟨ret_bool hF.out.symm, rfl⟩
    · obtain rfl : k = n := by omega
      have hF : Hid (areB p xs = true) := hide (by have := hR.out; rwa [List.take_of_length_le (by rw [hl.out]; omega)] at this)
      go_wp2
      go_ret
      exact ⟨ret_bool hF.out.symm, rfl⟩
set_option maxRecDepth 100000 in
set_option maxHeartbeats 800000 in
theorem l02Are_any (p : Int) (a : Option Addr) (n c : Nat) (xs : List Int) (w : World) (hs : SL w a n c xs) (hn : n ≤ 4000000) :
    Calls Tryd.prog 55 #[mom p a n c] w fun e w' => e = .returned (.bool (momB p xs)) ∧ Below w.heap.size w w' := by
  have hl := hide hs.len
  have hb0 := bl1 w (.cells #[.int .i64 p, .slice a n c] 30)
  have g1 := hs.below hb0
  cases hp : primeB p
  · have H : Hid (momB p xs = false) := hide (by simp [momB, hp])
    have Hp := hide hp
    clear hp
    go_enter Tryd.func55, Tryd.ntmps55
    go_wp2_with fail
    refine (l01Prime_any _ _).mono ?_
    rintro e w1 ⟨rfl, rfl⟩
    rw [Hp.out]
    go_wp2
    go_ret
    exact ⟨ret_bool H.out.symm, hb0⟩
  · have Hp := hide hp
    obtain ⟨hp1, hp2⟩ := primeB_lo hp
    clear hp
    by_cases h1 : (1 : Int) ≤ (n : Int)
    · by_cases h2 : (n : Int) ≤ 24
      · have H : Hid (momB p xs = areB p xs) := hide (by simp [momB, Hp.out, hl.out]; omega)
        go_enter Tryd.func55, Tryd.ntmps55
        go_wp2_with fail
        refine (l01Prime_any _ _).mono ?_
        rintro e w1 ⟨rfl, rfl⟩
        rw [Hp.out]
        go_wp2_with fail
        refine (l02Numbers_any _ _ _ _ _ _ g1 hn (by omega) (by omega)).mono ?_
        rintro e w1 ⟨rfl, rfl⟩
        go_wp2
        go_ret
        exact ⟨ret_bool H.out.symm, hb0⟩
      · have H : Hid (momB p xs = false) := hide (by simp [momB, hl.out]; omega)
        go_enter Tryd.func55, Tryd.ntmps55
        go_wp2_with fail
        refine (l01Prime_any _ _).mono ?_
        rintro e w1 ⟨rfl, rfl⟩
        rw [Hp.out]
        go_wp2
        go_ret
        exact ⟨ret_bool H.out.symm, hb0⟩
    · have H : Hid (momB p xs = false) := hide (by simp [momB, hl.out]; omega)
      go_enter Tryd.func55, Tryd.ntmps55
      go_wp2_with fail
      refine (l01Prime_any _ _).mono ?_
      rintro e w1 ⟨rfl, rfl⟩
      rw [Hp.out]
      go_wp2
      go_ret
      exact ⟨ret_bool H.out.symm, hb0⟩
set_option maxRecDepth 100000 in
set_option maxHeartbeats 800000 in
theorem areMoments_any (p : Int) (a : Option Addr) (n c : Nat) (xs : List Int) (w : World) (hs : SL w a n c xs) (hn : n ≤ 4000000) :
    Calls Tryd.prog 69 #[mom p a n c] w fun e w' => e = .returned (.bool (momB p xs)) ∧ Below w.heap.size w w' := by
  have hl := hide hs.len
  have hb0 := bl1 w (.cells #[.int .i64 p, .slice a n c] 30)
  have g1 := hs.below hb0
  cases hp : primeB p
  · have H : Hid (momB p xs = false) := hide (by simp [momB, hp])
    have Hp := hide hp
    clear hp
    go_enter Tryd.func69, Tryd.ntmps69
    go_wp2_with fail
    refine (isPrime_any _ _).mono ?_
    rintro e w1 ⟨rfl, rfl⟩
    rw [Hp.out]
    go_wp2
    go_ret
    exact ⟨ret_bool H.out.symm, hb0⟩
  · have Hp := hide hp
    obtain ⟨hp1, hp2⟩ := primeB_lo hp
    clear hp
    by_cases h1 : (n : Int) < 1
    · have H : Hid (momB p xs = false) := hide (by simp [momB, hl.out]; omega)
      go_enter Tryd.func69, Tryd.ntmps69
      go_wp2_with fail
      refine (isPrime_any _ _).mono ?_
      rintro e w1 ⟨rfl, rfl⟩
      rw [Hp.out]
      go_wp2
      go_ret
      exact ⟨ret_bool H.out.symm, hb0⟩
    · by_cases h2 : 24 < (n : Int)
      · have H : Hid (momB p xs = false) := hide (by simp [momB, hl.out]; omega)
        go_enter Tryd.func69, Tryd.ntmps69
        go_wp2_with fail
        refine (isPrime_any _ _).mono ?_
        rintro e w1 ⟨rfl, rfl⟩
        rw [Hp.out]
        go_wp2
        go_ret
        exact ⟨ret_bool H.out.symm, hb0⟩
      · have H : Hid (momB p xs = areB p xs) := hide (by simp [momB, Hp.out, hl.out]; omega)
        go_enter Tryd.func69, Tryd.ntmps69
        go_wp2_with fail
        refine (isPrime_any _ _).mono ?_
        rintro e w1 ⟨rfl, rfl⟩
        rw [Hp.out]
        go_wp2_with fail
        refine (areNumbers_any _ _ _ _ _ _ g1 hn).mono ?_
        rintro e w1 ⟨rfl, rfl⟩
        go_wp2
        go_ret
        exact ⟨ret_bool H.out.symm, hb0⟩
end Go.Proofs.YtdjifjlgllohmaaDoor
