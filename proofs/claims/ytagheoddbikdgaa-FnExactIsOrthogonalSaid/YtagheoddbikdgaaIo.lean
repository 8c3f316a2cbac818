/- Contracts: checkPolyOfMoments, IsOrthogonal (program and model). -/
import Derived.Test.YtagheoddbikdgaaWp
import Derived.Test.YtagheoddbikdgaaOz
namespace Go.Proofs.Ytagheoddbikdgaa
open Go.RowKit
set_option linter.unusedVariables false
set_option linter.unusedSimpArgs false

theorem ret_b2 {a c : Bool} {b d : Int} (h : a = c) (h' : b = d) : Ending.returned (.tuple #[.bool a, .int .i64 b]) = .returned (.tuple #[.bool c, .int .i64 d]) := by rw [h, h']
def pomC (p : Int) (xs f : List Int) : Int := if momB p xs then (if polyB p f then 0 else 1) else 1
def iorC (p : Int) (xs f : List Int) (k : Int) : Int :=
  if pomC p xs f = 0 then (if 0 ≤ k ∧ k ≤ 12 then (if f.length = 0 ∨ k = 0 then 0 else if (f.length : Int) + k - 1 ≤ xs.length then 0 else 5) else 2) else 1
def iorV (p : Int) (xs f : List Int) (k : Int) : Bool := decide (iorC p xs f k = 0) && (List.range k.toNat).all (fun i => dotK p f xs i f.length == 0)
theorem iorV_bad {p : Int} {xs f : List Int} {k : Int} (h : iorC p xs f k ≠ 0) : iorV p xs f k = false := by simp [iorV, h]
theorem iorV_t {p : Int} {xs f : List Int} {k : Int} (h : iorC p xs f k = 0) (h2 : ∀ i, i < k.toNat → dotK p f xs i f.length = 0) : iorV p xs f k = true := by
  simp only [iorV, h, decide_true, Bool.true_and, List.all_eq_true, List.mem_range, beq_iff_eq]
  exact h2
theorem iorV_f {p : Int} {xs f : List Int} {k : Int} (i : Nat) (hi : i < k.toNat) (h2 : dotK p f xs i f.length ≠ 0) : iorV p xs f k = false := by
  cases e : iorV p xs f k with
  | false => rfl
  | true =>
    unfold iorV at e
    simp only [Bool.and_eq_true, List.all_eq_true, List.mem_range, beq_iff_eq] at e
    exact absurd (e.2 i hi) h2
theorem trimN_nil (xs : List Int) : ∀ k, trimN xs k = 0 ↔ ∀ i, i < k → xs.getD i 0 = 0 := by
  intro k
  induction k with
  | zero => simp [trimN]
  | succ k ih =>
    rw [trimN]
    by_cases h : xs.getD k 0 = 0
    · rw [if_pos h, ih]
      constructor
      · intro h2 i hi
        by_cases e : i = k
        · rw [e]; exact h
        · exact h2 i (by omega)
      · intro h2 i hi
        exact h2 i (by omega)
    · rw [if_neg h]
      constructor
      · intro h2; omega
      · intro h2; exact absurd (h2 k (by omega)) h
theorem pomC_cases (p : Int) (xs f : List Int) : pomC p xs f = 1 ∨ (pomC p xs f = 0 ∧ momB p xs = true ∧ polyB p f = true) := by
  unfold pomC
  cases momB p xs <;> cases polyB p f <;> simp
set_option maxRecDepth 100000 in
set_option maxHeartbeats 1600000 in
theorem checkPolyOfMoments_any (p : Int) (a2 : Option Addr) (n2 c2 : Nat) (xs : List Int) (a1 : Option Addr) (n1 c1 : Nat) (f : List Int) (w : World) (h2 : SL w a2 n2 c2 xs) (h1 : SL w a1 n1 c1 f) (b2 : n2 ≤ 4000000) (b1 : n1 ≤ 4000000) :
    Calls Try.prog 83 #[mom p a2 n2 c2, .slice a1 n1 c1] w fun e w' => e = .returned (.int .i64 (pomC p xs f)) ∧ Below w.heap.size w w' := by
  have hb0 := bl1 w (.cells #[.int .i64 p, .slice a2 n2 c2] 46)
  have g2 := h2.below hb0
  cases hm : momB p xs
  · have HC := hide (show pomC p xs f = 1 by simp [pomC, hm])
    have Hm := hide hm
    clear hm
    go_enter Try.func83, Try.ntmps83
    go_wp2_with fail
    refine (areMoments_any _ _ _ _ _ _ g2 b2).mono ?_
    rintro e w1 ⟨rfl, hb1⟩
    rw [Hm.out]
    go_wp2
    go_ret
    exact ⟨ret_int HC.out.symm, bnext hb0 hb1⟩
  · have Hm := hide hm
    cases hf : polyB p f
    all_goals
      have HC := hide (show pomC p xs f = _ by simp [pomC, hm, hf]; rfl)
      have Hf := hide hf
      clear hm hf
      go_enter Try.func83, Try.ntmps83
      go_wp2_with fail
      refine (areMoments_any _ _ _ _ _ _ g2 b2).mono ?_
      rintro e w1 ⟨rfl, hb1⟩
      rw [Hm.out]
      have f0 : w1.cell? ⟨w.heap.size, 0, none⟩ = some (.int .i64 p) := cell_be hb1 (by simp [go_sem])
      have f1 : w1.cell? ⟨w.heap.size, 1, none⟩ = some (.slice a2 n2 c2) := cell_be hb1 (by simp [go_sem])
      have hB1 := bnext hb0 hb1
      go_wp2_with fail
      refine (isPoly_any _ _ _ _ _ _ ((h1.below hb0).below hb1) b1).mono ?_
      rintro e w2 ⟨rfl, hb2⟩
      replace f1 := cell_be hb2 f1
      have hB2 := bnext hB1 hb2
      rw [Hf.out]
      go_wp2
      go_ret
      exact ⟨ret_int HC.out.symm, hB2⟩
set_option maxRecDepth 100000 in
set_option maxHeartbeats 3200000 in
theorem implIsOrthogonal (p : Int) (a2 : Option Addr) (n2 c2 : Nat) (xs : List Int) (a1 : Option Addr) (n1 c1 : Nat) (f : List Int) (k : Int) (w : World) (h2 : SL w a2 n2 c2 xs) (h1 : SL w a1 n1 c1 f) (b2 : n2 ≤ 4000000) (b1 : n1 ≤ 4000000) :
    Calls Try.prog 36 #[mom p a2 n2 c2, .slice a1 n1 c1, .int .i64 k] w fun e w' => e = .returned (.tuple #[.bool (iorV p xs f k), .int .i64 (iorC p xs f k)]) ∧ Below w.heap.size w w' := by
  have hl1 := hide h1.len
  have hl2 := hide h2.len
  have hb0 := bl1 w (.cells #[.int .i64 p, .slice a2 n2 c2] 46)
  replace h2 := h2.below hb0
  replace h1 := h1.below hb0
  rcases pomC_cases p xs f with hP | ⟨hP, hm, hf⟩
  · have HP := hide hP
    have HC := hide (show iorC p xs f k = 1 by simp [iorC, hP])
    have HV := hide (iorV_bad (p := p) (xs := xs) (f := f) (by rw [HC.out]; decide))
    clear hP
    go_enter Try.func36, Try.ntmps36
    go_wp2_with fail
    refine (checkPolyOfMoments_any _ _ _ _ xs _ _ _ f _ h2 h1 b2 b1).mono ?_
    rintro e w1 ⟨rfl, t1⟩
    rw [HP.out]
    have f0 : w1.cell? ⟨w.heap.size, 0, none⟩ = some (.int .i64 p) := cell_be t1 (by simp [go_sem])
    have f1 : w1.cell? ⟨w.heap.size, 1, none⟩ = some (.slice a2 n2 c2) := cell_be t1 (by simp [go_sem])
    replace h1 := h1.below t1
    replace h2 := h2.below t1
    have B1 := bnext hb0 t1
    have z1 := B1.size
    try simp only [World.size_alloc] at z1
    go_wp2
    go_ret2
    exact ⟨ret_b2 HV.out.symm HC.out.symm, B1⟩
  have HP := hide hP
  have hlf := (polyB_rng hf).1
  rw [hl1.out] at hlf
  obtain ⟨hpr, m1, m2, hx⟩ := momB_rng hm
  obtain ⟨hp, hp2⟩ := primeB_lo hpr
  rw [hl2.out] at m1 m2
  have Hfa := hide (polyB_rng hf).2.1
  have Hx := hide hx
  have hfn : fnC p xs f = 0 ∨ xs.length < f.length := by
    by_cases h : f.length ≤ xs.length
    · exact .inl (by simp [fnC, hm, hf, h])
    · exact .inr (by omega)
  have Hfn := hide hfn
  clear hm hf hx hpr hfn
  by_cases k0 : k < 0
  · have kk : ¬ (0 ≤ k ∧ k ≤ 12) := by omega
    have HC := hide (show iorC p xs f k = 2 by simp only [iorC, hP, if_true]; rw [if_neg kk])
    have HV := hide (iorV_bad (p := p) (xs := xs) (f := f) (by rw [HC.out]; decide))
    clear hP kk
    go_enter Try.func36, Try.ntmps36
    go_wp2_with fail
    refine (checkPolyOfMoments_any _ _ _ _ xs _ _ _ f _ h2 h1 b2 b1).mono ?_
    rintro e w1 ⟨rfl, t1⟩
    rw [HP.out]
    have f0 : w1.cell? ⟨w.heap.size, 0, none⟩ = some (.int .i64 p) := cell_be t1 (by simp [go_sem])
    have f1 : w1.cell? ⟨w.heap.size, 1, none⟩ = some (.slice a2 n2 c2) := cell_be t1 (by simp [go_sem])
    replace h1 := h1.below t1
    replace h2 := h2.below t1
    have B1 := bnext hb0 t1
    have z1 := B1.size
    try simp only [World.size_alloc] at z1
    go_wp2
    go_ret2
    exact ⟨ret_b2 HV.out.symm HC.out.symm, B1⟩
  by_cases k1 : 12 < k
  · have kk : ¬ (0 ≤ k ∧ k ≤ 12) := by omega
    have HC := hide (show iorC p xs f k = 2 by simp only [iorC, hP, if_true]; rw [if_neg kk])
    have HV := hide (iorV_bad (p := p) (xs := xs) (f := f) (by rw [HC.out]; decide))
    clear hP kk
    go_enter Try.func36, Try.ntmps36
    go_wp2_with fail
    refine (checkPolyOfMoments_any _ _ _ _ xs _ _ _ f _ h2 h1 b2 b1).mono ?_
    rintro e w1 ⟨rfl, t1⟩
    rw [HP.out]
    have f0 : w1.cell? ⟨w.heap.size, 0, none⟩ = some (.int .i64 p) := cell_be t1 (by simp [go_sem])
    have f1 : w1.cell? ⟨w.heap.size, 1, none⟩ = some (.slice a2 n2 c2) := cell_be t1 (by simp [go_sem])
    replace h1 := h1.below t1
    replace h2 := h2.below t1
    have B1 := bnext hb0 t1
    have z1 := B1.size
    try simp only [World.size_alloc] at z1
    go_wp2
    go_ret2
    exact ⟨ret_b2 HV.out.symm HC.out.symm, B1⟩
  have kk : 0 ≤ k ∧ k ≤ 12 := by omega
  obtain ⟨K, rfl⟩ : ∃ K : Nat, k = K := ⟨k.toNat, by omega⟩
  by_cases n0 : n1 = 0
  · subst n0
    have HC := hide (show iorC p xs f K = 0 by simp only [iorC, hP, if_true]; rw [if_pos kk, if_pos (.inl hl1.out)])
    have hfe := h1.empty
    have HV := hide (iorV_t (p := p) (xs := xs) (f := f) (k := K) HC.out (fun i _ => by rw [hfe]; rfl))
    clear hP kk hfe
    go_enter Try.func36, Try.ntmps36
    go_wp2_with fail
    refine (checkPolyOfMoments_any _ _ _ _ xs _ _ _ f _ h2 h1 b2 b1).mono ?_
    rintro e w1 ⟨rfl, t1⟩
    rw [HP.out]
    have f0 : w1.cell? ⟨w.heap.size, 0, none⟩ = some (.int .i64 p) := cell_be t1 (by simp [go_sem])
    have f1 : w1.cell? ⟨w.heap.size, 1, none⟩ = some (.slice a2 n2 c2) := cell_be t1 (by simp [go_sem])
    replace h1 := h1.below t1
    replace h2 := h2.below t1
    have B1 := bnext hb0 t1
    have z1 := B1.size
    try simp only [World.size_alloc] at z1
    go_wp2
    all_goals go_ret2
    all_goals exact ⟨ret_b2 HV.out.symm HC.out.symm, B1⟩
  have n0' : ((n1 : Int) == 0) = false := by simp; omega
  by_cases K0 : K = 0
  · subst K0
    have HC := hide (show iorC p xs f ((0 : Nat) : Int) = 0 by simp only [iorC, hP, if_true]; rw [if_pos kk, if_pos (.inr rfl)])
    have HV := hide (iorV_t (p := p) (xs := xs) (f := f) (k := ((0 : Nat) : Int)) HC.out (fun i hi => by simp at hi))
    have n1' : (0 : Int) < (n1 : Int) := by omega
    clear hP kk n0
    go_enter Try.func36, Try.ntmps36
    go_wp2_with fail
    refine (checkPolyOfMoments_any _ _ _ _ xs _ _ _ f _ h2 h1 b2 b1).mono ?_
    rintro e w1 ⟨rfl, t1⟩
    rw [HP.out]
    have f0 : w1.cell? ⟨w.heap.size, 0, none⟩ = some (.int .i64 p) := cell_be t1 (by simp [go_sem])
    have f1 : w1.cell? ⟨w.heap.size, 1, none⟩ = some (.slice a2 n2 c2) := cell_be t1 (by simp [go_sem])
    replace h1 := h1.below t1
    replace h2 := h2.below t1
    have B1 := bnext hb0 t1
    have z1 := B1.size
    try simp only [World.size_alloc] at z1
    go_wp2
    go_ret2
    exact ⟨ret_b2 HV.out.symm HC.out.symm, B1⟩
  have n1' : (0 : Int) < (n1 : Int) := by omega
  have K1' : (0 : Int) < (K : Int) := by omega
  have K0' : ((K : Int) == 0) = false := by simp; omega
  have nn : ¬ (f.length = 0 ∨ (K : Int) = 0) := by rw [hl1.out]; omega
  by_cases hs : (n2 : Int) < (n1 : Int) + K - 1
  · have v1 : IntKind.i64.wrap ((n1 : Int) - 1 + K) = (n1 : Int) - 1 + K := IntWalk.i64_in _ (by omega)
    have v2 : IntKind.i64.wrap ((n1 : Int) - 1 + K - 1) = (n1 : Int) - 1 + K - 1 := IntWalk.i64_in _ (by omega)
    have q1 : (n2 : Int) ≤ (n1 : Int) - 1 + K - 1 := by omega
    have HC := hide (show iorC p xs f K = 5 by simp only [iorC, hP, if_true]; rw [if_pos kk, if_neg nn, if_neg (by rw [hl1.out, hl2.out]; omega)])
    have HV := hide (iorV_bad (p := p) (xs := xs) (f := f) (by rw [HC.out]; decide))
    clear hP kk nn
    go_enter Try.func36, Try.ntmps36
    go_wp2_with fail
    refine (checkPolyOfMoments_any _ _ _ _ xs _ _ _ f _ h2 h1 b2 b1).mono ?_
    rintro e w1 ⟨rfl, t1⟩
    rw [HP.out]
    have f0 : w1.cell? ⟨w.heap.size, 0, none⟩ = some (.int .i64 p) := cell_be t1 (by simp [go_sem])
    have f1 : w1.cell? ⟨w.heap.size, 1, none⟩ = some (.slice a2 n2 c2) := cell_be t1 (by simp [go_sem])
    replace h1 := h1.below t1
    replace h2 := h2.below t1
    have B1 := bnext hb0 t1
    have z1 := B1.size
    try simp only [World.size_alloc] at z1
    have hbd := (Below.refl w1.heap.size w1).drew
    have F : ∀ w', Below w1.heap.size w1 w' → w'.cell? ⟨w.heap.size, 1, none⟩ = some (.slice a2 n2 c2) := fun w' h => cell_be h f1
    go_upto_region 8 with fail
    go_region_held3 (fun w' => w'.cell? ⟨w.heap.size, 1, none⟩ = some (.slice a2 n2 c2))
      (exact F _ (by assumption))
      (first | (go_at_call 84; refine (degree_any _ _ _ _ b1).mono ?_; rintro e w' ⟨rfl, rfl⟩))
    clear F
    replace f0 := cell_be hbd f0
    replace f1 := cell_be hbd f1
    replace h1 := h1.below hbd
    replace h2 := h2.below hbd
    have B2 := bnext B1 hbd
    have z2 := B2.size
    try simp only [World.size_alloc] at z2
    go_wp2
    go_ret2
    exact ⟨ret_b2 HV.out.symm HC.out.symm, B2⟩
  have HC := hide (show iorC p xs f K = 0 by simp only [iorC, hP, if_true]; rw [if_pos kk, if_neg nn, if_pos (by rw [hl1.out, hl2.out]; omega)])
  have hfn : fnC p xs f = 0 := by
    rcases Hfn.out with h | h
    · exact h
    · rw [hl1.out, hl2.out] at h; omega
  obtain ⟨N, hN⟩ : ∃ N, N = n2 + 1 - max n1 1 := ⟨_, rfl⟩
  have HPC := hide (show prmC p xs f = 0 from hfn)
  have HPV := hide (show prmV p xs f = prodM p f xs N by simp [prmV, hfn, hl1.out, hl2.out, hN])
  have HPP := hide (show prmP p xs f = p by simp [prmP, hfn])
  have hKN : K ≤ N := by rw [hN]; omega
  have hN2 : N ≤ 1000 := by rw [hN]; omega
  have hpl := hide (show (prodM p f xs N).length = N from tab_len _ _)
  have key : Hid ((((trimN ((prodM p f xs N).take K) K : Nat) : Int) == 0) = iorV p xs f K) := hide (by
    have hd : ∀ i, i < K → ((prodM p f xs N).take K).getD i 0 = dotK p f xs i f.length := fun i hi => by rw [getD_take _ _ _ hi]; exact tab_at _ _ _ (by omega)
    by_cases hz : trimN ((prodM p f xs N).take K) K = 0
    · rw [iorV_t HC.out (fun i hi => by rw [← hd i (by simpa using hi)]; exact (trimN_nil _ _).1 hz i (by simpa using hi))]; simp [hz]
    · have : ¬ ∀ i, i < K → ((prodM p f xs N).take K).getD i 0 = 0 := fun h => hz ((trimN_nil _ _).2 h)
      obtain ⟨i, hn⟩ := Classical.not_forall.1 this
      obtain ⟨hi, hne⟩ := Classical.not_imp.1 hn
      rw [hd i hi] at hne
      rw [iorV_f i (by simpa using hi) hne]; simp; omega)
  clear hfn hN hP kk nn
  have v1 : IntKind.i64.wrap ((n1 : Int) - 1 + K) = (n1 : Int) - 1 + K := IntWalk.i64_in _ (by omega)
  have v2 : IntKind.i64.wrap ((n1 : Int) - 1 + K - 1) = (n1 : Int) - 1 + K - 1 := IntWalk.i64_in _ (by omega)
  have q1 : ¬ (n2 : Int) ≤ (n1 : Int) - 1 + K - 1 := by omega
  go_enter Try.func36, Try.ntmps36
  go_wp2_with fail
  refine (checkPolyOfMoments_any _ _ _ _ xs _ _ _ f _ h2 h1 b2 b1).mono ?_
  rintro e w1 ⟨rfl, t1⟩
  rw [HP.out]
  have f0 : w1.cell? ⟨w.heap.size, 0, none⟩ = some (.int .i64 p) := cell_be t1 (by simp [go_sem])
  have f1 : w1.cell? ⟨w.heap.size, 1, none⟩ = some (.slice a2 n2 c2) := cell_be t1 (by simp [go_sem])
  replace h1 := h1.below t1
  replace h2 := h2.below t1
  have B1 := bnext hb0 t1
  have z1 := B1.size
  try simp only [World.size_alloc] at z1
  have hbd := (Below.refl w1.heap.size w1).drew
  have F : ∀ w', Below w1.heap.size w1 w' → w'.cell? ⟨w.heap.size, 1, none⟩ = some (.slice a2 n2 c2) := fun w' h => cell_be h f1
  go_upto_region 8 with fail
  go_region_held3 (fun w' => w'.cell? ⟨w.heap.size, 1, none⟩ = some (.slice a2 n2 c2))
    (exact F _ (by assumption))
    (first | (go_at_call 84; refine (degree_any _ _ _ _ b1).mono ?_; rintro e w' ⟨rfl, rfl⟩))
  clear F
  replace f0 := cell_be hbd f0
  replace f1 := cell_be hbd f1
  replace h1 := h1.below hbd
  replace h2 := h2.below hbd
  have B2 := bnext B1 hbd
  have z2 := B2.size
  try simp only [World.size_alloc] at z2
  clear v1 v2 q1
  go_wp2_with fail
  refine (implProductMoments p _ _ _ xs _ _ _ f _ h2 h1 (by omega) (by omega)).mono ?_
  rintro e w3 ⟨ra, rc, rfl, ro, rl, t3⟩
  replace f0 := cell_be t3 f0
  replace f1 := cell_be t3 f1
  replace h1 := h1.below t3
  replace h2 := h2.below t3
  have B3 := bnext B2 t3
  have z3 := B3.size
  try simp only [World.size_alloc] at z3
  rw [HPV.out] at ro rl ⊢
  rw [HPP.out, HPC.out]
  rw [hpl.out] at ro rl ⊢
  have rs := ro.sl
  obtain ⟨rb, rofs, rfl, _, _⟩ := rs.at (by omega)
  have rs2 := (rs.take hKN).below (bl1 w3 (.cells #[.int .i64 p, .slice (some ⟨rb, rofs, none⟩) N rc] 46))
  have hcap := rs.le
  have q2 : (K : Int) ≤ (rc : Int) := by omega
  have q3 : (0 : Int) ≤ (K : Int) := by omega
  go_wp2_with fail
  refine (trim_any _ _ _ _ _ rs2 (by omega)).mono ?_
  rintro e wt ⟨rfl, tt⟩
  have hBt := (B3.trans ((bl1 _ _).mono (by omega))).trans (tt.mono (by simp; omega))
  obtain ⟨T, hT⟩ : ∃ T, trimN ((prodM p f xs N).take K) K = T := ⟨_, rfl⟩
  rw [hT]
  rw [hT] at key
  clear hT
  go_wp2
  go_ret2
  exact ⟨ret_b2 key.out HC.out.symm, hBt⟩
set_option maxRecDepth 100000 in
set_option maxHeartbeats 3200000 in
theorem specIsOrthogonal (p : Int) (a2 : Option Addr) (n2 c2 : Nat) (xs : List Int) (a1 : Option Addr) (n1 c1 : Nat) (f : List Int) (k : Int) (w : World) (h2 : SL w a2 n2 c2 xs) (h1 : SL w a1 n1 c1 f) (b2 : n2 ≤ 4000000) (b1 : n1 ≤ 4000000) :
    Calls Try.prog 34 #[mom p a2 n2 c2, .slice a1 n1 c1, .int .i64 k] w fun e w' => e = .returned (.tuple #[.bool (iorV p xs f k), .int .i64 (iorC p xs f k)]) ∧ Below w.heap.size w w' := by
  have hl1 := hide h1.len
  have hl2 := hide h2.len
  have hb0 := bl1 w (.cells #[.int .i64 p, .slice a2 n2 c2] 46)
  replace h2 := h2.below hb0
  replace h1 := h1.below hb0
  cases hm : momB p xs
  · have Hm := hide hm
    have hP : pomC p xs f = 1 := by simp [pomC, hm]
    have HC := hide (show iorC p xs f k = 1 by simp [iorC, hP])
    have HV := hide (iorV_bad (p := p) (xs := xs) (f := f) (by rw [HC.out]; decide))
    clear hP hm
    go_enter Try.func34, Try.ntmps34
    go_wp2_with fail
    refine (l02Are_any _ _ _ _ _ _ h2 b2).mono ?_
    rintro e w1 ⟨rfl, t1⟩
    rw [Hm.out]
    have f0 : w1.cell? ⟨w.heap.size, 0, none⟩ = some (.int .i64 p) := cell_be t1 (by simp [go_sem])
    have f1 : w1.cell? ⟨w.heap.size, 1, none⟩ = some (.slice a2 n2 c2) := cell_be t1 (by simp [go_sem])
    replace h1 := h1.below t1
    replace h2 := h2.below t1
    have B1 := bnext hb0 t1
    have z1 := B1.size
    try simp only [World.size_alloc] at z1
    go_wp2
    go_ret2
    exact ⟨ret_b2 HV.out.symm HC.out.symm, B1⟩
  have Hm := hide hm
  cases hf : polyB p f
  · have Hf := hide hf
    have hP : pomC p xs f = 1 := by simp [pomC, hf]
    have HC := hide (show iorC p xs f k = 1 by simp [iorC, hP])
    have HV := hide (iorV_bad (p := p) (xs := xs) (f := f) (by rw [HC.out]; decide))
    clear hP hm hf
    go_enter Try.func34, Try.ntmps34
    go_wp2_with fail
    refine (l02Are_any _ _ _ _ _ _ h2 b2).mono ?_
    rintro e w1 ⟨rfl, t1⟩
    rw [Hm.out]
    have f0 : w1.cell? ⟨w.heap.size, 0, none⟩ = some (.int .i64 p) := cell_be t1 (by simp [go_sem])
    have f1 : w1.cell? ⟨w.heap.size, 1, none⟩ = some (.slice a2 n2 c2) := cell_be t1 (by simp [go_sem])
    replace h1 := h1.below t1
    replace h2 := h2.below t1
    have B1 := bnext hb0 t1
    have z1 := B1.size
    try simp only [World.size_alloc] at z1
    go_wp2_with fail
    refine (l01Poly_any _ _ _ _ _ _ h1 b1).mono ?_
    rintro e v2 ⟨rfl, rfl⟩
    rw [Hf.out]
    go_wp2
    go_ret2
    exact ⟨ret_b2 HV.out.symm HC.out.symm, B1⟩
  have Hf := hide hf
  have hP : pomC p xs f = 0 := by simp [pomC, hm, hf]
  have HP := hide hP
  have hlf := (polyB_rng hf).1
  rw [hl1.out] at hlf
  obtain ⟨hpr, m1, m2, hx⟩ := momB_rng hm
  obtain ⟨hp, hp2⟩ := primeB_lo hpr
  rw [hl2.out] at m1 m2
  have Hfa := hide (polyB_rng hf).2.1
  have Hx := hide hx
  have hfn : fnC p xs f = 0 ∨ xs.length < f.length := by
    by_cases h : f.length ≤ xs.length
    · exact .inl (by simp [fnC, hm, hf, h])
    · exact .inr (by omega)
  have Hfn := hide hfn
  clear hm hf hx hpr hfn
  by_cases k0 : k < 0
  · have kk : ¬ (0 ≤ k ∧ k ≤ 12) := by omega
    have HC := hide (show iorC p xs f k = 2 by simp only [iorC, hP, if_true]; rw [if_neg kk])
    have HV := hide (iorV_bad (p := p) (xs := xs) (f := f) (by rw [HC.out]; decide))
    clear hP kk
    go_enter Try.func34, Try.ntmps34
    go_wp2_with fail
    refine (l02Are_any _ _ _ _ _ _ h2 b2).mono ?_
    rintro e w1 ⟨rfl, t1⟩
    rw [Hm.out]
    have f0 : w1.cell? ⟨w.heap.size, 0, none⟩ = some (.int .i64 p) := cell_be t1 (by simp [go_sem])
    have f1 : w1.cell? ⟨w.heap.size, 1, none⟩ = some (.slice a2 n2 c2) := cell_be t1 (by simp [go_sem])
    replace h1 := h1.below t1
    replace h2 := h2.below t1
    have B1 := bnext hb0 t1
    have z1 := B1.size
    try simp only [World.size_alloc] at z1
    go_wp2_with fail
    refine (l01Poly_any _ _ _ _ _ _ h1 b1).mono ?_
    rintro e v2 ⟨rfl, rfl⟩
    rw [Hf.out]
    go_wp2_with fail
    refine (l01In_no _ _ _ _ (by omega)).mono ?_
    rintro e v3 ⟨rfl, rfl⟩
    go_wp2
    go_ret2
    exact ⟨ret_b2 HV.out.symm HC.out.symm, B1⟩
  by_cases k1 : 12 < k
  · have kk : ¬ (0 ≤ k ∧ k ≤ 12) := by omega
    have HC := hide (show iorC p xs f k = 2 by simp only [iorC, hP, if_true]; rw [if_neg kk])
    have HV := hide (iorV_bad (p := p) (xs := xs) (f := f) (by rw [HC.out]; decide))
    clear hP kk
    go_enter Try.func34, Try.ntmps34
    go_wp2_with fail
    refine (l02Are_any _ _ _ _ _ _ h2 b2).mono ?_
    rintro e w1 ⟨rfl, t1⟩
    rw [Hm.out]
    have f0 : w1.cell? ⟨w.heap.size, 0, none⟩ = some (.int .i64 p) := cell_be t1 (by simp [go_sem])
    have f1 : w1.cell? ⟨w.heap.size, 1, none⟩ = some (.slice a2 n2 c2) := cell_be t1 (by simp [go_sem])
    replace h1 := h1.below t1
    replace h2 := h2.below t1
    have B1 := bnext hb0 t1
    have z1 := B1.size
    try simp only [World.size_alloc] at z1
    go_wp2_with fail
    refine (l01Poly_any _ _ _ _ _ _ h1 b1).mono ?_
    rintro e v2 ⟨rfl, rfl⟩
    rw [Hf.out]
    go_wp2_with fail
    refine (l01In_no _ _ _ _ (by omega)).mono ?_
    rintro e v3 ⟨rfl, rfl⟩
    go_wp2
    go_ret2
    exact ⟨ret_b2 HV.out.symm HC.out.symm, B1⟩
  have kk : 0 ≤ k ∧ k ≤ 12 := by omega
  obtain ⟨K, rfl⟩ : ∃ K : Nat, k = K := ⟨k.toNat, by omega⟩
  by_cases n0 : n1 = 0
  · subst n0
    have HC := hide (show iorC p xs f K = 0 by simp only [iorC, hP, if_true]; rw [if_pos kk, if_pos (.inl hl1.out)])
    have hfe := h1.empty
    have HV := hide (iorV_t (p := p) (xs := xs) (f := f) (k := K) HC.out (fun i _ => by rw [hfe]; rfl))
    clear hP kk hfe
    go_enter Try.func34, Try.ntmps34
    go_wp2_with fail
    refine (l02Are_any _ _ _ _ _ _ h2 b2).mono ?_
    rintro e w1 ⟨rfl, t1⟩
    rw [Hm.out]
    have f0 : w1.cell? ⟨w.heap.size, 0, none⟩ = some (.int .i64 p) := cell_be t1 (by simp [go_sem])
    have f1 : w1.cell? ⟨w.heap.size, 1, none⟩ = some (.slice a2 n2 c2) := cell_be t1 (by simp [go_sem])
    replace h1 := h1.below t1
    replace h2 := h2.below t1
    have B1 := bnext hb0 t1
    have z1 := B1.size
    try simp only [World.size_alloc] at z1
    go_wp2_with fail
    refine (l01Poly_any _ _ _ _ _ _ h1 b1).mono ?_
    rintro e v2 ⟨rfl, rfl⟩
    rw [Hf.out]
    go_wp2_with fail
    refine (l01In_yes _ _ _ _ (by omega) (by omega)).mono ?_
    rintro e v3 ⟨rfl, rfl⟩
    go_wp2
    refine wp_loop_rounds 1 ?_
    rw [rounds_succ]
    go_wp2
    all_goals go_ret2
    all_goals exact ⟨ret_b2 HV.out.symm HC.out.symm, B1⟩
  have n0' : ((n1 : Int) == 0) = false := by simp; omega
  by_cases K0 : K = 0
  · subst K0
    have HC := hide (show iorC p xs f ((0 : Nat) : Int) = 0 by simp only [iorC, hP, if_true]; rw [if_pos kk, if_pos (.inr rfl)])
    have HV := hide (iorV_t (p := p) (xs := xs) (f := f) (k := ((0 : Nat) : Int)) HC.out (fun i hi => by simp at hi))
    have n1' : (0 : Int) < (n1 : Int) := by omega
    clear hP kk n0
    go_enter Try.func34, Try.ntmps34
    go_wp2_with fail
    refine (l02Are_any _ _ _ _ _ _ h2 b2).mono ?_
    rintro e w1 ⟨rfl, t1⟩
    rw [Hm.out]
    have f0 : w1.cell? ⟨w.heap.size, 0, none⟩ = some (.int .i64 p) := cell_be t1 (by simp [go_sem])
    have f1 : w1.cell? ⟨w.heap.size, 1, none⟩ = some (.slice a2 n2 c2) := cell_be t1 (by simp [go_sem])
    replace h1 := h1.below t1
    replace h2 := h2.below t1
    have B1 := bnext hb0 t1
    have z1 := B1.size
    try simp only [World.size_alloc] at z1
    go_wp2_with fail
    refine (l01Poly_any _ _ _ _ _ _ h1 b1).mono ?_
    rintro e v2 ⟨rfl, rfl⟩
    rw [Hf.out]
    go_wp2_with fail
    refine (l01In_yes _ _ _ _ (by omega) (by omega)).mono ?_
    rintro e v3 ⟨rfl, rfl⟩
    go_wp2
    refine wp_loop_rounds 1 ?_
    rw [rounds_succ]
    go_wp2
    go_ret2
    exact ⟨ret_b2 HV.out.symm HC.out.symm, B1⟩
  have n1' : (0 : Int) < (n1 : Int) := by omega
  have K1' : (0 : Int) < (K : Int) := by omega
  have K0' : ((K : Int) == 0) = false := by simp; omega
  have nn : ¬ (f.length = 0 ∨ (K : Int) = 0) := by rw [hl1.out]; omega
  by_cases hs : (n2 : Int) < (n1 : Int) + K - 1
  · have v1 : IntKind.i64.wrap ((n1 : Int) + K) = (n1 : Int) + K := IntWalk.i64_in _ (by omega)
    have v2 : IntKind.i64.wrap ((n1 : Int) + K - 1) = (n1 : Int) + K - 1 := IntWalk.i64_in _ (by omega)
    have q1 : (n2 : Int) ≤ (n1 : Int) - 1 + K - 1 := by omega
    have HC := hide (show iorC p xs f K = 5 by simp only [iorC, hP, if_true]; rw [if_pos kk, if_neg nn, if_neg (by rw [hl1.out, hl2.out]; omega)])
    have HV := hide (iorV_bad (p := p) (xs := xs) (f := f) (by rw [HC.out]; decide))
    clear hP kk nn
    go_enter Try.func34, Try.ntmps34
    go_wp2_with fail
    refine (l02Are_any _ _ _ _ _ _ h2 b2).mono ?_
    rintro e w1 ⟨rfl, t1⟩
    rw [Hm.out]
    have f0 : w1.cell? ⟨w.heap.size, 0, none⟩ = some (.int .i64 p) := cell_be t1 (by simp [go_sem])
    have f1 : w1.cell? ⟨w.heap.size, 1, none⟩ = some (.slice a2 n2 c2) := cell_be t1 (by simp [go_sem])
    replace h1 := h1.below t1
    replace h2 := h2.below t1
    have B1 := bnext hb0 t1
    have z1 := B1.size
    try simp only [World.size_alloc] at z1
    go_wp2_with fail
    refine (l01Poly_any _ _ _ _ _ _ h1 b1).mono ?_
    rintro e v2 ⟨rfl, rfl⟩
    rw [Hf.out]
    go_wp2_with fail
    refine (l01In_yes _ _ _ _ (by omega) (by omega)).mono ?_
    rintro e v3 ⟨rfl, rfl⟩
    go_wp2
    go_ret2
    exact ⟨ret_b2 HV.out.symm HC.out.symm, B1⟩
  have HC := hide (show iorC p xs f K = 0 by simp only [iorC, hP, if_true]; rw [if_pos kk, if_neg nn, if_pos (by rw [hl1.out, hl2.out]; omega)])
  clear hP kk nn
  have v1 : IntKind.i64.wrap ((n1 : Int) + K) = (n1 : Int) + K := IntWalk.i64_in _ (by omega)
  have v2 : IntKind.i64.wrap ((n1 : Int) + K - 1) = (n1 : Int) + K - 1 := IntWalk.i64_in _ (by omega)
  have q1 : ¬ (n2 : Int) < (n1 : Int) + K - 1 := hs
  go_enter Try.func34, Try.ntmps34
  go_wp2_with fail
  refine (l02Are_any _ _ _ _ _ _ h2 b2).mono ?_
  rintro e w1 ⟨rfl, t1⟩
  rw [Hm.out]
  have f0 : w1.cell? ⟨w.heap.size, 0, none⟩ = some (.int .i64 p) := cell_be t1 (by simp [go_sem])
  have f1 : w1.cell? ⟨w.heap.size, 1, none⟩ = some (.slice a2 n2 c2) := cell_be t1 (by simp [go_sem])
  replace h1 := h1.below t1
  replace h2 := h2.below t1
  have B1 := bnext hb0 t1
  have z1 := B1.size
  try simp only [World.size_alloc] at z1
  go_wp2_with fail
  refine (l01Poly_any _ _ _ _ _ _ h1 b1).mono ?_
  rintro e v2 ⟨rfl, rfl⟩
  rw [Hf.out]
  go_wp2_with fail
  refine (l01In_yes _ _ _ _ (by omega) (by omega)).mono ?_
  rintro e v3 ⟨rfl, rfl⟩
  go_wp2
  clear v1 v2 q1
  have hbz := Below.refl w1.heap.size w1
  go_loopw [8] (fun iv wr => ∃ j : Nat, j ≤ K ∧ iv = .int .i64 j ∧ Hid (∀ i, i < j → dotK p f xs i f.length = 0) ∧ Below w1.heap.size w1 wr) (fun iv _ => K - (intOf iv).toNat)
  case atStart => exact ⟨0, by omega, rfl, hide (fun i h => by omega), hbz⟩
  case round =>
    obtain ⟨j, hj, rfl, hR, hbr⟩ := hrel
    clear hbz
    have s2 := h2.below hbr
    have s1 := h1.below hbr
    have g0 := cell_be hbr f0
    have g1 := cell_be hbr f1
    have hB := B1.trans (hbr.mono B1.size)
    by_cases hlt : j < K
    · have hlt' : (j : Int) < (K : Int) := by omega
      have vj : IntKind.i64.wrap ((j : Int) + 1) = (j : Int) + 1 := IntWalk.i64_in _ (by omega)
      obtain ⟨X, hX⟩ : ∃ X, dotK p f xs j f.length = X := ⟨_, rfl⟩
      have HX := hide hX
      clear hX
      by_cases hz : X = 0
      · subst hz
        go_wp2_with fail
        refine (l02Apply_any p _ _ _ xs _ _ _ f j _ _ s2 s1 (by omega) (by omega) rfl (by omega) hp hp2 Hfa.out Hx.out).mono ?_
        rintro e wn ⟨rfl, tn⟩
        rw [HX.out]
        have hbn := hbr.trans (tn.mono hbr.size)
        go_wp2
        go_roundw
        case rel => exact ⟨j + 1, by omega, by go_num, hide (fun i hi => by
          by_cases e : i = j
          · rw [e]; exact HX.out
          · exact hR.out i (by omega)), hbn⟩
        case measure => simp [intOf]; omega
      · have ob : (X != 0) = true := by simpa using hz
        have HV := hide (iorV_f (p := p) (xs := xs) (f := f) (k := (K : Int)) j (by simpa using hlt) (by rw [HX.out]; exact hz))
        clear hz
        go_wp2_with fail
        refine (l02Apply_any p _ _ _ xs _ _ _ f j _ _ s2 s1 (by omega) (by omega) rfl (by omega) hp hp2 Hfa.out Hx.out).mono ?_
        rintro e wn ⟨rfl, tn⟩
        rw [HX.out]
        have hbn := hB.trans (tn.mono hB.size)
        go_wp2
        go_ret2
        exact ⟨ret_b2 HV.out.symm HC.out.symm, hbn⟩
    · have hge : ¬ (j : Int) < (K : Int) := by omega
      have HV := hide (iorV_t (p := p) (xs := xs) (f := f) (k := (K : Int)) HC.out (fun i hi => hR.out i (by simp at hi; omega)))
      go_wp2
      go_ret2
      exact ⟨ret_b2 HV.out.symm HC.out.symm, hB⟩
end Go.Proofs.Ytagheoddbikdgaa
