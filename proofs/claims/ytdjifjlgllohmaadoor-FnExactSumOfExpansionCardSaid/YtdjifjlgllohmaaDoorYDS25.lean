/- Merged texts. -/
import Derived.Test.YtdjifjlgllohmaaDoorYDS24
import Derived.Test.YtdjifjlgllohmaaDoorYDS17
/- Contracts: greatestHankel, HankelDeterminant, OrderOf (program). -/
namespace Go.Proofs.YtdjifjlgllohmaaDoor
open Go.RowKit
set_option linter.unusedVariables false
set_option linter.unusedSimpArgs false

def hkdC (p : Int) (xs : List Int) (k : Int) : Int := if momB p xs then (if 0 ≤ k ∧ 2 * k ≤ (xs.length : Int) + 1 then 0 else 2) else 1
def hkdV (p : Int) (xs : List Int) (k : Int) : Int := if hkdC p xs k = 0 then hkM p xs k.toNat else 0
def ordF (p : Int) (xs : List Int) (G : Nat) : Nat → Nat → Nat
  | 0, n => n
  | f + 1, n => if n < G then (if hkM p xs (n + 1) = 0 then n else ordF p xs G f (n + 1)) else n
def ordM (p : Int) (xs : List Int) : Nat := ordF p xs ((xs.length + 1) / 2) ((xs.length + 1) / 2) 0
def ordC (p : Int) (xs : List Int) : Int := if momB p xs then 0 else 1
def ordV (p : Int) (xs : List Int) : Int := if ordC p xs = 0 then (ordM p xs : Nat) else 0
theorem ordF_out {p : Int} {xs : List Int} {G f n : Nat} (h : ¬ n < G) : ordF p xs G f n = n := by
  cases f with
  | zero => rfl
  | succ f => rw [ordF, if_neg h]
theorem ordF_stop {p : Int} {xs : List Int} {G f n : Nat} (hf : 0 < f) (h : hkM p xs (n + 1) = 0) : ordF p xs G f n = n := by
  obtain ⟨m, rfl⟩ : ∃ m, f = m + 1 := ⟨f - 1, by omega⟩
  rw [ordF]
  by_cases hn : n < G
  · rw [if_pos hn, if_pos h]
  · rw [if_neg hn]
theorem ordF_go {p : Int} {xs : List Int} {G f n : Nat} (hf : 0 < f) (hn : n < G) (h : hkM p xs (n + 1) ≠ 0) : ordF p xs G f n = ordF p xs G (f - 1) (n + 1) := by
  obtain ⟨m, rfl⟩ : ∃ m, f = m + 1 := ⟨f - 1, by omega⟩
  rw [ordF, if_pos hn, if_neg h]
  rfl
theorem ordF_le {p : Int} {xs : List Int} {G : Nat} : ∀ f n, n ≤ G → ordF p xs G f n ≤ G := by
  intro f
  induction f with
  | zero => intro n h; exact h
  | succ f ih =>
    intro n h
    rw [ordF]
    split
    · split
      · exact h
      · exact ih (n + 1) (by omega)
    · exact h
theorem greatestHankel_any (p : Int) (a : Option Addr) (N c : Nat) (G : Nat) (w : World) (hN : N ≤ 1000) (hG : (N + 1) / 2 = G) :
    Calls Tryd.prog 93 #[mom p a N c] w fun e w' => e = .returned (.int .i64 G) ∧ Below w.heap.size w w' := by
  have hb0 := bl1 w (.cells #[.int .i64 p, .slice a N c] 30)
  have v1 : IntKind.i64.wrap ((N : Int) + 1) = (N : Int) + 1 := IntWalk.i64_in _ (by omega)
  have v2 : ((N : Int) + 1) / 2 = (G : Int) := by omega
  clear hG
  go_enter Tryd.func93, Tryd.ntmps93
  go_wp2
  go_ret
  exact ⟨ret_int (by first | exact v2 | rfl), hb0⟩
set_option maxRecDepth 100000 in
set_option maxHeartbeats 1600000 in
theorem implOrderOf (p : Int) (a : Option Addr) (n c : Nat) (xs : List Int) (w : World) (hs : SL w a n c xs) (hn : n ≤ 4000000) :
    Calls Tryd.prog 57 #[mom p a n c] w fun e w' => e = .returned (.tuple #[.int .i64 (ordV p xs), .int .i64 (ordC p xs)]) ∧ Below w.heap.size w w' := by
  have hl := hide hs.len
  have hb0 := bl1 w (.cells #[.int .i64 p, .slice a n c] 30)
  replace hs := hs.below hb0
  cases hm : momB p xs
  · have Hm := hide hm
    have HC := hide (show ordC p xs = 1 by simp [ordC, hm])
    have HV := hide (show ordV p xs = 0 by simp [ordV, HC.out])
    clear hm
    go_enter Tryd.func57, Tryd.ntmps57
    go_wp2_with fail
    refine (areMoments_any _ _ _ _ _ _ hs hn).mono ?_
    rintro e w1 ⟨rfl, t1⟩
    rw [Hm.out]
    have f0 : w1.cell? ⟨w.heap.size, 0, none⟩ = some (.int .i64 p) := cell_be t1 (by simp [go_sem])
    have f1 : w1.cell? ⟨w.heap.size, 1, none⟩ = some (.slice a n c) := cell_be t1 (by simp [go_sem])
    replace hs := hs.below t1
    have B1 := bnext hb0 t1
    have z1 := B1.size
    try simp only [World.size_alloc] at z1
    go_wp2
    go_ret2
    exact ⟨ret_int2 HV.out.symm HC.out.symm, B1⟩
  have Hm := hide hm
  obtain ⟨hpr, m1, m2, hx⟩ := momB_rng hm
  obtain ⟨hp, hp2⟩ := primeB_lo hpr
  rw [hl.out] at m1 m2
  have Hx := hide hx
  obtain ⟨G, hG⟩ : ∃ G, (n + 1) / 2 = G := ⟨_, rfl⟩
  have HG := hide hG
  have HC := hide (show ordC p xs = 0 by simp [ordC, hm])
  have HV := hide (show ordV p xs = (ordF p xs G G 0 : Nat) by simp only [ordV, HC.out, if_true, ordM]; rw [hl.out, hG])
  have hG2 : 2 * G ≤ n + 1 := by omega
  clear hm hG hx hpr
  go_enter Tryd.func57, Tryd.ntmps57
  go_wp2_with fail
  refine (areMoments_any _ _ _ _ _ _ hs hn).mono ?_
  rintro e w1 ⟨rfl, t1⟩
  rw [Hm.out]
  have f0 : w1.cell? ⟨w.heap.size, 0, none⟩ = some (.int .i64 p) := cell_be t1 (by simp [go_sem])
  have f1 : w1.cell? ⟨w.heap.size, 1, none⟩ = some (.slice a n c) := cell_be t1 (by simp [go_sem])
  replace hs := hs.below t1
  have B1 := bnext hb0 t1
  have z1 := B1.size
  try simp only [World.size_alloc] at z1
  have hR0 : Hid (ordF p xs G G 0 = ordF p xs G (G - 0) 0) := hide rfl
  have hbz := Below.refl w1.heap.size w1
  go_wp2_with fail
  go_loopw [4] (fun iv wr => ∃ i : Nat, i ≤ G ∧ iv = .int .i64 i ∧ Hid (ordF p xs G G 0 = ordF p xs G (G - i) i) ∧ Below w1.heap.size w1 wr) (fun iv _ => G - (intOf iv).toNat)
  case atStart => exact ⟨0, by omega, rfl, hR0, hbz⟩
  case round =>
    obtain ⟨i, hi, rfl, hR, hbr⟩ := hrel
    clear hR0 hbz
    have s1 := hs.below hbr
    have g0 := cell_be hbr f0
    have g1 := cell_be hbr f1
    have hB := B1.trans (hbr.mono B1.size)
    have vi : IntKind.i64.wrap ((i : Int) + 1) = (i : Int) + 1 := IntWalk.i64_in _ (by omega)
    have vi2 : IntKind.i64.wrap (((i + 1 : Nat) : Int)) = ((i + 1 : Nat) : Int) := IntWalk.i64_in _ (by omega)
    by_cases hlt : i < G
    · have hlt' : (i : Int) < (G : Int) := by omega
      obtain ⟨X, hX⟩ : ∃ X, hkM p xs (i + 1) = X := ⟨_, rfl⟩
      have HX := hide hX
      clear hX
      by_cases hz : X = 0
      · subst hz
        have hF : Hid (ordF p xs G G 0 = i) := hide (by rw [hR.out]; exact ordF_stop (by omega) HX.out)
        go_wp2_with fail
        refine (greatestHankel_any p _ _ _ G _ (by omega) HG.out).mono ?_
        rintro e wa ⟨rfl, ta⟩
        have g0' := cell_be ta g0
        have g1' := cell_be ta g1
        go_wp2_with fail
        refine (hankel_any p _ _ _ xs (i + 1) _ _ (s1.below ta) (by simp) m1 (by omega) (by omega) hp hp2 Hx.out).mono ?_
        rintro e wb ⟨rfl, tb⟩
        rw [HX.out]
        have hBn := hB.trans ((bnext ta tb).mono hB.size)
        go_wp2
        go_ret2
        exact ⟨ret_int2 (by rw [HV.out, hF.out]) HC.out.symm, hBn⟩
      · have ob : (X != 0) = true := by simpa using hz
        have hF : Hid (ordF p xs G G 0 = ordF p xs G (G - (i + 1)) (i + 1)) := hide (by rw [hR.out, ordF_go (by omega) hlt (by rw [HX.out]; exact hz)]; rfl)
        clear hz
        go_wp2_with fail
        refine (greatestHankel_any p _ _ _ G _ (by omega) HG.out).mono ?_
        rintro e wa ⟨rfl, ta⟩
        have g0' := cell_be ta g0
        have g1' := cell_be ta g1
        go_wp2_with fail
        refine (hankel_any p _ _ _ xs (i + 1) _ _ (s1.below ta) (by simp) m1 (by omega) (by omega) hp hp2 Hx.out).mono ?_
        rintro e wb ⟨rfl, tb⟩
        rw [HX.out]
        have hbn := hbr.trans ((bnext ta tb).mono hbr.size)
        go_wp2
        go_roundw
        case rel => exact ⟨i + 1, by omega, by go_num, hF, hbn⟩
        case measure => simp [intOf]; omega
    · have hge : ¬ (i : Int) < (G : Int) := by omega
      have hF : Hid (ordF p xs G G 0 = i) := hide (by rw [hR.out]; exact ordF_out hlt)
      go_wp2_with fail
      refine (greatestHankel_any p _ _ _ G _ (by omega) HG.out).mono ?_
      rintro e wa ⟨rfl, ta⟩
      have hBn := hB.trans (ta.mono hB.size)
      go_wp2
      go_ret2
      exact ⟨ret_int2 (by rw [HV.out, hF.out]) HC.out.symm, hBn⟩
end Go.Proofs.YtdjifjlgllohmaaDoor
/- Mathematics: the data that moments lead to, number by number; when P(k) is told. -/
namespace Go.Proofs.YtdjifjlgllohmaaDoor
set_option linter.unusedVariables false
set_option linter.unusedSimpArgs false

/-- The functional at f f x^i. -/
def nrI (p : Int) (f xs : List Int) (i : Nat) : Int := dotK p (mulM p f f) xs i (mulM p f f).length
def prB (p : Int) (be : List Int) : Int := be.foldl (fun a b => a * b % p) 1
def nxA (p : Int) (xs f : List Int) : Int := nrI p f xs 1 * invM p (nrI p f xs 0) % p
def nxB (p : Int) (xs be f : List Int) : Int := nrI p f xs 0 * invM p (prB p be) % p
/-- The Jacobi data of k numbers that moments lead to. -/
def jdL (p : Int) (xs : List Int) : Nat → List Int × List Int
  | 0 => ([], [])
  | k + 1 => ((jdL p xs k).1 ++ [nxA p xs (polJ p (jdL p xs k).1 (jdL p xs k).2 k)], (jdL p xs k).2 ++ [nxB p xs (jdL p xs k).2 (polJ p (jdL p xs k).1 (jdL p xs k).2 k)])
/-- P(k), and its norm. -/
def opL (p : Int) (xs : List Int) (k : Nat) : List Int := polJ p (jdL p xs k).1 (jdL p xs k).2 k
def opH (p : Int) (xs : List Int) (k : Nat) : Int := nrI p (opL p xs k) xs 0
def opA (p : Int) (xs : List Int) (k : Nat) : Int := nxA p xs (opL p xs k)
def opB (p : Int) (xs : List Int) (k : Nat) : Int := nxB p xs (jdL p xs k).2 (opL p xs k)
theorem jdL_succ (p : Int) (xs : List Int) (k : Nat) : jdL p xs (k + 1) = ((jdL p xs k).1 ++ [opA p xs k], (jdL p xs k).2 ++ [opB p xs k]) := rfl
theorem jdL_len (p : Int) (xs : List Int) (k : Nat) : (jdL p xs k).1.length = k ∧ (jdL p xs k).2.length = k := by
  induction k with
  | zero => exact ⟨rfl, rfl⟩
  | succ k ih => rw [jdL_succ]; simp [ih.1, ih.2]
theorem getD_app (l : List Int) (x : Int) (i : Nat) : (l ++ [x]).getD i 0 = if i = l.length then x else l.getD i 0 := by
  by_cases h : i = l.length
  · subst h; simp
  · rw [if_neg h]
    by_cases h2 : i < l.length
    · simp [List.getElem?_append_left h2]
    · have : (l ++ [x]).length ≤ i := by simp; omega
      rw [List.getD_eq_getElem?_getD, List.getD_eq_getElem?_getD, List.getElem?_eq_none this, List.getElem?_eq_none (by omega)]
theorem jdL_at (p : Int) (xs : List Int) (i : Nat) : ∀ k, i < k → (jdL p xs k).1.getD i 0 = opA p xs i ∧ (jdL p xs k).2.getD i 0 = opB p xs i := by
  intro k
  induction k with
  | zero => intro h; omega
  | succ k ih =>
    intro h
    rw [jdL_succ, getD_app, getD_app, (jdL_len p xs k).1, (jdL_len p xs k).2]
    by_cases e : i = k
    · rw [if_pos e, if_pos e, e]; exact ⟨rfl, rfl⟩
    · rw [if_neg e, if_neg e]; exact ih (by omega)
theorem qJ_congr {A B A' B' : Nat → Int} : ∀ k, (∀ i, i < k → A i = A' i ∧ B i = B' i) → qJ A B k = qJ A' B' k := by
  intro k
  induction k with
  | zero => intro _; rfl
  | succ k ih =>
    intro h
    have e := ih (fun i hi => h i (by omega))
    unfold qJ
    rw [e, (h k (by omega)).1, (h k (by omega)).2]
theorem rcP_congr {p : Int} {xs ys xs' ys' : List Int} {s : Nat} {c d : List Int} : ∀ k, (∀ i, i < s + k → xs.getD i 0 = xs'.getD i 0 ∧ ys.getD i 0 = ys'.getD i 0) → rcP p xs ys s c d k = rcP p xs' ys' s c d k := by
  intro k
  induction k with
  | zero => intro _; rfl
  | succ k ih =>
    intro h
    rw [rcP_succ, rcP_succ, ih (fun i hi => h i (by omega)), (h (s + k) (by omega)).1, (h (s + k) (by omega)).2]
theorem rcP_jd (p : Int) (xs : List Int) {k K : Nat} (h : k ≤ K) : rcP p (jdL p xs K).1 (jdL p xs K).2 0 [] [1] k = rcP p (jdL p xs k).1 (jdL p xs k).2 0 [] [1] k :=
  rcP_congr k fun i hi => by
    rw [(jdL_at p xs i K (by omega)).1, (jdL_at p xs i K (by omega)).2, (jdL_at p xs i k (by omega)).1, (jdL_at p xs i k (by omega)).2]; exact ⟨rfl, rfl⟩
/-- P(k) does not depend on how many numbers there are, if enough. -/
theorem opL_ext (p : Int) (xs : List Int) {k K : Nat} (h : k ≤ K) : polJ p (jdL p xs K).1 (jdL p xs K).2 k = opL p xs k := by unfold opL polJ; rw [rcP_jd p xs h]
theorem opL_next (p : Int) (xs : List Int) (k : Nat) : opL p xs (k + 1) = stp p (opA p xs k) (opB p xs k) (opL p xs k) (if k = 0 then [] else opL p xs (k - 1)) := by
  have e : opL p xs (k + 1) = (rcP p (jdL p xs (k + 1)).1 (jdL p xs (k + 1)).2 0 [] [1] (k + 1)).2 := rfl
  rw [e, rcP_succ, Nat.zero_add, (jdL_at p xs k (k + 1) (by omega)).1, (jdL_at p xs k (k + 1) (by omega)).2, rcP_jd p xs (by omega : k ≤ k + 1)]
  show stp p _ _ (opL p xs k) (rcP p (jdL p xs k).1 (jdL p xs k).2 0 [] [1] k).1 = _
  cases k with
  | zero => rfl
  | succ k =>
    rw [if_neg (by omega), Nat.add_sub_cancel, rcP_one, rcP_jd p xs (by omega : k ≤ k + 1)]
    rfl
theorem opL_zero (p : Int) (xs : List Int) : opL p xs 0 = [1] := rfl
theorem opL_small {p : Int} (hp : 2 ≤ p) (xs : List Int) (k : Nat) (hk : k ≤ 24) : Small p (k + 1) (opL p xs k) := polJ_small hp _ _ k hk
theorem opL_q {p : Int} (hp : 2 ≤ p) (xs : List Int) (k j : Nat) : p ∣ cf (opL p xs k) j - oQ (opA p xs) (opB p xs) k j := by
  have h := polJ_q hp (jdL p xs k).1 (jdL p xs k).2 k j
  have e : qJ (cf (jdL p xs k).1) (cf (jdL p xs k).2) k = qJ (opA p xs) (opB p xs) k := qJ_congr k fun i hi => jdL_at p xs i k hi
  rw [e] at h
  exact h
theorem opL_len {p : Int} (hp : 2 ≤ p) (xs : List Int) (k : Nat) (hk : k ≤ 24) : (opL p xs k).length = k + 1 ∧ cf (opL p xs k) k = 1 := by
  obtain ⟨h1, h2⟩ := opL_small hp xs k hk
  have ha := (polyB_rng h1).2.1
  have hq := opL_q hp xs k k
  rw [oQ_top] at hq
  have hr := cf_rng hp ha k
  have h3 : cf (opL p xs k) k = 1 := xv_eq hq hr.1 hr.2 (by omega) (by omega)
  refine ⟨?_, h3⟩
  by_cases e : (opL p xs k).length ≤ k
  · rw [cf_far e] at h3; omega
  · omega
theorem dotK_smO (p : Int) (f xs : List Int) (k : Nat) : ∀ n, p ∣ dotK p f xs k n - sm n (fun t => cf f t * cf xs (t + k)) := by
  intro n
  induction n with
  | zero => exact xv_self p 0
  | succ n ih =>
    refine xv_trans (xv_mod p _) ?_
    show p ∣ dotK p f xs k n + f.getD n 0 * xs.getD (n + k) 0 - (sm n (fun t => cf f t * cf xs (t + k)) + f.getD n 0 * xs.getD (n + k) 0)
    exact xv_add ih (xv_self p _)
/-- The functional at a product, as a double sum. -/
theorem bil (m F G : Nat → Int) (N : Nat) (hF : ∀ t, N < t → F t = 0) (hG : ∀ t, N < t → G t = 0) : sm (2 * N + 1) (fun j => cv F G j * m j) = sm (N + 1) (fun a => F a * apF m G (N + 1) a) := by
  have e1 : ∀ j, cv F G j * m j = sm (j + 1) (fun a => F a * G (j - a) * m (a + (j - a))) := fun j => by
    unfold cv
    rw [Int.mul_comm, ← sm_mul]
    apply sm_congr
    intro a ha
    show m j * (F a * G (j - a)) = F a * G (j - a) * m (a + (j - a))
    have : a + (j - a) = j := by omega
    rw [this]; grind
  rw [sm_congr (fun j _ => e1 j), sm_tri (fun a b => F a * G b * m (a + b)) (2 * N)]
  rw [sm_ext _ (N + 1) (2 * N + 1) (by omega) (fun a h1 h2 => sm_nul _ _ fun b _ => by
    show F a * G b * m (a + b) = 0
    rw [hF a (by omega), Int.zero_mul, Int.zero_mul])]
  apply sm_congr
  intro a ha
  rw [sm_ext _ (N + 1) (2 * N - a + 1) (by omega) (fun b h1 h2 => by
    show F a * G b * m (a + b) = 0
    rw [hG b (by omega), Int.mul_zero, Int.zero_mul])]
  unfold apF
  rw [← sm_mul]
  apply sm_congr
  intro b _
  show F a * G b * m (a + b) = _
  rw [Nat.add_comm b a]; grind
theorem sq_len {p : Int} {f : List Int} {k : Nat} (h : f.length = k + 1) : (mulM p f f).length = 2 * k + 1 := by
  rw [mulM_mlen, h]; unfold mlen; simp; omega
theorem nrI_bil {p : Int} (hp : 2 ≤ p) {f : List Int} {k : Nat} (h : f.length = k + 1) (xs : List Int) (i : Nat) (Q : Nat → Int) (hQ : ∀ j, p ∣ cf f j - Q j) (hQ0 : ∀ j, k < j → Q j = 0) :
    p ∣ nrI p f xs i - sm (k + 1) (fun a => Q a * apF (cf xs) Q (k + 1) (a + i)) := by
  unfold nrI
  rw [sq_len h]
  refine xv_trans (dotK_smO p _ xs i _) ?_
  have e : sm (k + 1) (fun a => Q a * apF (cf xs) Q (k + 1) (a + i)) = sm (2 * k + 1) (fun j => cv Q Q j * (fun t => cf xs (t + i)) j) := by
    rw [bil (fun t => cf xs (t + i)) Q Q k hQ0 hQ0]
    apply sm_congr
    intro a _
    congr 1
    unfold apF
    apply sm_congr
    intro t _
    show _ = Q t * cf xs (t + a + i)
    congr 2
    omega
  rw [e]
  refine xv_sm fun j hj => xv_mul ?_ (xv_self p _)
  rw [mulM_cf hp]
  refine xv_trans (xv_mod p _) ?_
  unfold cv
  exact xv_sm fun t _ => xv_mul (hQ t) (hQ (j - t))
theorem opH_eq {p : Int} (hp : 2 ≤ p) (xs : List Int) (k : Nat) (hk : k ≤ 24) : p ∣ opH p xs k - oH (cf xs) (opA p xs) (opB p xs) k ∧ p ∣ nrI p (opL p xs k) xs 1 - oX (cf xs) (opA p xs) (opB p xs) k := by
  have hl := (opL_len hp xs k hk).1
  exact ⟨nrI_bil hp hl xs 0 _ (opL_q hp xs k) (fun j hj => oQ_far _ _ k j hj), nrI_bil hp hl xs 1 _ (opL_q hp xs k) (fun j hj => oQ_far _ _ k j hj)⟩
theorem opH_rng {p : Int} (hp : 2 ≤ p) (xs : List Int) (k : Nat) : 0 ≤ opH p xs k ∧ opH p xs k < p := dotK_rng hp _ _ _ _
/-- The norms ahead of k are not 0. -/
def Told (p : Int) (xs : List Int) (k : Nat) : Prop := ∀ j, j < k → opH p xs j ≠ 0
theorem prB_app (p : Int) (be : List Int) (b : Int) : prB p (be ++ [b]) = prB p be * b % p := by simp [prB]
theorem prB_rng {p : Int} (hp : 2 ≤ p) (be : List Int) : 0 ≤ prB p be ∧ prB p be < p := by
  unfold prB
  have : ∀ (l : List Int) (a : Int), 0 ≤ a → a < p → 0 ≤ l.foldl (fun a b => a * b % p) a ∧ l.foldl (fun a b => a * b % p) a < p := by
    intro l
    induction l with
    | nil => intro a h1 h2; exact ⟨h1, h2⟩
    | cons x l ih => intro a _ _; exact ih _ (modb hp).1 (modb hp).2
  exact this be 1 (by omega) (by omega)
theorem inv_one {p x : Int} (hp : primeB p = true) (h0 : 0 ≤ x) (h1 : x < p) (hx : x ≠ 0) : p ∣ x * invM p x - 1 := by
  have := (primeB_lo hp).1
  exact xv_of (by rw [invM_mul hp (by omega) h1, Int.emod_eq_of_lt (by omega) (by omega)])
/-- The product of the Beta is the norm ahead. -/
theorem prB_norm {p : Int} (hp : primeB p = true) (xs : List Int) : ∀ k, Told p xs (k + 1) → prB p (jdL p xs (k + 1)).2 = opH p xs k := by
  have hp2 := (primeB_lo hp).1
  intro k
  have step : ∀ k, prB p (jdL p xs k).2 ≠ 0 → prB p (jdL p xs (k + 1)).2 = opH p xs k := fun k hz => by
    rw [jdL_succ]
    show prB p ((jdL p xs k).2 ++ [opB p xs k]) = _
    rw [prB_app]
    have hr := prB_rng hp2 (jdL p xs k).2
    obtain ⟨q, hq⟩ := inv_one hp hr.1 hr.2 hz
    have hh := opH_rng hp2 xs k
    refine xv_eq (xv_trans (xv_mod p _) ?_) (modb hp2).1 (modb hp2).2 hh.1 hh.2
    obtain ⟨z, hz2⟩ := xv_mod p (opH p xs k * invM p (prB p (jdL p xs k).2))
    have e : opB p xs k = opH p xs k * invM p (prB p (jdL p xs k).2) % p := rfl
    rw [e]
    exact ⟨opH p xs k * q + prB p (jdL p xs k).2 * z, by grind⟩
  induction k with
  | zero => intro _; exact step 0 (by simp [jdL, prB])
  | succ k ih => intro h; exact step (k + 1) (by rw [ih (fun j hj => h j (by omega))]; exact h k (by omega))
theorem told_belongs {p : Int} (hp : primeB p = true) (xs : List Int) {n : Nat} (hn : n ≤ 24) (h : Told p xs n) : Belongs p (cf xs) (opA p xs) (opB p xs) n := by
  have hp2 := (primeB_lo hp).1
  constructor
  · intro k hk
    obtain ⟨e1, e2⟩ := opH_eq hp2 xs k (by omega)
    have hr := opH_rng hp2 xs k
    obtain ⟨q, hq⟩ := inv_one hp hr.1 hr.2 (h k hk)
    obtain ⟨z, hz⟩ := xv_mod p (nrI p (opL p xs k) xs 1 * invM p (opH p xs k))
    have e : opA p xs k = nrI p (opL p xs k) xs 1 * invM p (opH p xs k) % p := rfl
    obtain ⟨x, hx⟩ := e1
    obtain ⟨y, hy⟩ := e2
    -- alpha h = (X inv) h = X
    have t1 : p ∣ opA p xs k * opH p xs k - nrI p (opL p xs k) xs 1 := ⟨z * opH p xs k + nrI p (opL p xs k) xs 1 * q, by rw [e]; grind⟩
    obtain ⟨t, ht⟩ := t1
    exact ⟨t - opA p xs k * x + y, by grind⟩
  · intro k hk h0
    obtain ⟨e1, _⟩ := opH_eq hp2 xs k (by omega)
    obtain ⟨e2, _⟩ := opH_eq hp2 xs (k - 1) (by omega)
    have hb : prB p (jdL p xs k).2 = opH p xs (k - 1) := by
      have := prB_norm hp xs (k - 1) (fun j hj => h j (by omega))
      rwa [show k - 1 + 1 = k by omega] at this
    have hr := opH_rng hp2 xs (k - 1)
    obtain ⟨q, hq⟩ := inv_one hp hr.1 hr.2 (h (k - 1) (by omega))
    obtain ⟨z, hz⟩ := xv_mod p (opH p xs k * invM p (opH p xs (k - 1)))
    have e : opB p xs k = opH p xs k * invM p (opH p xs (k - 1)) % p := by show opH p xs k * invM p (prB p (jdL p xs k).2) % p = _; rw [hb]
    obtain ⟨x, hx⟩ := e1
    obtain ⟨y, hy⟩ := e2
    have t1 : p ∣ opB p xs k * opH p xs (k - 1) - opH p xs k := ⟨z * opH p xs (k - 1) + opH p xs k * q, by rw [e]; grind⟩
    obtain ⟨t, ht⟩ := t1
    exact ⟨t - opB p xs k * y + x, by grind⟩
theorem win_at (xs : List Int) (k i j : Nat) (hj : j < k) : (winR xs k i).getD j 0 = cf xs (i + j) := by
  unfold winR cf
  simp [List.getElem?_take, hj]
theorem win_far (xs : List Int) (k i j : Nat) (hj : k ≤ j) : (winR xs k i).getD j 0 = 0 := by
  have : (winR xs k i).length ≤ j := by unfold winR; simp; omega
  rw [List.getD_eq_getElem?_getD, List.getElem?_eq_none this]; rfl
/-- A Hankel determinant is 0 exactly if the norm is, where the norms ahead are not. -/
theorem hk_norm {p : Int} (hp : primeB p = true) {xs : List Int} (hx : areB p xs = true) {k : Nat} (hk : k ≤ 24) (h : Told p xs k) : hkM p xs (k + 1) = 0 ↔ opH p xs k = 0 := by
  have hp2 := (primeB_lo hp).1
  have hR : InR p (k + 1) (winR xs (k + 1)) := fun i _ j => by
    by_cases hj : j < k + 1
    · rw [win_at _ _ _ _ hj]; exact cf_rng hp2 hx _
    · rw [win_far _ _ _ _ (by omega)]; omega
  unfold hkM
  rw [detM_ker hp hR]
  have hr := opH_rng hp2 xs k
  have hb := told_belongs hp xs hk h
  have e1 : opH p xs k = 0 ↔ p ∣ oH (cf xs) (opA p xs) (opB p xs) k := by
    rw [← nz_dvd hr.1 hr.2]
    have := (opH_eq hp2 xs k hk).1
    constructor
    · intro h'; have := Int.dvd_sub h' this; have e5 : ∀ a b : Int, a - (a - b) = b := fun a b => by omega
      rwa [e5] at this
    · intro h'; have := Int.dvd_add this h'; have e5 : ∀ a b : Int, a - b + b = a := fun a b => by omega
      rwa [e5] at this
  rw [e1, ← hank_ker hp hb (fun j hj hd => by
    have hrj := opH_rng hp2 xs j
    have := Int.dvd_add (opH_eq hp2 xs j (by omega)).1 hd
    have e5 : ∀ a b : Int, a - b + b = a := fun a b => by omega
    rw [e5] at this
    exact h j hj ((nz_dvd hrj.1 hrj.2).1 this))]
  have e2 : ∀ (v : Nat → Int) i, rwS (winR xs (k + 1)) (k + 1) v i = sm (k + 1) (fun j => cf xs (i + j) * v j) := fun v i => sm_congr fun j hj => by rw [win_at _ _ _ _ hj]
  constructor
  · rintro ⟨v, hv, j, hj, hnz⟩
    exact ⟨v, fun i hi => by rw [← e2]; exact hv i (by omega), j, by omega, hnz⟩
  · rintro ⟨v, hv, j, hj, hnz⟩
    exact ⟨v, fun i hi => by rw [e2]; exact hv i (by omega), j, by omega, hnz⟩
theorem ordF_told {p : Int} (hp : primeB p = true) {xs : List Int} (hx : areB p xs = true) {G : Nat} (hG : G ≤ 24) : ∀ f n, n + f = G → Told p xs n → ∀ k, k ≤ G → (k ≤ ordF p xs G f n ↔ Told p xs k ∨ k ≤ n) := by
  intro f
  induction f with
  | zero =>
    intro n hn ht k hk
    have : ordF p xs G 0 n = n := rfl
    rw [this]
    constructor
    · intro h; exact .inr h
    · rintro (h | h)
      · omega
      · exact h
  | succ f ih =>
    intro n hn ht k hk
    rw [ordF, if_pos (by omega)]
    by_cases hz : hkM p xs (n + 1) = 0
    · rw [if_pos hz]
      have h0 := (hk_norm hp hx (by omega) ht).1 hz
      constructor
      · intro h; exact .inr h
      · rintro (h | h)
        · by_cases e : k ≤ n
          · exact e
          · exact absurd h0 (h n (by omega))
        · exact h
    · rw [if_neg hz]
      have ht2 : Told p xs (n + 1) := fun j hj => by
        by_cases e : j = n
        · rw [e]; exact fun h' => hz ((hk_norm hp hx (by omega) ht).2 h')
        · exact ht j (by omega)
      rw [ih (n + 1) (by omega) ht2 k hk]
      constructor
      · rintro (h | h)
        · exact .inl h
        · by_cases e : k = n + 1
          · rw [e]; exact .inl ht2
          · exact .inr (by omega)
      · rintro (h | h)
        · exact .inl h
        · exact .inr (by omega)
/-- The order tells which norms are not 0. -/
theorem ord_told {p : Int} (hp : primeB p = true) {xs : List Int} (hx : areB p xs = true) (hl : xs.length ≤ 24) {k : Nat} (hk : 2 * k ≤ xs.length + 1) : k ≤ ordM p xs ↔ Told p xs k := by
  unfold ordM
  rw [ordF_told hp hx (by omega) ((xs.length + 1) / 2) 0 (by omega) (fun j hj => by omega) k (by omega)]
  constructor
  · rintro (h | h)
    · exact h
    · intro j hj; omega
  · intro h; exact .inl h
theorem ord_most (p : Int) (xs : List Int) : 2 * ordM p xs ≤ xs.length + 1 := by
  have := ordF_le (p := p) (xs := xs) (G := (xs.length + 1) / 2) ((xs.length + 1) / 2) 0 (by omega)
  unfold ordM; omega
end Go.Proofs.YtdjifjlgllohmaaDoor
