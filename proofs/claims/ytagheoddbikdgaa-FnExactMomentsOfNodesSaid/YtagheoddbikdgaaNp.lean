/- Contracts: l02Nodes, l02Of, MomentsOfNodes (model). -/
import Derived.Test.YtagheoddbikdgaaNo
namespace Go.Proofs.Ytagheoddbikdgaa
open Go.RowKit
set_option linter.unusedVariables false
set_option linter.unusedSimpArgs false

/-- A weight times a power of its node, as the model carries it on. -/
def wqN (p x y : Int) : Nat → Int
  | 0 => y
  | k + 1 => wqN p x y k * x % p
theorem wqN_eq {p : Int} (hp : 2 ≤ p) (x : Int) {y : Int} (h0 : 0 ≤ y) (h1 : y < p) : ∀ k, wqN p x y k = y * pwN p x k % p := by
  intro k
  induction k with
  | zero => rw [wqN, pwN, Int.mul_one, Int.emod_eq_of_lt h0 h1]
  | succ k ih =>
    rw [wqN, ih, pwN, Int.mul_emod (y * pwN p x k % p) x p, Int.emod_emod, ← Int.mul_emod, Int.mul_emod y (pwN p x k * x % p) p, Int.emod_emod, ← Int.mul_emod, Int.mul_assoc]
theorem wqN_rng {p : Int} (hp : 2 ≤ p) (x : Int) {y : Int} (h0 : 0 ≤ y) (h1 : y < p) (k : Nat) : 0 ≤ wqN p x y k ∧ wqN p x y k < p := by
  rw [wqN_eq hp x h0 h1]
  exact modb hp
theorem mnS_rng {p : Int} (hp : 2 ≤ p) (xs ws : List Int) (k i : Nat) : 0 ≤ mnS p xs ws k i ∧ mnS p xs ws k i < p := by
  cases i with
  | zero => unfold mnS; omega
  | succ i => exact modb hp
theorem mnS_step {p : Int} (hp : 2 ≤ p) (xs ws : List Int) (k i : Nat) (h0 : 0 ≤ ws.getD i 0) (h1 : ws.getD i 0 < p) : mnS p xs ws k (i + 1) = (mnS p xs ws k i + wqN p (xs.getD i 0) (ws.getD i 0) k) % p := by
  rw [mnS, wqN_eq hp _ h0 h1, Int.add_emod _ (ws.getD i 0 * pwN p (xs.getD i 0) k % p), Int.emod_emod, ← Int.add_emod]
/-- The weights times powers of the nodes, the first i of them one power on. -/
def wqH (p : Int) (xs ws : List Int) (k i : Nat) : Nat → Int := fun j => if j < i then wqN p (xs.getD j 0) (ws.getD j 0) (k + 1) else wqN p (xs.getD j 0) (ws.getD j 0) k
theorem wqH_step (p : Int) (xs ws : List Int) (k i N : Nat) : (tab N (wqH p xs ws k i)).set i (wqN p (xs.getD i 0) (ws.getD i 0) k * xs.getD i 0 % p) = tab N (wqH p xs ws k (i + 1)) := by
  rw [tab_set]
  apply tab_congr
  intro j _
  unfold wqH
  by_cases e : j = i
  · subst e; rw [if_pos rfl, if_pos (by omega)]; rfl
  · rw [if_neg e]
    by_cases h : j < i
    · rw [if_pos h, if_pos (by omega)]
    · rw [if_neg h, if_neg (by omega)]
theorem wqH_all (p : Int) (xs ws : List Int) (k N : Nat) : tab N (wqH p xs ws k N) = tab N (wqH p xs ws (k + 1) 0) := by
  apply tab_congr
  intro j hj
  unfold wqH
  rw [if_pos hj, if_neg (by omega)]
theorem wqH_zero (p : Int) (xs ws : List Int) (N : Nat) (h : ws.length = N) : tab N (wqH p xs ws 0 0) = ws := by
  rw [tab_of ws N h]
  apply tab_congr
  intro j hj
  unfold wqH
  rw [if_neg (by omega), ← tab_of ws N h]
  rfl
theorem touch_dr {lo hi : Nat} {a w : World} (h : Touch lo hi a w) : Touch lo hi a w.drew := h.trans ⟨rfl, rfl, rfl, Nat.le_refl _, fun _ _ _ => rfl⟩
theorem below_touch0 {B lo hi : Nat} {w0 w w' : World} (hb : Below B w0 w) (t : Touch lo hi w w') (h : hi = 0) (h2 : B ≤ w.heap.size) : Below B w0 w' :=
  below_touch hb (lo := B) (hi := B) ⟨t.os, t.tape, t.output, t.size, fun k hk _ => t.block k hk (.inr (by omega))⟩ (Nat.le_refl _) h2
set_option maxRecDepth 100000 in
set_option maxHeartbeats 3200000 in
theorem l02Nodes_any (p : Int) (a1 : Option Addr) (n1 c1 : Nat) (xs : List Int) (a2 : Option Addr) (n2 c2 : Nat) (ys : List Int) (w : World) (h1 : SL w a1 n1 c1 xs) (h2 : SL w a2 n2 c2 ys) (b1 : n1 ≤ 4000000) (b2 : n2 ≤ 4000000) :
    Calls Try.prog 91 #[.int .i64 p, .slice a1 n1 c1, .slice a2 n2 c2] w fun e w' => e = .returned (.bool (mnOk p xs ys)) ∧ Below w.heap.size w w' := by
  have hl := hide h1.len
  have hl2 := hide h2.len
  have hb0 := Below.refl w.heap.size w
  cases hP : primeB p
  · have HP := hide hP
    have HR := hide (show mnOk p xs ys = false by simp [mnOk, hP])
    clear hP
    go_enter Try.func91, Try.ntmps91
    go_wp2_with fail
    refine (l01Prime_any _ _).mono ?_
    rintro e v1 ⟨rfl, rfl⟩
    rw [HP.out]
    go_wp2
    go_ret
    exact ⟨ret_bool HR.out.symm, hb0⟩
  have HP := hide hP
  obtain ⟨hp, hp2⟩ := primeB_lo hP
  by_cases q1 : (12 : Int) < (n1 : Int)
  · have HR := hide (show mnOk p xs ys = false by simp [mnOk, show ¬ xs.length ≤ 12 by rw [hl.out]; omega])
    clear hP
    go_enter Try.func91, Try.ntmps91
    go_wp2_with fail
    refine (l01Prime_any _ _).mono ?_
    rintro e v1 ⟨rfl, rfl⟩
    rw [HP.out]
    go_wp2
    go_ret
    exact ⟨ret_bool HR.out.symm, hb0⟩
  by_cases q2 : n1 = n2
  rotate_left
  · have HR := hide (show mnOk p xs ys = false by simp [mnOk, show ¬ ys.length = xs.length by rw [hl.out, hl2.out]; omega])
    have ob : ((n1 : Int) != (n2 : Int)) = true := by simp; omega
    clear hP q2
    go_enter Try.func91, Try.ntmps91
    go_wp2_with fail
    refine (l01Prime_any _ _).mono ?_
    rintro e v1 ⟨rfl, rfl⟩
    rw [HP.out]
    go_wp2
    go_ret
    exact ⟨ret_bool HR.out.symm, hb0⟩
  subst q2
  have c1' : xs.length ≤ 12 := by rw [hl.out]; omega
  have c2' : ys.length = xs.length := by rw [hl.out, hl2.out]
  cases hX : areB p xs
  · have HX := hide hX
    have HR := hide (show mnOk p xs ys = false by simp [mnOk, hX])
    clear hP c1' c2' hX
    go_enter Try.func91, Try.ntmps91
    go_wp2_with fail
    refine (l01Prime_any _ _).mono ?_
    rintro e v1 ⟨rfl, rfl⟩
    rw [HP.out]
    go_wp2_with fail
    refine (l02Numbers_any _ _ _ _ _ _ h1 b1 (by omega) (by omega)).mono ?_
    rintro e v2 ⟨rfl, rfl⟩
    rw [HX.out]
    go_wp2
    go_ret
    exact ⟨ret_bool HR.out.symm, hb0⟩
  have HX := hide hX
  cases hY : areB p ys
  · have HY := hide hY
    have HR := hide (show mnOk p xs ys = false by simp [mnOk, hY])
    clear hP c1' c2' hX hY
    go_enter Try.func91, Try.ntmps91
    go_wp2_with fail
    refine (l01Prime_any _ _).mono ?_
    rintro e v1 ⟨rfl, rfl⟩
    rw [HP.out]
    go_wp2_with fail
    refine (l02Numbers_any _ _ _ _ _ _ h1 b1 (by omega) (by omega)).mono ?_
    rintro e v2 ⟨rfl, rfl⟩
    rw [HX.out]
    go_wp2_with fail
    refine (l02Numbers_any _ _ _ _ _ _ h2 b2 (by omega) (by omega)).mono ?_
    rintro e v3 ⟨rfl, rfl⟩
    rw [HY.out]
    go_wp2
    go_ret
    exact ⟨ret_bool HR.out.symm, hb0⟩
  have HY := hide hY
  have HM : Hid (mnOk p xs ys = difB xs) := hide (by simp only [mnOk, hP, hX, hY, decide_eq_true c1', decide_eq_true c2']; rfl)
  clear hP c1' c2' hX hY
  by_cases h0 : n1 = 0
  · subst h0
    obtain rfl := h1.empty
    have HR := hide (show mnOk p [] ys = true by rw [HM.out]; rfl)
    go_enter Try.func91, Try.ntmps91
    go_wp2_with fail
    refine (l01Prime_any _ _).mono ?_
    rintro e v1 ⟨rfl, rfl⟩
    rw [HP.out]
    go_wp2_with fail
    refine (l02Numbers_any _ _ _ _ _ _ h1 b1 (by omega) (by omega)).mono ?_
    rintro e v2 ⟨rfl, rfl⟩
    rw [HX.out]
    go_wp2_with fail
    refine (l02Numbers_any _ _ _ _ _ _ h2 b2 (by omega) (by omega)).mono ?_
    rintro e v3 ⟨rfl, rfl⟩
    rw [HY.out]
    go_wp2
    refine wp_loop_rounds 1 ?_
    rw [rounds_succ]
    go_wp2
    go_ret
    exact ⟨ret_bool HR.out.symm, hb0⟩
  obtain ⟨b, off, rfl, hbw, hcell'⟩ := h1.at (by omega)
  have hcell := hide hcell'
  clear hcell'
  go_enter Try.func91, Try.ntmps91
  go_wp2_with fail
  refine (l01Prime_any _ _).mono ?_
  rintro e v1 ⟨rfl, rfl⟩
  rw [HP.out]
  go_wp2_with fail
  refine (l02Numbers_any _ _ _ _ _ _ h1 b1 (by omega) (by omega)).mono ?_
  rintro e v2 ⟨rfl, rfl⟩
  rw [HX.out]
  go_wp2_with fail
  refine (l02Numbers_any _ _ _ _ _ _ h2 b2 (by omega) (by omega)).mono ?_
  rintro e v3 ⟨rfl, rfl⟩
  rw [HY.out]
  clear h1 h2
  go_wp2
  go_loopw [7] (fun i wr => ∃ k : Nat, k ≤ n1 ∧ i = .int .i64 k ∧ Hid ((xs.take k).Nodup) ∧ Below w.heap.size w wr) (fun i _ => n1 - (intOf i).toNat)
  case atStart => exact ⟨0, by omega, rfl, hide (by simp), hb0⟩
  case round =>
    obtain ⟨k, hk, rfl, hD, hb⟩ := hrel
    by_cases hlt : k < n1
    · obtain ⟨x, hx⟩ : ∃ x, x = xs.getD k 0 := ⟨_, rfl⟩
      have Hx := hide hx
      clear hx
      have hlt' : (k : Int) < (n1 : Int) := by omega
      go_wp2
      clear hb0
      go_loopw [8] (fun j wq => ∃ m : Nat, m ≤ k ∧ j = .int .i64 m ∧ Hid (x ∉ xs.take m) ∧ Below w.heap.size w wq) (fun j _ => k - (intOf j).toNat)
      case atStart => exact ⟨0, by omega, rfl, hide (by simp), hb⟩
      case round =>
        obtain ⟨m, hm, rfl, hN, hb2⟩ := hrel
        clear hb
        have hk0 : (0 : Int) ≤ (k : Int) := by omega
        have hm0 : (0 : Int) ≤ (m : Int) := by omega
        by_cases hlm : m < k
        · have e1 := cell_be hb2 (hcell.out k hlt)
          rw [← Hx.out] at e1
          have e2 := cell_be hb2 (hcell.out m (by omega))
          obtain ⟨y, hy⟩ : ∃ y, y = xs.getD m 0 := ⟨_, rfl⟩
          rw [← hy] at e2
          have Hy := hide hy
          clear hy
          have hlm' : (m : Int) < (k : Int) := by omega
          have hmn : (m : Int) < (n1 : Int) := by omega
          by_cases hxy : x = y
          · have hF : Hid (mnOk p xs ys = false) := hide (by
              have h1 : ¬ xs.Nodup := fun h => by
                have h2 := (nodup_snoc xs k (by rw [hl.out]; exact hlt)).1 (nodup_take h (k + 1))
                refine h2.2 ?_
                rw [← Hx.out, hxy, Hy.out]
                have h3 := (mem_take_snoc xs m (xs.getD m 0) (by rw [hl.out]; omega)).2 (.inr rfl)
                have h4 : xs.take (m + 1) = (xs.take k).take (m + 1) := by rw [List.take_take, Nat.min_eq_left (by omega)]
                rw [h4] at h3
                exact List.mem_of_mem_take h3
              rw [HM.out]
              unfold difB
              rw [decide_eq_false h1])
            have ob : (x == y) = true := by simpa using hxy
            clear hxy
            go_wp2_with fail
            go_region
            all_goals go_wp2
            all_goals go_ret
            all_goals exact ⟨ret_bool hF.out.symm, hb2.drew⟩
          · have hN2 : Hid (x ∉ xs.take (m + 1)) := hide (by
              rw [mem_take_snoc xs m x (by rw [hl.out]; omega)]
              rintro (h | h)
              · exact hN.out h
              · exact hxy (by rw [Hy.out, h]))
            have ob : (x == y) = false := by simpa using hxy
            clear hxy
            go_wp2_with fail
            go_region
            all_goals go_wp2
            all_goals go_roundw
            all_goals first
              | exact ⟨m + 1, by omega, by go_num, hN2, hb2.drew⟩
              | (simp [intOf]; omega)
        · have hmk : m = k := by omega
          have hN2 : Hid ((xs.take (k + 1)).Nodup) := hide ((nodup_snoc xs k (by rw [hl.out]; exact hlt)).2 ⟨hD.out, by rw [← Hx.out]; have := hN.out; rwa [hmk] at this⟩)
          have hlm' : ¬ (m : Int) < (k : Int) := by omega
          clear hmk
          go_wp2
          go_roundw
          case rel => exact ⟨k + 1, by omega, by go_num, hN2, hb2⟩
          case measure => simp [intOf]; omega
    · obtain rfl : k = n1 := by omega
      have hF : Hid (mnOk p xs ys = true) := hide (by
        have h2 := hD.out
        rw [List.take_of_length_le (by rw [hl.out]; omega)] at h2
        rw [HM.out]
        unfold difB
        rw [decide_eq_true h2])
      have hge : ¬ (k : Int) < (k : Int) := by omega
      go_wp2
      go_ret
      exact ⟨ret_bool hF.out.symm, hb⟩

end Go.Proofs.Ytagheoddbikdgaa
