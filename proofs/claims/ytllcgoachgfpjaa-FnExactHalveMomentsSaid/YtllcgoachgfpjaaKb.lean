/- Contracts: l08Symmetric, AreSymmetric (program and model). -/
import Derived.Test.YtllcgoachgfpjaaSm
import Derived.Test.YtllcgoachgfpjaaIo
namespace Go.Proofs.Ytllcgoachgfpjaa
open Go.RowKit
set_option linter.unusedVariables false
set_option linter.unusedSimpArgs false

def symB (xs : List Int) : Bool := (List.range xs.length).all fun i => xs.getD (2 * i + 1) 0 == 0
theorem symB_t {xs : List Int} (h : ∀ i, 2 * i + 1 < xs.length → xs.getD (2 * i + 1) 0 = 0) : symB xs = true := by
  unfold symB
  rw [List.all_eq_true]
  intro i hi
  by_cases e : 2 * i + 1 < xs.length
  · simpa using h i e
  · simp only [beq_iff_eq]
    rw [List.getD_eq_getElem?_getD, List.getElem?_eq_none (by omega)]
    rfl
theorem symB_f {xs : List Int} (i : Nat) (hi : 2 * i + 1 < xs.length) (h : xs.getD (2 * i + 1) 0 ≠ 0) : symB xs = false := by
  unfold symB
  rw [Bool.eq_false_iff]
  intro hc
  rw [List.all_eq_true] at hc
  have := hc i (by simp; omega)
  simp only [beq_iff_eq] at this
  exact h this
def asyC (p : Int) (xs : List Int) : Int := if momB p xs then 0 else 1
def asyV (p : Int) (xs : List Int) : Bool := momB p xs && symB xs
set_option maxRecDepth 100000 in
set_option maxHeartbeats 1600000 in
theorem l08Symmetric_any (p : Int) (a : Option Addr) (n c : Nat) (xs : List Int) (w : World) (hs : SL w a n c xs) (hn : n ≤ 4000000) (hn0 : 1 ≤ n) :
    Calls Try.prog 83 #[mom p a n c] w fun e w' => e = .returned (.bool (symB xs)) ∧ Below w.heap.size w w' := by
  have hl := hide hs.len
  have hb0 := bl1 w (.cells #[.int .i64 p, .slice a n c] 26)
  have g1 := hs.below hb0
  obtain ⟨b, off, rfl, hbw, hcell⟩ := g1.at (by omega)
  clear hs g1
  go_enter Try.func83, Try.ntmps83
  go_wp2
  go_loop [3] (fun kv => ∃ i : Nat, 2 * i ≤ n ∧ kv = .int .i64 (2 * (i : Int) + 1) ∧ Hid (∀ j, j < i → xs.getD (2 * j + 1) 0 = 0)) (fun kv => n + 1 - (intOf kv).toNat)
  case atStart => exact ⟨0, by omega, rfl, hide (fun j hj => by omega)⟩
  case round =>
    obtain ⟨i, hi, rfl, hR⟩ := hrel
    have v1 : IntKind.i64.wrap (2 * (i : Int) + 1 + 2) = 2 * (i : Int) + 1 + 2 := IntWalk.i64_in _ (by omega)
    by_cases hlt : 2 * i + 1 < n
    · have e1 := hcell (2 * i + 1) hlt
      obtain ⟨x, hx⟩ : ∃ x, xs.getD (2 * i + 1) 0 = x := ⟨_, rfl⟩
      rw [hx] at e1
      have Hx := hide hx
      have j1 : (0 : Int) ≤ 2 * (i : Int) + 1 := by omega
      have j2 : 2 * (i : Int) + 1 < (n : Int) := by omega
      have j3 : (2 * (i : Int) + 1).toNat = 2 * i + 1 := by omega
      clear hx hcell
      by_cases h0 : x = 0
      · go_wp2
        go_round
        case rel => exact ⟨i + 1, by omega, by go_num, hide (fun j hj => by
          by_cases e : j = i
          · subst e; rw [Hx.out]; exact h0
          · exact hR.out j (by omega))⟩
        case measure => simp [intOf]; omega
      · have hF : Hid (symB xs = false) := hide (symB_f i (by rw [hl.out]; exact hlt) (by rw [Hx.out]; exact h0))
        go_wp2
        go_ret
        exact ⟨ret_bool hF.out.symm, hb0⟩
    · have hF : Hid (symB xs = true) := hide (symB_t fun j hj => hR.out j (by rw [hl.out] at hj; omega))
      have j2 : ¬ 2 * (i : Int) + 1 < (n : Int) := by omega
      go_wp2
      go_ret
      exact ⟨ret_bool hF.out.symm, hb0⟩
set_option maxRecDepth 100000 in
set_option maxHeartbeats 1600000 in
theorem specAreSymmetric (p : Int) (a : Option Addr) (n c : Nat) (xs : List Int) (w : World) (hs : SL w a n c xs) (hn : n ≤ 4000000) :
    Calls Try.prog 37 #[mom p a n c] w fun e w' => e = .returned (.tuple #[.bool (asyV p xs), .int .i64 (asyC p xs)]) ∧ Below w.heap.size w w' := by
  have hl := hide hs.len
  have hb0 := bl1 w (.cells #[.int .i64 p, .slice a n c] 26)
  have g1 := hs.below hb0
  cases hm : momB p xs
  · have Hm := hide hm
    have HC := hide (show asyC p xs = 1 by simp [asyC, hm])
    have HV := hide (show asyV p xs = false by simp [asyV, hm])
    clear hm
    go_enter Try.func37, Try.ntmps37
    go_wp2_with fail
    refine (l02Are_any _ _ _ _ _ _ g1 hn).mono ?_
    rintro e w1 ⟨rfl, hb1⟩
    rw [Hm.out]
    go_wp2
    go_ret2
    exact ⟨ret_b2 HV.out.symm HC.out.symm, bnext hb0 hb1⟩
  · obtain ⟨_, k1, _, _⟩ := momB_rng hm
    rw [hl.out] at k1
    have Hm := hide hm
    have HC := hide (show asyC p xs = 0 by simp [asyC, hm])
    have HV := hide (show asyV p xs = symB xs by simp [asyV, hm])
    clear hm
    go_enter Try.func37, Try.ntmps37
    go_wp2_with fail
    refine (l02Are_any _ _ _ _ _ _ g1 hn).mono ?_
    rintro e w1 ⟨rfl, hb1⟩
    rw [Hm.out]
    have f0 : w1.cell? ⟨w.heap.size, 0, none⟩ = some (.int .i64 p) := cell_be hb1 (by simp [go_sem])
    have f1 : w1.cell? ⟨w.heap.size, 1, none⟩ = some (.slice a n c) := cell_be hb1 (by simp [go_sem])
    go_wp2_with fail
    refine (l08Symmetric_any _ _ _ _ _ _ (g1.below hb1) hn k1).mono ?_
    rintro e w2 ⟨rfl, hb2⟩
    go_wp2
    go_ret2
    exact ⟨ret_b2 HV.out.symm HC.out.symm, bnext (bnext hb0 hb1) hb2⟩
set_option maxRecDepth 100000 in
set_option maxHeartbeats 1600000 in
theorem implAreSymmetric (p : Int) (a : Option Addr) (n c : Nat) (xs : List Int) (w : World) (hs : SL w a n c xs) (hn : n ≤ 4000000) :
    Calls Try.prog 38 #[mom p a n c] w fun e w' => e = .returned (.tuple #[.bool (asyV p xs), .int .i64 (asyC p xs)]) ∧ Below w.heap.size w w' := by
  have hl := hide hs.len
  have hb0 := bl1 w (.cells #[.int .i64 p, .slice a n c] 26)
  have g1 := hs.below hb0
  cases hm : momB p xs
  · have Hm := hide hm
    have HC := hide (show asyC p xs = 1 by simp [asyC, hm])
    have HV := hide (show asyV p xs = false by simp [asyV, hm])
    clear hm
    go_enter Try.func38, Try.ntmps38
    go_wp2_with fail
    refine (areMoments_any _ _ _ _ _ _ g1 hn).mono ?_
    rintro e w1 ⟨rfl, hb1⟩
    rw [Hm.out]
    go_wp2
    go_ret2
    exact ⟨ret_b2 HV.out.symm HC.out.symm, bnext hb0 hb1⟩
  · obtain ⟨_, k1, _, _⟩ := momB_rng hm
    rw [hl.out] at k1
    have Hm := hide hm
    have HC := hide (show asyC p xs = 0 by simp [asyC, hm])
    have HV := hide (show asyV p xs = symB xs by simp [asyV, hm])
    clear hm
    go_enter Try.func38, Try.ntmps38
    go_wp2_with fail
    refine (areMoments_any _ _ _ _ _ _ g1 hn).mono ?_
    rintro e w1 ⟨rfl, hb1⟩
    rw [Hm.out]
    have f0 : w1.cell? ⟨w.heap.size, 0, none⟩ = some (.int .i64 p) := cell_be hb1 (by simp [go_sem])
    have f1 : w1.cell? ⟨w.heap.size, 1, none⟩ = some (.slice a n c) := cell_be hb1 (by simp [go_sem])
    have hB1 := bnext hb0 hb1
    obtain ⟨b, off, rfl, hbw, hcell⟩ := (g1.below hb1).at (by omega)
    clear hs g1
    go_wp2
    go_loop [4] (fun kv => ∃ i : Nat, 2 * i ≤ n ∧ kv = .int .i64 (2 * (i : Int) + 1) ∧ Hid (∀ j, j < i → xs.getD (2 * j + 1) 0 = 0)) (fun kv => n + 1 - (intOf kv).toNat)
    case atStart => exact ⟨0, by omega, rfl, hide (fun j hj => by omega)⟩
    case round =>
      obtain ⟨i, hi, rfl, hR⟩ := hrel
      have v1 : IntKind.i64.wrap (2 * (i : Int) + 1 + 2) = 2 * (i : Int) + 1 + 2 := IntWalk.i64_in _ (by omega)
      by_cases hlt : 2 * i + 1 < n
      · have e1 := hcell (2 * i + 1) hlt
        obtain ⟨x, hx⟩ : ∃ x, xs.getD (2 * i + 1) 0 = x := ⟨_, rfl⟩
        rw [hx] at e1
        have Hx := hide hx
        have j1 : (0 : Int) ≤ 2 * (i : Int) + 1 := by omega
        have j2 : 2 * (i : Int) + 1 < (n : Int) := by omega
        have j3 : (2 * (i : Int) + 1).toNat = 2 * i + 1 := by omega
        clear hx hcell
        by_cases h0 : x = 0
        · go_wp2
          go_round
          case rel => exact ⟨i + 1, by omega, by go_num, hide (fun j hj => by
            by_cases e : j = i
            · subst e; rw [Hx.out]; exact h0
            · exact hR.out j (by omega))⟩
          case measure => simp [intOf]; omega
        · have hF : Hid (symB xs = false) := hide (symB_f i (by rw [hl.out]; exact hlt) (by rw [Hx.out]; exact h0))
          go_wp2
          go_ret2
          exact ⟨ret_b2 (by rw [HV.out, hF.out]) HC.out.symm, hB1⟩
      · have hF : Hid (symB xs = true) := hide (symB_t fun j hj => hR.out j (by rw [hl.out] at hj; omega))
        have j2 : ¬ 2 * (i : Int) + 1 < (n : Int) := by omega
        go_wp2
        go_ret2
        exact ⟨ret_b2 (by rw [HV.out, hF.out]) HC.out.symm, hB1⟩
end Go.Proofs.Ytllcgoachgfpjaa
