/- Contract: slices.Reverse at []int64, on an owned row or on the rest of one. -/
import Derived.Test.YtiahaipaekeinaaRa
import Derived.BigRegion
namespace Go.Proofs.Ytiahaipaekeinaa
open Go.RowKit
set_option linter.unusedVariables false
set_option linter.unusedSimpArgs false

/-- The numbers from o on, n of them, the first i and the last i of which are exchanged. -/
def rvH (h : Nat → Int) (o n i : Nat) : Nat → Int := fun j => if o ≤ j ∧ (j < o + i ∨ o + n ≤ j + i) then h (o + (o + n - 1 - j)) else h j
theorem rvH_step (h : Nat → Int) (o n i : Nat) (hi : i + 1 < n - i) : ((tab (o + n) (rvH h o n i)).set (o + i) (h (o + (n - 1 - i)))).set (o + (n - 1 - i)) (h (o + i)) = tab (o + n) (rvH h o n (i + 1)) := by
  rw [tab_set, tab_set]
  apply tab_congr
  intro j hj
  unfold rvH
  by_cases e1 : j = o + (n - 1 - i)
  · subst e1
    rw [if_pos rfl, if_pos (by omega)]
    congr 1; omega
  · rw [if_neg e1]
    by_cases e2 : j = o + i
    · subst e2
      rw [if_pos rfl, if_pos (by omega)]
      congr 1; omega
    · rw [if_neg e2]
      by_cases e3 : o ≤ j ∧ (j < o + i ∨ o + n ≤ j + i)
      · rw [if_pos e3, if_pos (by omega)]
      · rw [if_neg e3, if_neg (by omega)]
theorem rvH_zero (h : Nat → Int) (o n : Nat) : tab (o + n) (rvH h o n 0) = tab (o + n) h := by
  apply tab_congr
  intro j hj
  unfold rvH
  rw [if_neg (by omega)]
theorem rvH_all (h : Nat → Int) (o n i : Nat) (hi : n ≤ 2 * i + 1) (hi2 : i ≤ n) : tab (o + n) (rvH h o n i) = tab (o + n) (fun j => if o ≤ j then h (o + (o + n - 1 - j)) else h j) := by
  apply tab_congr
  intro j hj
  unfold rvH
  by_cases e : o ≤ j
  · by_cases e3 : j < o + i ∨ o + n ≤ j + i
    · rw [if_pos ⟨e, e3⟩, if_pos e]
    · rw [if_neg (fun h => e3 h.2), if_pos e]
      congr 1; omega
  · rw [if_neg (fun h => e h.1), if_neg e]
theorem Touch.put {lo hi : Nat} {a w : World} (h : Touch lo hi a w) {x : Addr} (h1 : lo ≤ x.block) (h2 : x.block < hi) (u : Value) : Touch lo hi a (w.setCell x u) :=
  h.trans ⟨rfl, rfl, rfl, by simp, fun k hk hd => Below.heap_setCell _ _ _ _ (by omega)⟩
theorem Touch.dr {lo hi : Nat} {a w : World} (h : Touch lo hi a w) : Touch lo hi a w.drew := h.trans ⟨rfl, rfl, rfl, Nat.le_refl _, fun _ _ _ => rfl⟩
set_option maxRecDepth 100000 in
set_option maxHeartbeats 800000 in
theorem reverse_small (a : Option Addr) (n c : Nat) (w : World) (hn : n ≤ 1) :
    Calls Try.prog 38 #[.slice a n c] w fun e w' => e = .returned (.tuple #[]) ∧ w = w' := by
  have hc : n = 0 ∨ n = 1 := by omega
  rcases hc with rfl | rfl
  · go_enter Try.func38, Try.ntmps38
    go_wp2
    refine wp_loop_rounds 1 ?_
    rw [rounds_succ]
    go_wp2

    refine bodyPost_end (v := .tuple #[]) (by simp [results, Try.results38]) rfl ?_
    exact ⟨rfl, rfl⟩
  · go_enter Try.func38, Try.ntmps38
    go_wp2
    refine wp_loop_rounds 1 ?_
    rw [rounds_succ]
    go_wp2
    refine bodyPost_end (v := .tuple #[]) (by simp [results, Try.results38]) rfl ?_
    exact ⟨rfl, rfl⟩
set_option maxRecDepth 100000 in
set_option maxHeartbeats 1600000 in
theorem reverse_any (B g o n cap c : Nat) (h : Nat → Int) (w : World) (ho : Own B w (some ⟨g, 0, none⟩) cap (tab (o + n) h)) (hn : 2 ≤ n) (hn2 : n ≤ 1000) (ho2 : o ≤ 1000) :
    Calls Try.prog 38 #[.slice (some ⟨g, o, none⟩) n c] w fun e w' => e = .returned (.tuple #[]) ∧ Own B w' (some ⟨g, 0, none⟩) cap (tab (o + n) (fun j => if o ≤ j then h (o + (o + n - 1 - j)) else h j)) ∧ Touch g (g + 1) w w' := by
  have ho0 : Hid (Own B w (some ⟨g, 0, none⟩) cap (tab (o + n) (rvH h o n 0))) := hide (by rw [rvH_zero]; exact ho)
  clear ho
  have hg0 : Touch g (g + 1) w w := ⟨rfl, rfl, rfl, Nat.le_refl _, fun _ _ _ => rfl⟩
  go_enter Try.func38, Try.ntmps38
  go_wp2
  go_loopw [2, 3] (fun iv jv wr => ∃ i : Nat, 2 * i ≤ n ∧ iv = .int .i64 i ∧ jv = .int .i64 ((n : Int) - 1 - i) ∧ Hid (Own B wr (some ⟨g, 0, none⟩) cap (tab (o + n) (rvH h o n i))) ∧ Touch g (g + 1) w wr) (fun iv _ _ => n - (intOf iv).toNat)
  case atStart => exact ⟨0, by omega, rfl, by go_num, ho0, hg0⟩
  case round =>
    obtain ⟨i, hi, rfl, rfl, hO, ht⟩ := hrel
    clear ho0 hg0
    by_cases hlt : (i : Int) < (n : Int) - 1 - i
    · obtain ⟨k, hk⟩ : ∃ k : Nat, k = n - 1 - i := ⟨_, rfl⟩
      have hki : (n : Int) - 1 - i = (k : Int) := by omega
      have c1 := Own.cellG hO.out (o + i) (by rw [tab_len]; omega)
      have c2 := Own.cellG hO.out (o + k) (by rw [tab_len]; omega)
      rw [tab_at _ _ _ (by omega), show rvH h o n i (o + i) = h (o + i) by unfold rvH; rw [if_neg (by omega)]] at c1
      rw [tab_at _ _ _ (by omega), show rvH h o n i (o + k) = h (o + k) by unfold rvH; rw [if_neg (by omega)]] at c2
      have f1 := Own.freeG hO.out (o + i)
      have f2 := Own.freeG hO.out (o + k)
      have hs := hide (Own.setG (Own.setG hO.out (o + i) (h (o + k))) (o + k) (h (o + i)))
      have e := rvH_step h o n i (by omega)
      rw [← hk] at e
      rw [e] at hs
      obtain ⟨X, hX⟩ : ∃ X, h (o + i) = X := ⟨_, rfl⟩
      obtain ⟨Y, hY⟩ : ∃ Y, h (o + k) = Y := ⟨_, rfl⟩
      rw [hX] at c1 hs
      rw [hY] at c2 hs
      rw [hki] at hlt ⊢
      have q1 : (i : Int) < (n : Int) := by omega
      have q2 : (k : Int) < (n : Int) := by omega
      have q3 : ¬ (k : Int) < 0 := by omega
      have q4 : (0 : Int) ≤ (k : Int) := by omega
      have q5 : (0 : Int) ≤ (i : Int) := by omega
      have v1 : IntKind.i64.wrap ((k : Int) - 1) = (k : Int) - 1 := IntWalk.i64_in _ (by omega)
      have q6 : o + k ≠ o + i := by omega
      have q7 : o + i ≠ o + k := by omega
      have Hk := hide hk
      clear hX hY e hO hk hki
      go_wp2_with fail
      go_region
      all_goals go_wp2
      all_goals go_roundw
      all_goals first
        | exact ⟨i + 1, by have := Hk.out; omega, by go_num, by rw [show ((n : Int) - 1 - ((i + 1 : Nat) : Int)) = (k : Int) - 1 by have := Hk.out; omega], hide (hs.out.below ((Below.refl _ _).drew)), ((ht.put (by simp) (by simp) _).put (by simp) (by simp) _).dr⟩
        | (simp [intOf]; omega)
    · have e := rvH_all h o n i (by omega) (by omega)
      have hO2 := hO.out
      rw [e] at hO2
      have HO := hide hO2
      clear hO hO2 e
      go_wp2

      refine bodyPost_end (v := .tuple #[]) (by simp [results, Try.results38]) rfl ?_
      exact ⟨rfl, HO.out, ht⟩
end Go.Proofs.Ytiahaipaekeinaa
