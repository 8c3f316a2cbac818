/- Merged texts. -/
import Derived.Test.YtpoabedlcljibaaYW119
import Derived.Test.YtpoabedlcljibaaYW113
import Derived.Test.YtpoabedlcljibaaYW122
import Derived.Deep.DeepFit
import Derived.BigRegion
/- Contracts: AffineJacobi (program and model). -/
namespace Go.Proofs.Ytpoabedlcljibaa
open Go.RowKit
set_option linter.unusedVariables false
set_option linter.unusedSimpArgs false

def afA (p a c : Int) (xs : List Int) (m : Nat) : Nat → Int := fun j => if j < m then (a * xs.getD j 0 + c) % p else xs.getD j 0
def afB (p a : Int) (ys : List Int) (m : Nat) : Nat → Int := fun j => if 0 < j ∧ j < m then a * a % p * ys.getD j 0 % p else ys.getD j 0
theorem afA_step (p a c : Int) (xs : List Int) (N m : Nat) : (tab N (afA p a c xs m)).set m ((a * xs.getD m 0 + c) % p) = tab N (afA p a c xs (m + 1)) := by
  rw [tab_set]
  apply tab_congr
  intro j _
  unfold afA
  by_cases e : j = m
  · subst e; simp
  · rw [if_neg e]
    by_cases h : j < m
    · rw [if_pos h, if_pos (by omega)]
    · rw [if_neg h, if_neg (by omega)]
theorem afB_step (p a : Int) (ys : List Int) (N m : Nat) (hm : 0 < m) : (tab N (afB p a ys m)).set m (a * a % p * ys.getD m 0 % p) = tab N (afB p a ys (m + 1)) := by
  rw [tab_set]
  apply tab_congr
  intro j _
  unfold afB
  by_cases e : j = m
  · subst e; simp [hm]
  · rw [if_neg e]
    by_cases h : 0 < j ∧ j < m
    · rw [if_pos h, if_pos (by omega)]
    · rw [if_neg h, if_neg (by omega)]
theorem afB_one (p a : Int) (ys : List Int) (N : Nat) : tab N (afB p a ys 0) = tab N (afB p a ys 1) := by
  apply tab_congr
  intro j _
  unfold afB
  rw [if_neg (by omega), if_neg (by omega)]
theorem afA_zero (p a c : Int) (xs : List Int) (N : Nat) (h : xs.length = N) : tab N (afA p a c xs 0) = xs := by
  conv => rhs; rw [tab_of xs N h]
  apply tab_congr
  intro j _
  unfold afA
  rw [if_neg (by omega)]
theorem afB_zero (p a : Int) (ys : List Int) (N : Nat) (h : ys.length = N) : tab N (afB p a ys 0) = ys := by
  conv => rhs; rw [tab_of ys N h]
  apply tab_congr
  intro j _
  unfold afB
  rw [if_neg (by omega)]
def affC (p : Int) (xs ys : List Int) (a c : Int) : Int := if jacB p xs ys then (if (1 ≤ a ∧ a < p) ∧ (0 ≤ c ∧ c < p) then 0 else 2) else 1
def affP (p : Int) (xs ys : List Int) (a c : Int) : Int := if affC p xs ys a c = 0 then p else 0
def affV (p : Int) (xs ys : List Int) (a c : Int) : List Int := if affC p xs ys a c = 0 then tab xs.length (afA p a c xs xs.length) else []
def affU (p : Int) (xs ys : List Int) (a c : Int) : List Int := if affC p xs ys a c = 0 then tab xs.length (afB p a ys xs.length) else []
/-- Two rows of the call's own, apart from each other. -/
theorem JZ.rows {lo hi : Nat} {w : World} {a : Option Addr} {n c : Nat} {xs : List Int} {b : Option Addr} {m d : Nat} {ys : List Int} (h : JZ lo hi w a n c xs b m d ys) (h1 : n ≠ 0) (h2 : m ≠ 0) :
    ∃ ga gb, a = some ⟨ga, 0, none⟩ ∧ b = some ⟨gb, 0, none⟩ ∧ ga ≠ gb ∧ lo ≤ ga ∧ ga < hi ∧ lo ≤ gb ∧ gb < hi ∧ Own lo w a c xs ∧ Own lo w b d ys := by
  have e1 := h.1.len
  have e2 := h.2.1.len
  rcases h.1.2 with h0 | ⟨o1, g1, k1, q1⟩
  · exact absurd h0 h1
  rcases h.2.1.2 with h0 | ⟨o2, g2, k2, q2⟩
  · exact absurd h0 h2
  obtain ⟨ga, ra, x1, x2, _⟩ := o1.blkG (by omega)
  obtain ⟨gb, rb, y1, y2, _⟩ := o2.blkG (by omega)
  subst ra
  subst rb
  cases k1
  cases k2
  refine ⟨ga, gb, rfl, rfl, ?_, x1, q1, y1, q2, o1, o2⟩
  rcases h.2.2 with h0 | h0 | h0
  · exact absurd h0 h1
  · exact absurd h0 h2
  · intro e
    exact h0 (by simp [blk, e])
end Go.Proofs.Ytpoabedlcljibaa
/- Contract: slices.Reverse at []int64, on an owned row or on the rest of one. -/
namespace Go.Proofs.Ytpoabedlcljibaa
open Go.RowKit
set_option linter.unusedVariables false
set_option linter.unusedSimpArgs false

/-- The numbers from o on, n of them, the first i and the last i of which are exchanged. -/
def rvH (h : Nat → Int) (o n i : Nat) : Nat → Int := fun j => if o ≤ j ∧ (j < o + i ∨ o + n ≤ j + i) then h (o + (o + n - 1 - j)) else h j
theorem rvH_step (h : Nat → Int) (o n i : Nat) (hi : i + 1 < n - i) : ((tab (o + n) (rvH h o n i)).set (o + i) (h (o + (n - 1 - i)))).set (o + (n - 1 - i)) (h (o + i)) = tab (o + n) (rvH h o n (i + 1)) := by
  rw [tab_set, tab_set]
  apply tab_congr
  intro j hj
  unfold rvH
  by_cases e1 : j = o + (n - 1 - i)
  · subst e1
    rw [if_pos rfl, if_pos (by omega)]
    congr 1; omega
  · rw [if_neg e1]
    by_cases e2 : j = o + i
    · subst e2
      rw [if_pos rfl, if_pos (by omega)]
      congr 1; omega
    · rw [if_neg e2]
      by_cases e3 : o ≤ j ∧ (j < o + i ∨ o + n ≤ j + i)
      · rw [if_pos e3, if_pos (by omega)]
      · rw [if_neg e3, if_neg (by omega)]
theorem rvH_zero (h : Nat → Int) (o n : Nat) : tab (o + n) (rvH h o n 0) = tab (o + n) h := by
  apply tab_congr
  intro j hj
  unfold rvH
  rw [if_neg (by omega)]
theorem rvH_all (h : Nat → Int) (o n i : Nat) (hi : n ≤ 2 * i + 1) (hi2 : i ≤ n) : tab (o + n) (rvH h o n i) = tab (o + n) (fun j => if o ≤ j then h (o + (o + n - 1 - j)) else h j) := by
  apply tab_congr
  intro j hj
  unfold rvH
  by_cases e : o ≤ j
  · by_cases e3 : j < o + i ∨ o + n ≤ j + i
    · rw [if_pos ⟨e, e3⟩, if_pos e]
    · rw [if_neg (fun h => e3 h.2), if_pos e]
      congr 1; omega
  · rw [if_neg (fun h => e h.1), if_neg e]
theorem Touch.put {lo hi : Nat} {a w : World} (h : Touch lo hi a w) {x : Addr} (h1 : lo ≤ x.block) (h2 : x.block < hi) (u : Value) : Touch lo hi a (w.setCell x u) :=
  h.trans ⟨rfl, rfl, rfl, by simp, fun k hk hd => Below.heap_setCell _ _ _ _ (by omega)⟩
theorem Touch.dr {lo hi : Nat} {a w : World} (h : Touch lo hi a w) : Touch lo hi a w.drew := h.trans ⟨rfl, rfl, rfl, Nat.le_refl _, fun _ _ _ => rfl⟩
set_option maxRecDepth 100000 in
set_option maxHeartbeats 800000 in
theorem reverse_small (a : Option Addr) (n c : Nat) (w : World) (hn : n ≤ 1) :
    Calls Try.prog 87 #[.slice a n c] w fun e w' => e = .returned (.tuple #[]) ∧ w = w' := by
  have hc : n = 0 ∨ n = 1 := by omega
  rcases hc with rfl | rfl
  · go_enter Try.func87, Try.ntmps87
    go_wp2
    refine wp_loop_rounds 1 ?_
    rw [rounds_succ]
    go_wp2

    refine bodyPost_end (v := .tuple #[]) (by simp [results, Try.results87]) rfl ?_
    exact ⟨rfl, rfl⟩
  · go_enter Try.func87, Try.ntmps87
    go_wp2
    refine wp_loop_rounds 1 ?_
    rw [rounds_succ]
    go_wp2
    refine bodyPost_end (v := .tuple #[]) (by simp [results, Try.results87]) rfl ?_
    exact ⟨rfl, rfl⟩
set_option maxRecDepth 100000 in
set_option maxHeartbeats 1600000 in
theorem reverse_any (B g o n cap c : Nat) (h : Nat → Int) (w : World) (ho : Own B w (some ⟨g, 0, none⟩) cap (tab (o + n) h)) (hn : 2 ≤ n) (hn2 : n ≤ 1000) (ho2 : o ≤ 1000) :
    Calls Try.prog 87 #[.slice (some ⟨g, o, none⟩) n c] w fun e w' => e = .returned (.tuple #[]) ∧ Own B w' (some ⟨g, 0, none⟩) cap (tab (o + n) (fun j => if o ≤ j then h (o + (o + n - 1 - j)) else h j)) ∧ Touch g (g + 1) w w' := by
  have ho0 : Hid (Own B w (some ⟨g, 0, none⟩) cap (tab (o + n) (rvH h o n 0))) := hide (by rw [rvH_zero]; exact ho)
  clear ho
  have hg0 : Touch g (g + 1) w w := ⟨rfl, rfl, rfl, Nat.le_refl _, fun _ _ _ => rfl⟩
  go_enter Try.func87, Try.ntmps87
  go_wp2
  go_loopw [2, 3] (fun iv jv wr => ∃ i : Nat, 2 * i ≤ n ∧ iv = .int .i64 i ∧ jv = .int .i64 ((n : Int) - 1 - i) ∧ Hid (Own B wr (some ⟨g, 0, none⟩) cap (tab (o + n) (rvH h o n i))) ∧ Touch g (g + 1) w wr) (fun iv _ _ => n - (intOf iv).toNat)
  case atStart => exact ⟨0, by omega, rfl, by go_num, ho0, hg0⟩
  case round =>
    obtain ⟨i, hi, rfl, rfl, hO, ht⟩ := hrel
    clear ho0 hg0
    by_cases hlt : (i : Int) < (n : Int) - 1 - i
    · obtain ⟨k, hk⟩ : ∃ k : Nat, k = n - 1 - i := ⟨_, rfl⟩
      have hki : (n : Int) - 1 - i = (k : Int) := by omega
      have c1 := Own.cellG hO.out (o + i) (by rw [tab_len]; omega)
      have c2 := Own.cellG hO.out (o + k) (by rw [tab_len]; omega)
      rw [tab_at _ _ _ (by omega), show rvH h o n i (o + i) = h (o + i) by unfold rvH; rw [if_neg (by omega)]] at c1
      rw [tab_at _ _ _ (by omega), show rvH h o n i (o + k) = h (o + k) by unfold rvH; rw [if_neg (by omega)]] at c2
      have f1 := Own.freeG hO.out (o + i)
      have f2 := Own.freeG hO.out (o + k)
      have hs := hide (Own.setG (Own.setG hO.out (o + i) (h (o + k))) (o + k) (h (o + i)))
      have e := rvH_step h o n i (by omega)
      rw [← hk] at e
      rw [e] at hs
      obtain ⟨X, hX⟩ : ∃ X, h (o + i) = X := ⟨_, rfl⟩
      obtain ⟨Y, hY⟩ : ∃ Y, h (o + k) = Y := ⟨_, rfl⟩
      rw [hX] at c1 hs
      rw [hY] at c2 hs
      rw [hki] at hlt ⊢
      have q1 : (i : Int) < (n : Int) := by omega
      have q2 : (k : Int) < (n : Int) := by omega
      have q3 : ¬ (k : Int) < 0 := by omega
      have q4 : (0 : Int) ≤ (k : Int) := by omega
      have q5 : (0 : Int) ≤ (i : Int) := by omega
      have v1 : IntKind.i64.wrap ((k : Int) - 1) = (k : Int) - 1 := IntWalk.i64_in _ (by omega)
      have q6 : o + k ≠ o + i := by omega
      have q7 : o + i ≠ o + k := by omega
      have Hk := hide hk
      clear hX hY e hO hk hki
      go_wp2_with fail
      go_region
      all_goals go_wp2
      all_goals go_roundw
      all_goals first
        | exact ⟨i + 1, by have := Hk.out; omega, by go_num, by rw [show ((n : Int) - 1 - ((i + 1 : Nat) : Int)) = (k : Int) - 1 by have := Hk.out; omega], hide (hs.out.below ((Below.refl _ _).drew)), ((ht.put (by simp) (by simp) _).put (by simp) (by simp) _).dr⟩
        | (simp [intOf]; omega)
    · have e := rvH_all h o n i (by omega) (by omega)
      have hO2 := hO.out
      rw [e] at hO2
      have HO := hide hO2
      clear hO hO2 e
      go_wp2

      refine bodyPost_end (v := .tuple #[]) (by simp [results, Try.results87]) rfl ?_
      exact ⟨rfl, HO.out, ht⟩
end Go.Proofs.Ytpoabedlcljibaa
