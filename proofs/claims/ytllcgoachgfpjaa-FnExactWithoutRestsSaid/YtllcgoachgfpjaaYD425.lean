/- Merged texts. -/
import Derived.Test.YtllcgoachgfpjaaYD424
import Derived.BigRegion
import Derived.Test.YtllcgoachgfpjaaYD418
import Derived.Test.YtllcgoachgfpjaaYD42
import Derived.Test.YtllcgoachgfpjaaYD421
import Derived.Deep.AppendLies
import Derived.Deep.RegionHeld3
import Derived.Deep.DrawnRows
/- Contract: slices.Reverse at []int64, on an owned row or on the rest of one. -/
namespace Go.Proofs.Ytllcgoachgfpjaa
open Go.RowKit
set_option linter.unusedVariables false
set_option linter.unusedSimpArgs false

/-- The numbers from o on, n of them, the first i and the last i of which are exchanged. -/
def rvH (h : Nat → Int) (o n i : Nat) : Nat → Int := fun j => if o ≤ j ∧ (j < o + i ∨ o + n ≤ j + i) then h (o + (o + n - 1 - j)) else h j
theorem rvH_step (h : Nat → Int) (o n i : Nat) (hi : i + 1 < n - i) : ((tab (o + n) (rvH h o n i)).set (o + i) (h (o + (n - 1 - i)))).set (o + (n - 1 - i)) (h (o + i)) = tab (o + n) (rvH h o n (i + 1)) := by
  rw [tab_set, tab_set]
  apply tab_congr
  intro j hj
  unfold rvH
  by_cases e1 : j = o + (n - 1 - i)
  · subst e1
    rw [if_pos rfl, if_pos (by omega)]
    congr 1; omega
  · rw [if_neg e1]
    by_cases e2 : j = o + i
    · subst e2
      rw [if_pos rfl, if_pos (by omega)]
      congr 1; omega
    · rw [if_neg e2]
      by_cases e3 : o ≤ j ∧ (j < o + i ∨ o + n ≤ j + i)
      · rw [if_pos e3, if_pos (by omega)]
      · rw [if_neg e3, if_neg (by omega)]
theorem rvH_zero (h : Nat → Int) (o n : Nat) : tab (o + n) (rvH h o n 0) = tab (o + n) h := by
  apply tab_congr
  intro j hj
  unfold rvH
  rw [if_neg (by omega)]
theorem rvH_all (h : Nat → Int) (o n i : Nat) (hi : n ≤ 2 * i + 1) (hi2 : i ≤ n) : tab (o + n) (rvH h o n i) = tab (o + n) (fun j => if o ≤ j then h (o + (o + n - 1 - j)) else h j) := by
  apply tab_congr
  intro j hj
  unfold rvH
  by_cases e : o ≤ j
  · by_cases e3 : j < o + i ∨ o + n ≤ j + i
    · rw [if_pos ⟨e, e3⟩, if_pos e]
    · rw [if_neg (fun h => e3 h.2), if_pos e]
      congr 1; omega
  · rw [if_neg (fun h => e h.1), if_neg e]
theorem Touch.put {lo hi : Nat} {a w : World} (h : Touch lo hi a w) {x : Addr} (h1 : lo ≤ x.block) (h2 : x.block < hi) (u : Value) : Touch lo hi a (w.setCell x u) :=
  h.trans ⟨rfl, rfl, rfl, by simp, fun k hk hd => Below.heap_setCell _ _ _ _ (by omega)⟩
theorem Touch.dr {lo hi : Nat} {a w : World} (h : Touch lo hi a w) : Touch lo hi a w.drew := h.trans ⟨rfl, rfl, rfl, Nat.le_refl _, fun _ _ _ => rfl⟩
end Go.Proofs.Ytllcgoachgfpjaa
/- Contracts: addList, AddMoments (program). -/
namespace Go.Proofs.Ytllcgoachgfpjaa
open Go.RowKit
set_option linter.unusedVariables false
set_option linter.unusedSimpArgs false

/-- The first m numbers of a sum. -/
def alH (p k : Int) (xs ys : List Int) (m : Nat) : Nat → Int := fun j => if j < m then (xs.getD j 0 + k * ys.getD j 0) % p else 0
theorem alH_step (p k : Int) (xs ys : List Int) (N m : Nat) : (tab N (alH p k xs ys m)).set m ((xs.getD m 0 + k * ys.getD m 0) % p) = tab N (alH p k xs ys (m + 1)) := by
  rw [tab_set]
  apply tab_congr
  intro j _
  unfold alH
  by_cases e : j = m
  · subst e; simp
  · rw [if_neg e]
    by_cases h : j < m
    · rw [if_pos h, if_pos (by omega)]
    · rw [if_neg h, if_neg (by omega)]
theorem alH_all (p k : Int) (xs ys : List Int) (N : Nat) (h : xs.length = N) : tab N (alH p k xs ys N) = addlM p k xs ys := by
  unfold addlM
  rw [h]
  apply tab_congr
  intro j hj
  unfold alH
  rw [if_pos hj]
theorem addlM_nil (p k : Int) (ys : List Int) : addlM p k [] ys = [] := rfl
set_option maxRecDepth 100000 in
set_option maxHeartbeats 1600000 in
theorem addList_any (p k : Int) (a1 : Option Addr) (n1 c1 : Nat) (xs : List Int) (a2 : Option Addr) (n2 c2 : Nat) (ys : List Int) (w : World) (h1 : SL w a1 n1 c1 xs) (h2 : SL w a2 n2 c2 ys)
    (b1 : n1 ≤ 1000) (hn : n1 ≤ n2) (hp : 2 ≤ p) (hp2 : p ≤ 10007) (hk0 : 0 ≤ k) (hk1 : k < p) (hx : areB p xs = true) (hy : areB p ys = true) :
    Calls Try.prog 67 #[.int .i64 p, .slice a1 n1 c1, .int .i64 k, .slice a2 n2 c2] w fun e w' => ∃ a', e = .returned (.slice a' n1 n1) ∧ Own w.heap.size w' a' n1 (addlM p k xs ys) ∧ Below w.heap.size w w' := by
  have hl1 := hide h1.len
  have Hx := hide hx
  have Hy := hide hy
  clear hx hy
  by_cases h0 : n1 = 0
  · subst h0
    obtain rfl := h1.empty
    go_enter Try.func67, Try.ntmps67
    go_wp2_with (at_make; refine wp_make rfl _ _ rfl _ _ 0 rfl rfl rfl rfl (by omega) ?_; intro w1 hrow hb hsz)
    refine wp_loop_rounds 1 ?_
    rw [rounds_succ]
    go_wp2
    go_ret
    exact ⟨_, rfl, (hrow.out.own' (Nat.le_refl _) (by simp)), hb⟩
  obtain ⟨b, off, rfl, hbw, hcell⟩ := h1.at (by omega)
  obtain ⟨b', off', rfl, hbw', hcell'⟩ := h2.at (by omega)
  clear h1 h2
  go_enter Try.func67, Try.ntmps67
  go_wp2_with (at_make; refine wp_make rfl _ _ rfl _ _ n1 rfl rfl rfl rfl (by omega) ?_; intro w1 hrow hb hsz)
  have hrow2 : Hid (RowI w1 w.heap.size (tab n1 (alH p k xs ys 0))) := hide (by
    have := hrow.out
    rw [tab_zero] at this
    have e : tab n1 (alH p k xs ys 0) = tab n1 (fun _ => 0) := tab_congr (fun j _ => by simp [alH])
    rwa [e])
  clear hrow
  go_loopw [17] (fun i wr => ∃ m : Nat, m ≤ n1 ∧ i = .int .i64 m ∧ Hid (RowI wr w.heap.size (tab n1 (alH p k xs ys m))) ∧ Below w.heap.size w wr ∧ w.heap.size < wr.heap.size) (fun i _ => n1 - (intOf i).toNat)
  case atStart => exact ⟨0, by omega, rfl, hrow2, hb, hsz⟩
  case round =>
    obtain ⟨m, hm, rfl, hR, hbr, hsr⟩ := hrel
    clear hrow2 hb hsz
    by_cases hlt : m < n1
    · have e1 : wr.cell? ⟨b, off + m, none⟩ = some (.int .i64 (xs.getD m 0)) := cell_be hbr (hcell m hlt)
      have e2 : wr.cell? ⟨b', off' + m, none⟩ = some (.int .i64 (ys.getD m 0)) := cell_be hbr (hcell' m (by omega))
      have e3 := hR.out.cell m (by rw [tab_len]; omega)
      have hfr := hR.out.free m
      have hset := hR.out.set m ((xs.getD m 0 + k * ys.getD m 0) % p)
      rw [alH_step] at hset
      have r1 := getD_rng Hx.out hp m
      have r2 := getD_rng Hy.out hp m
      obtain ⟨x, hx⟩ : ∃ x, xs.getD m 0 = x := ⟨_, rfl⟩
      obtain ⟨y, hy⟩ : ∃ y, ys.getD m 0 = y := ⟨_, rfl⟩
      rw [hx] at e1 hset r1
      rw [hy] at e2 hset r2
      have Hset := hide hset
      clear hset hcell hcell' hx hy
      have hlt' : (m : Int) < (n1 : Int) := by omega
      have hlt2 : (m : Int) < (n2 : Int) := by omega
      go_wp2_with (go_at_call 66; refine (addNumber_any p x k y _ hp hp2 r1.1 r1.2 hk0 hk1 r2.1 r2.2).mono ?_; rintro e w' ⟨rfl, rfl⟩)
      go_roundw
      case rel => exact ⟨m + 1, by omega, by go_num, Hset, hbr.setCell (by simp) _, by simpa using hsr⟩
      case measure => simp [intOf]; omega
    · obtain rfl : m = n1 := by omega
      have ho : Own w.heap.size wr (some ⟨w.heap.size, 0, none⟩) m (addlM p k xs ys) := by
        have h2 := hR.out
        rw [alH_all _ _ _ _ _ hl1.out] at h2
        have h3 := h2.own' (Nat.le_refl _) (by rw [addlM_len, hl1.out]; unfold maxLen; omega)
        rwa [addlM_len, hl1.out] at h3
      clear hcell hcell'
      go_wp2
      go_ret
      exact ⟨_, rfl, ho, hbr⟩
def adC (p : Int) (xs : List Int) (q : Int) (ys : List Int) (k : Int) : Int := if momB p xs && momB q ys then (if p = q ∧ xs.length = ys.length ∧ 0 ≤ k ∧ k < p then 0 else 2) else 1
def adV (p : Int) (xs : List Int) (q : Int) (ys : List Int) (k : Int) : List Int := if adC p xs q ys k = 0 then addlM p k xs ys else []
def adP (p : Int) (xs : List Int) (q : Int) (ys : List Int) (k : Int) : Int := if adC p xs q ys k = 0 then p else 0
end Go.Proofs.Ytllcgoachgfpjaa
