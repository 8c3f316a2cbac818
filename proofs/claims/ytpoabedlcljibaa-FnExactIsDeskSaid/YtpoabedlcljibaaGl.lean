/- Contracts of the laws' own helpers: toInt64S, eqInt64S, markInt64S, heldInt64S. -/
import Derived.Test.YtpoabedlcljibaaSl
import Derived.Deep.QuietTactic
import Derived.BigQuiet
namespace Go.Proofs.Ytpoabedlcljibaa
open Go.RowKit
set_option linter.unusedVariables false
set_option linter.unusedSimpArgs false

theorem SL.at {w : World} {a : Option Addr} {n cap : Nat} {xs : List Int} (h : SL w a n cap xs) (hn : 0 < n) : ∃ b off, a = some ⟨b, off, none⟩ ∧ b < w.heap.size ∧ ∀ j, j < n → w.cell? ⟨b, off + j, none⟩ = some (.int .i64 (xs.getD j 0)) := by
  rcases h.2.2 with h0 | ⟨b, off, ha, hc⟩
  · omega
  · exact ⟨b, off, ha, World.block_lt_of_cell? w _ (hc 0 hn), hc⟩
theorem set_mix (xs : List Int) (n k : Nat) (hk : k < n) (hl : xs.length = n) : (xs.take k ++ List.replicate (n - k) 0).set k (xs.getD k 0) = xs.take (k + 1) ++ List.replicate (n - (k + 1)) 0 := by
  apply List.ext_getElem?
  intro i
  rw [List.getElem?_set]
  have h1 : (xs.take k).length = k := by simp; omega
  have h2 : (xs.take (k + 1)).length = k + 1 := by simp; omega
  by_cases hi : k = i
  · rw [← hi, if_pos rfl, if_pos (by simp; omega), List.getElem?_append_left (by omega), List.getElem?_take, if_pos (by omega), List.getElem?_eq_getElem (by omega)]
    simp [show k < xs.length by omega]
  · rw [if_neg hi]
    by_cases hlt : i < k
    · rw [List.getElem?_append_left (by omega), List.getElem?_append_left (by omega), List.getElem?_take, List.getElem?_take, if_pos hlt, if_pos (by omega)]
    · rw [List.getElem?_append_right (by omega), List.getElem?_append_right (by omega), List.getElem?_replicate, List.getElem?_replicate, h1, h2]
      by_cases hz : i < n
      · rw [if_pos (by omega), if_pos (by omega)]
      · rw [if_neg (by omega), if_neg (by omega)]
theorem mix_len (xs : List Int) (n k : Nat) (hk : k ≤ n) (hl : xs.length = n) : (xs.take k ++ List.replicate (n - k) 0).length = n := by simp; omega

set_option maxHeartbeats 800000 in
theorem toI (a : Option Addr) (n cap : Nat) (xs : List Int) (w : World) (hs : SL w a n cap xs) (hn : n ≤ 1048576) :
    Calls Try.prog 33 #[.slice a n cap] w fun e w' => ∃ a', e = .returned (.slice a' n n) ∧ Own w.heap.size w' a' n xs ∧ Below w.heap.size w w' := by
  have hl := hide hs.len
  by_cases h0 : n = 0
  · subst h0
    obtain rfl := hs.empty
    go_enter Try.func33, Try.ntmps33
    go_wp2_with (at_make; refine wp_make rfl _ _ rfl _ _ 0 rfl rfl rfl rfl (by omega) ?_; intro w1 hrow hb hsz)
    refine wp_loop_rounds 1 ?_
    rw [rounds_succ]
    go_wp2
    go_ret
    exact ⟨_, rfl, (hrow.out.own' (Nat.le_refl _) (by simp)), hb⟩
  obtain ⟨b, off, rfl, hbw, hcell⟩ := hs.at (by omega)
  go_enter Try.func33, Try.ntmps33
  go_wp2_with (at_make; refine wp_make rfl _ _ rfl _ _ n rfl rfl rfl rfl (by omega) ?_; intro w1 hrow hb hsz)
  go_loopw [4] (fun i wr => ∃ k : Nat, k ≤ n ∧ i = .int .i64 k ∧ Hid (RowI wr w.heap.size (xs.take k ++ List.replicate (n - k) 0)) ∧ Below w.heap.size w wr ∧ w.heap.size < wr.heap.size) (fun i _ => n - (intOf i).toNat)
  case atStart => exact ⟨0, by omega, rfl, by simpa using hrow, hb, hsz⟩
  case round =>
    obtain ⟨k, hk, rfl, hR, hbr, hsr⟩ := hrel
    clear hrow hb
    by_cases hlt : k < n
    · have hc : wr.cell? ⟨b, off + k, none⟩ = some (.int .i64 (xs.getD k 0)) := (hbr.cell (p := ⟨b, off + k, none⟩) hbw).trans (hcell k hlt)
      have hm := Lib.hid (mix_len xs n k hk hl.out)
      have hg : ∃ v, wr.cell? ⟨w.heap.size, k, none⟩ = some v := ⟨_, hR.out.cell k (by rw [hm.out]; exact hlt)⟩
      obtain ⟨v, hg⟩ := hg
      have hf := hR.out.free k
      have hset := Lib.hid (hR.out.set k (xs.getD k 0))
      clear hcell
      go_wp2
      go_roundw
      case rel => exact ⟨k + 1, by omega, by go_num, by
        have := hset.out
        rw [set_mix xs n k hlt hl.out] at this
        simpa using hide this, hbr.setCell (by simp) _, by simpa using hsr⟩
      case measure => simp [intOf]; omega
    · obtain rfl : k = n := by omega
      have ho : Own w.heap.size wr (some ⟨w.heap.size, 0, none⟩) k xs := by
        have h1 : xs.take k ++ List.replicate (k - k) 0 = xs := by rw [List.take_of_length_le (by rw [hl.out]; omega)]; simp
        have h2 := hR.out
        rw [h1] at h2
        have h3 := h2.own' (Nat.le_refl _) (by rw [hl.out]; unfold maxLen; omega)
        rwa [hl.out] at h3
      go_wp2
      go_ret
      exact ⟨_, rfl, ho, hbr⟩
set_option maxHeartbeats 800000 in
theorem eqI (a b : Option Addr) (n c d : Nat) (xs : List Int) (w : World) (h1 : SL w a n c xs) (h2 : SL w b n d xs) (hn : n ≤ 4000000) :
    Calls Try.prog 18 #[.slice a n c, .slice b n d] w fun e w' => e = .returned (.bool true) ∧ Below w.heap.size w w' := by
  by_cases h0 : n = 0
  · subst h0
    go_enter Try.func18, Try.ntmps18
    go_wp2
    refine wp_loop_rounds 1 ?_
    rw [rounds_succ]
    go_wp2
    go_ret
    exact ⟨rfl, Below.refl _ _⟩
  obtain ⟨b1, o1, rfl, hb1, hc1⟩ := h1.at (by omega)
  obtain ⟨b2, o2, rfl, hb2, hc2⟩ := h2.at (by omega)
  clear h1 h2
  go_enter Try.func18, Try.ntmps18
  go_wp2
  go_loopw [5] (fun i wr => ∃ k : Nat, k ≤ n ∧ i = .int .i64 k ∧ Below w.heap.size w wr) (fun i _ => n - (intOf i).toNat)
  case atStart => exact ⟨0, by omega, rfl, Below.refl _ _⟩
  case round =>
    obtain ⟨k, hk, rfl, hbr⟩ := hrel
    by_cases hlt : k < n
    · have e1 : wr.cell? ⟨b1, o1 + k, none⟩ = some (.int .i64 (xs.getD k 0)) := (hbr.cell (p := ⟨b1, o1 + k, none⟩) hb1).trans (hc1 k hlt)
      have e2 : wr.cell? ⟨b2, o2 + k, none⟩ = some (.int .i64 (xs.getD k 0)) := (hbr.cell (p := ⟨b2, o2 + k, none⟩) hb2).trans (hc2 k hlt)
      clear hc1 hc2
      have hlt' : (k : Int) < (n : Int) := by omega
      go_wp2
      go_quiet (fail)
      go_wp2
      go_roundw
      case rel => exact ⟨k + 1, by omega, by go_num, below_drewN hbr _⟩
      case measure => simp [intOf]; omega
    · obtain rfl : k = n := by omega
      go_wp2
      go_ret
      exact ⟨rfl, hbr⟩
def marks (k : Int) (n : Nat) : List Int := (List.range n).map (fun (j : Nat) => k + (j : Int))
theorem marks_len (k : Int) (n : Nat) : (marks k n).length = n := by simp [marks]
theorem marks_at (k : Int) (n j : Nat) (h : j < n) : (marks k n).getD j 0 = k + j := by simp [marks, h]
set_option maxHeartbeats 800000 in
theorem heldI (a : Option Addr) (n c : Nat) (k0 : Int) (w : World) (h1 : SL w a n c (marks k0 n)) (hn : n ≤ 4000000) (hk0 : 0 ≤ k0) (hk1 : k0 ≤ 1000000000000) :
    Calls Try.prog 24 #[.slice a n c, .int .i64 k0] w fun e w' => e = .returned (.int .i64 (k0 + n)) ∧ w = w' := by
  by_cases h0 : n = 0
  · subst h0
    go_enter Try.func24, Try.ntmps24
    go_wp2
    refine wp_loop_rounds 1 ?_
    rw [rounds_succ]
    go_wp2
    go_ret
    exact ⟨ret_int (by simp), rfl⟩
  obtain ⟨b1, o1, rfl, hb1, hc1⟩ := h1.at (by omega)
  clear h1
  go_enter Try.func24, Try.ntmps24
  go_wp2
  go_loop [1, 5] (fun q i => ∃ k : Nat, k ≤ n ∧ i = .int .i64 k ∧ q = .int .i64 (k0 + k)) (fun _ i => n - (intOf i).toNat)
  case atStart => exact ⟨0, by omega, rfl, by simp⟩
  case round =>
    obtain ⟨k, hk, rfl, rfl⟩ := hrel
    by_cases hlt : k < n
    · have e1 : w.cell? ⟨b1, o1 + k, none⟩ = some (.int .i64 (k0 + k)) := by rw [hc1 k hlt, marks_at _ _ _ hlt]
      clear hc1
      go_wp2
      go_round
      case rel => exact ⟨k + 1, by omega, by go_num, by go_num⟩
      case measure => simp [intOf]; omega
    · obtain rfl : k = n := by omega
      go_wp2
      go_ret
      exact ⟨rfl, rfl⟩
theorem grown_trans {a b c : World} {row : Option Nat} (h : a.grownBy b row) (k : b.grownBy c row) : a.grownBy c row :=
  ⟨k.os.trans h.os, k.tape.trans h.tape, k.output.trans h.output, Nat.le_trans h.size k.size, fun i hi hne => (k.block i (Nat.lt_of_lt_of_le hi h.size) hne).trans (h.block i hi hne)⟩
theorem grown_refl (a : World) (row : Option Nat) : a.grownBy a row := ⟨rfl, rfl, rfl, Nat.le_refl _, fun _ _ _ => rfl⟩
theorem set_marks (k0 : Int) (ys : List Int) (k : Nat) (hk : k < ys.length) : (marks k0 k ++ ys.drop k).set k (k0 + k) = marks k0 (k + 1) ++ ys.drop (k + 1) := by
  apply List.ext_getElem?
  intro i
  rw [List.getElem?_set]
  have h1 : (marks k0 k).length = k := marks_len _ _
  have h2 : (marks k0 (k + 1)).length = k + 1 := marks_len _ _
  by_cases hi : k = i
  · rw [← hi, if_pos rfl, if_pos (by simp [h1]; omega), List.getElem?_append_left (by omega)]
    simp [marks]
  · rw [if_neg hi]
    by_cases hlt : i < k
    · rw [List.getElem?_append_left (by omega), List.getElem?_append_left (by omega)]
      simp [marks, hlt, show i < k + 1 by omega]
    · rw [List.getElem?_append_right (by omega), List.getElem?_append_right (by omega), List.getElem?_drop, List.getElem?_drop, h1, h2]
      congr 1
      omega
/-- The block that a slice value lies in. -/
def blk : Option Addr → Option Nat
  | some a => some a.block
  | none => none
set_option maxHeartbeats 800000 in
theorem markI (B : Nat) (a : Option Addr) (n c : Nat) (ys : List Int) (k0 : Int) (w : World) (h1 : Own B w a c ys) (hl : n = ys.length) (hn : n ≤ 4000000) (hk0 : 0 ≤ k0) (hk1 : k0 ≤ 1000000000000) :
    Calls Try.prog 21 #[.slice a n c, .int .i64 k0] w fun e w' => e = .returned (.int .i64 (k0 + n)) ∧ Own B w' a c (marks k0 n) ∧ w.grownBy w' (blk a) := by
  by_cases h0 : n = 0
  · have hy : ys = [] := List.eq_nil_of_length_eq_zero (by omega)
    subst hy
    subst h0
    clear hl
    go_enter Try.func21, Try.ntmps21
    go_wp2
    refine wp_loop_rounds 1 ?_
    rw [rounds_succ]
    go_wp2
    go_ret
    exact ⟨ret_int (by simp), h1, grown_refl _ _⟩
  have hH := hide hl
  clear hl
  rcases h1.shape with ⟨rfl, rfl, rfl⟩ | ⟨g, cur, rfl, hBg, hg, hyc, hcm, hcs, htk⟩
  · exact absurd hH.out (by simpa using h0)
  have hown : w.ownsRow B 2 1 (.slice (some ⟨g, 0, none⟩) n c) n (ys.map (Value.int .i64)) := by have := h1; unfold Own at this; rwa [← hH.out] at this
  clear h1 hg hcs htk hyc hcm
  go_enter Try.func21, Try.ntmps21
  go_wp2
  go_loopw [1, 5] (fun q i wr => ∃ k : Nat, k ≤ n ∧ i = .int .i64 k ∧ q = .int .i64 (k0 + k) ∧ Hid (wr.ownsRow B 2 1 (.slice (some ⟨g, 0, none⟩) n c) n ((marks k0 k ++ ys.drop k).map (Value.int .i64))) ∧ w.grownBy wr (some g)) (fun _ i _ => n - (intOf i).toNat)
  case atStart => exact ⟨0, by omega, rfl, by simp, by simpa [marks] using hide hown, grown_refl _ _⟩
  case round =>
    obtain ⟨k, hk, rfl, rfl, hR, hgr⟩ := hrel
    clear hown
    by_cases hlt : k < n
    · have hm : (marks k0 k ++ ys.drop k).length = n := by simp [marks]; have := hH.out; omega
      have hcx : ∃ v, wr.cell? ⟨g, k, none⟩ = some v := by
        rw [hR.out.cellAt k (by omega)]
        exact ⟨_, List.getElem?_eq_getElem (by simp [marks]; have := hH.out; omega)⟩
      obtain ⟨v, hcx⟩ := hcx
      have hf := hR.out.frozenAt k
      have hset := Lib.hid (hR.out.stored k (.int .i64 (k0 + k)))
      clear hm
      go_wp2
      go_roundw
      case rel => exact ⟨k + 1, by omega, by go_num, by go_num, by
        have := hset.out.1
        rw [← List.map_set, set_marks k0 ys k (by have := hH.out; omega)] at this
        exact this, grown_trans hgr hset.out.2⟩
      case measure => simp [intOf]; omega
    · obtain rfl : k = n := by omega
      have hfin : Own B wr (some ⟨g, 0, none⟩) c (marks k0 k) := by
        unfold Own
        rw [marks_len]
        have := hR.out
        rwa [List.drop_of_length_le (by have := hH.out; omega), List.append_nil] at this
      go_wp2
      go_ret
      exact ⟨rfl, hfin, hgr⟩
end Go.Proofs.Ytpoabedlcljibaa
