/- Contracts: timesX, expandBy (program), l10Expand (model). -/
import Derived.Test.YtgaafhcnfeipbaaBa
import Derived.Test.YtgaafhcnfeipbaaRf
import Derived.Test.YtgaafhcnfeipbaaXc
namespace Go.Proofs.Ytgaafhcnfeipbaa
open Go.RowKit
set_option linter.unusedVariables false
set_option linter.unusedSimpArgs false

theorem SL.otherE {w : World} {a : Option Addr} {n c g j : Nat} {xs : List Int} (h : SL w a n c xs) (hne : blk a ≠ some g) (u : Value) : SL (w.setCell ⟨g, j, none⟩ u) a n c xs := by
  obtain ⟨h1, h2, h3⟩ := h
  refine ⟨h1, h2, ?_⟩
  rcases h3 with h3 | ⟨b, off, rfl, hc⟩
  · exact .inl h3
  · refine .inr ⟨b, off, rfl, fun i hi => cell_set2 (hc i hi) (fun e => hne ?_) u⟩
    simp [blk] at e ⊢
    exact e.symm
/-- the numbers of the product by x behind k rounds -/
def tmH (p : Int) (xs ys f : List Int) (k j : Nat) : Int := ((if j = 0 then 0 else f.getD (j - 1) 0) + (if j < k then xs.getD j 0 * f.getD j 0 else 0) + (if j + 1 < k then ys.getD (j + 1) 0 * f.getD (j + 1) 0 else 0)) % p
theorem tmH_zero {p : Int} (hp : 2 ≤ p) (xs ys : List Int) {f : List Int} (hf : areB p f = true) : tab (f.length + 1) (tmH p xs ys f 0) = 0 :: f := by
  apply ext_tab
  · rw [tab_len, List.length_cons]
  · intro j hj
    rw [tab_len] at hj
    rw [tab_at _ _ _ hj]
    unfold tmH
    rw [if_neg (show ¬ j < 0 by omega), if_neg (show ¬ j + 1 < 0 by omega), Int.add_zero, Int.add_zero]
    cases j with
    | zero => rw [if_pos rfl]; simp
    | succ j =>
      rw [if_neg (by omega), Nat.add_sub_cancel]
      have := getD_rng hf hp j
      rw [Int.emod_eq_of_lt this.1 this.2]
      simp
theorem tmH_end (p : Int) (xs ys f : List Int) : tab (f.length + 1) (tmH p xs ys f f.length) = tmxL p xs ys f := by
  unfold tmxL
  apply tab_congr
  intro j hj
  unfold tmH tmx shF cf
  have far : ∀ i, f.length ≤ i → f.getD i 0 = 0 := fun i h => by rw [List.getD_eq_getElem?_getD, List.getElem?_eq_none h]; rfl
  congr 1
  congr 1
  · congr 1
    by_cases h : j < f.length
    · rw [if_pos h]
    · rw [if_neg h, far j (by omega), Int.mul_zero]
  · by_cases h : j + 1 < f.length
    · rw [if_pos h]
    · rw [if_neg h, far (j + 1) (by omega), Int.mul_zero]
theorem tmH_one (p : Int) (xs ys f : List Int) (N k : Nat) (hk : k < N) (R : Int) (hR : (tab N (tmH p xs ys f k)).getD k 0 = R) : (tab N (tmH p xs ys f k)).set k ((R + f.getD k 0 * xs.getD k 0) % p) = tab N (fun j => if j = k then tmH p xs ys f (k + 1) k else tmH p xs ys f k j) := by
  apply ext_tab
  · rw [List.length_set, tab_len, tab_len]
  · intro j hj
    rw [List.length_set, tab_len] at hj
    rw [tab_at _ _ _ hj, getD_setI, tab_len]
    by_cases e : j = k
    · subst e
      rw [if_pos ⟨rfl, hj⟩, if_pos rfl, ← hR, tab_at _ _ _ hj]
      unfold tmH
      rw [if_neg (show ¬ j < j by omega), if_neg (show ¬ j + 1 < j by omega), if_pos (show j < j + 1 by omega), if_neg (show ¬ j + 1 < j + 1 by omega), Int.emod_add_emod, Int.add_zero, Int.add_zero, Int.add_zero, Int.mul_comm]
    · rw [if_neg (fun h => e h.1), if_neg e, tab_at _ _ _ hj]
theorem tmH_two (p : Int) (xs ys f : List Int) (N k : Nat) (hk : k < N) (h0 : 0 < k) (R : Int) (hR : (tab N (fun j => if j = k then tmH p xs ys f (k + 1) k else tmH p xs ys f k j)).getD (k - 1) 0 = R) : (tab N (fun j => if j = k then tmH p xs ys f (k + 1) k else tmH p xs ys f k j)).set (k - 1) ((R + f.getD k 0 * ys.getD k 0) % p) = tab N (tmH p xs ys f (k + 1)) := by
  apply ext_tab
  · rw [List.length_set, tab_len, tab_len]
  · intro j hj
    rw [List.length_set, tab_len] at hj
    rw [tab_at _ _ _ hj, getD_setI, tab_len]
    by_cases e : j = k - 1
    · subst e
      rw [if_pos ⟨rfl, hj⟩, ← hR, tab_at _ _ _ hj, if_neg (by omega)]
      unfold tmH
      rw [if_pos (show k - 1 < k by omega), if_neg (show ¬ k - 1 + 1 < k by omega), if_pos (show k - 1 < k + 1 by omega), if_pos (show k - 1 + 1 < k + 1 by omega), Int.emod_add_emod, Int.add_zero, show k - 1 + 1 = k by omega, Int.mul_comm (f.getD k 0)]
    · rw [if_neg (fun h => e h.1), tab_at _ _ _ hj]
      by_cases e2 : j = k
      · rw [if_pos e2, e2]
      · rw [if_neg e2]
        unfold tmH
        by_cases h1 : j < k
        · rw [if_pos h1, if_pos (show j < k + 1 by omega)]
          by_cases h2 : j + 1 < k
          · rw [if_pos h2, if_pos (show j + 1 < k + 1 by omega)]
          · omega
        · rw [if_neg h1, if_neg (show ¬ j < k + 1 by omega), if_neg (show ¬ j + 1 < k by omega), if_neg (show ¬ j + 1 < k + 1 by omega)]
theorem tmH_first (p : Int) (xs ys f : List Int) (N : Nat) : tab N (fun j => if j = 0 then tmH p xs ys f (0 + 1) 0 else tmH p xs ys f 0 j) = tab N (tmH p xs ys f 1) := by
  apply tab_congr
  intro j hj
  by_cases e : j = 0
  · rw [if_pos e, e]
  · rw [if_neg e]
    unfold tmH
    rw [if_neg (show ¬ j < 0 by omega), if_neg (show ¬ j + 1 < 0 by omega), if_neg (show ¬ j < 1 by omega), if_neg (show ¬ j + 1 < 1 by omega)]
theorem tmH_rng {p : Int} (hp : 2 ≤ p) (xs ys f : List Int) (k j : Nat) : 0 ≤ tmH p xs ys f k j ∧ tmH p xs ys f k j < p := modb hp
set_option maxRecDepth 100000 in
set_option maxHeartbeats 3200000 in
theorem timesX_any (p : Int) (a : Option Addr) (n c : Nat) (xs : List Int) (b : Option Addr) (m d : Nat) (ys : List Int) (f1 : Option Addr) (q1 c1 : Nat) (f : List Int) (w : World) (hs : SL w a n c xs) (ht : SL w b m d ys) (hf : SL w f1 q1 c1 f) (hqn : q1 ≤ n) (hqm : q1 ≤ m) (hn : n ≤ 1000) (hp : 2 ≤ p) (hp2 : p ≤ 10007) (hx : areB p xs = true) (hy : areB p ys = true) (hfa : areB p f = true) :
    Calls Try.prog 81 #[jac p a n c b m d, .slice f1 q1 c1] w fun e w' => ∃ a' c', e = .returned (.slice a' (tmxL p xs ys f).length c') ∧ Own w.heap.size w' a' c' (tmxL p xs ys f) ∧ Below w.heap.size w w' := by
  have hl := hide hf.len
  have hbx := bl1 w (.cells #[.int .i64 p, .slice a n c, .slice b m d] 24)
  have hb0 := bl2 w (.cells #[.int .i64 p, .slice a n c, .slice b m d] 24) (.cells #[.int .i64 0] 2)
  have E0 := hide (show ((w.alloc (.cells #[.int .i64 p, .slice a n c, .slice b m d] 24)).alloc (.cells #[.int .i64 0] 2)).cell? ⟨w.heap.size, 0, none⟩ = some (.int .i64 p) ∧ ((w.alloc (.cells #[.int .i64 p, .slice a n c, .slice b m d] 24)).alloc (.cells #[.int .i64 0] 2)).cell? ⟨w.heap.size, 1, none⟩ = some (.slice a n c) ∧ ((w.alloc (.cells #[.int .i64 p, .slice a n c, .slice b m d] 24)).alloc (.cells #[.int .i64 0] 2)).cell? ⟨w.heap.size, 2, none⟩ = some (.slice b m d) by refine ⟨?_, ?_, ?_⟩ <;> simp [go_sem])
  have O0 : Own (w.heap.size + 1) ((w.alloc (.cells #[.int .i64 p, .slice a n c, .slice b m d] 24)).alloc (.cells #[.int .i64 0] 2)) (some ⟨w.heap.size + 1, 0, none⟩) 1 [0] := by
    have t := litOwn (w.alloc (.cells #[.int .i64 p, .slice a n c, .slice b m d] 24)) (w.heap.size + 1) (by simp) 0
    rw [show (w.alloc (.cells #[.int .i64 p, .slice a n c, .slice b m d] 24)).heap.size = w.heap.size + 1 by simp] at t
    exact t
  have s3 := hf.below hb0
  have HX := hide hx
  have HY := hide hy
  have HF := hide hfa
  have HP := hide hp
  have hB0 := hide hb0
  have zz : w.heap.size + 2 = ((w.alloc (.cells #[.int .i64 p, .slice a n c, .slice b m d] 24)).alloc (.cells #[.int .i64 0] 2)).heap.size := by simp
  clear hx hy hfa hbx hb0
  go_enter Try.func81, Try.ntmps81
  go_wp2_with (at_builtin; refine wp_append rfl _ _ rfl (w.heap.size + 1) _ 1 _ [0] rfl rfl O0 _ q1 _ f rfl s3 (by omega) (by omega) ?_; intro ad' cap' w1 hown hb1)
  have hW1 := hide (hB0.out.trans (hb1.mono (by omega)))
  have lz : ([0] ++ f).length = q1 + 1 := by rw [List.length_append, hl.out]; simp; omega
  obtain ⟨g, rfl, hg1, hg2, _⟩ := hown.blkG (by rw [lz]; omega)
  have hO1 : Hid (Own (w.heap.size + 1) w1 (some ⟨g, 0, none⟩) cap' (tab (q1 + 1) (tmH p xs ys f 0))) := hide (by
    rw [← hl.out, tmH_zero hp xs ys HF.out]
    exact hown)
  have cb : ∀ {o : Nat} {v : Value}, ((w.alloc (.cells #[.int .i64 p, .slice a n c, .slice b m d] 24)).alloc (.cells #[.int .i64 0] 2)).cell? ⟨w.heap.size, o, none⟩ = some v → w1.cell? ⟨w.heap.size, o, none⟩ = some v := fun h => (hb1.cell (Nat.lt_succ_self _)).trans h
  have E1 := hide (And.intro (cb E0.out.1) (And.intro (cb E0.out.2.1) (cb E0.out.2.2)))
  clear E0 O0 s3 hown hb1 cb hB0 zz
  rw [hl.out]
  go_wp2
  go_loopw [13] (fun iv wr => ∃ t : Nat, t ≤ q1 ∧ iv = .int .i64 t ∧ Hid (Own (w.heap.size + 1) wr (some ⟨g, 0, none⟩) cap' (tab (q1 + 1) (tmH p xs ys f t))) ∧ Hid (Below w.heap.size w wr) ∧ Hid (wr.cell? ⟨w.heap.size, 0, none⟩ = some (.int .i64 p) ∧ wr.cell? ⟨w.heap.size, 1, none⟩ = some (.slice a n c) ∧ wr.cell? ⟨w.heap.size, 2, none⟩ = some (.slice b m d))) (fun iv _ => q1 - (intOf iv).toNat)
  case atStart => exact ⟨0, by omega, rfl, hO1, hW1, E1⟩
  case round =>
    obtain ⟨t, htq, rfl, hO, hW, hE⟩ := hrel
    clear hO1 hW1 E1
    by_cases hlt : t < q1
    · have hlt' : (t : Int) < (q1 : Int) := by omega
      obtain ⟨f0, f1, f2⟩ := hE.out
      obtain ⟨b3, o3, rfl, _, hc3⟩ := (hf.below hW.out).at (by omega)
      obtain ⟨b1, o1, rfl, _, hc1⟩ := (hs.below hW.out).at (by omega)
      obtain ⟨b2, o2, rfl, _, hc2⟩ := (ht.below hW.out).at (by omega)
      have e1 := hc1 t (by omega)
      have e2 := hc2 t (by omega)
      have e3 := hc3 t hlt
      have rx := getD_rng HX.out hp t
      have ry := getD_rng HY.out hp t
      have rf := getD_rng HF.out hp t
      obtain ⟨x, hxx⟩ : ∃ x, xs.getD t 0 = x := ⟨_, rfl⟩
      obtain ⟨y, hyy⟩ : ∃ y, ys.getD t 0 = y := ⟨_, rfl⟩
      obtain ⟨z, hzz⟩ : ∃ z, f.getD t 0 = z := ⟨_, rfl⟩
      rw [hxx] at e1 rx
      rw [hyy] at e2 ry
      rw [hzz] at e3 rf
      have Hx := hide hxx
      have Hy := hide hyy
      have Hz := hide hzz
      obtain ⟨m1, m2⟩ := mulb rf.1 rf.2 rx.1 rx.2 hp2
      have hRc := hO.out.cellG t (by rw [tab_len]; omega)
      have hRf := hO.out.freeG t
      have rR := tmH_rng HP.out xs ys f t t
      obtain ⟨R, hR⟩ : ∃ R, (tab (q1 + 1) (tmH p xs ys f t)).getD t 0 = R := ⟨_, rfl⟩
      rw [show tmH p xs ys f t t = R by rw [← hR, tab_at _ _ _ (by omega)]] at rR
      rw [hR] at hRc
      have HR := hide hR
      have ix1 : (t : Int) < (q1 : Int) + 1 := by omega
      have ix2 : (t : Int) < (n : Int) := by omega
      have ix3 : (t : Int) < (m : Int) := by omega
      have zw := hW.out.size
      have zg : w.heap.size < wr.heap.size := World.block_lt_of_cell? _ _ f0
      clear hxx hyy hzz hc1 hc2 hc3 hR hE
      go_upto_region 5 with fail
      have hbd := (Below.refl wr.heap.size wr).drew
      refine region_E (fun w' => w'.cell? ⟨w.heap.size, 0, none⟩ = some (.int .i64 p) ∧ w'.cell? ⟨w.heap.size, 1, none⟩ = some (.slice (some ⟨b1, o1, none⟩) n c) ∧ w'.cell? ⟨b1, o1 + t, none⟩ = some (.int .i64 x) ∧ w'.cell? ⟨g, t, none⟩ = some (.int .i64 R)) 16 (by kernel_rfl) ⟨cell_be hbd f0, cell_be hbd f1, cell_be hbd e1, cell_be hbd hRc⟩ ?_
      intro hS
      refine anyE_takeL 0 rfl (by kernel_rfl) (fun _ _ _ h => h) hS (by rfl) (v := ?_) ?_ ?_
      rotate_left
      · intro w' hSw; (try dsimp only at hSw); go_simp; (try with_reducible rfl)
      try simp only [Act.put, List.setIfInBounds_toArray, List.set_cons_zero, List.set_cons_succ]
      refine anyE_takeL 1 rfl (by kernel_rfl) (fun _ _ _ h => h) hS (by rfl) (v := ?_) ?_ ?_
      rotate_left
      · intro w' hSw; (try dsimp only at hSw); go_simp; (try with_reducible rfl)
      try simp only [Act.put, List.setIfInBounds_toArray, List.set_cons_zero, List.set_cons_succ]
      refine anyE_takeL 2 rfl (by kernel_rfl) (fun _ _ _ h => h) hS (by rfl) (v := ?_) ?_ ?_
      rotate_left
      · intro w' hSw; (try dsimp only at hSw); go_simp; (try with_reducible rfl)
      try simp only [Act.put, List.setIfInBounds_toArray, List.set_cons_zero, List.set_cons_succ]
      refine anyE_takeL 3 rfl (by kernel_rfl) (fun _ _ _ h => h) hS (by rfl) (v := ?_) ?_ ?_
      rotate_left
      · intro w' hSw; (try dsimp only at hSw); go_simp; (try with_reducible rfl)
      try simp only [Act.put, List.setIfInBounds_toArray, List.set_cons_zero, List.set_cons_succ]
      refine anyE_takeL 4 rfl (by kernel_rfl) (fun _ _ _ h => h) hS (by rfl) (v := ?_) ?_ ?_
      rotate_left
      · intro w' hSw; (try dsimp only at hSw); go_simp; (try with_reducible rfl)
      try simp only [Act.put, List.setIfInBounds_toArray, List.set_cons_zero, List.set_cons_succ]
      refine anyE_takeL 5 rfl (by kernel_rfl) (fun _ _ _ h => h) hS (by rfl) (v := ?_) ?_ ?_
      rotate_left
      · intro w' hSw; (try dsimp only at hSw); go_simp; (try with_reducible rfl)
      try simp only [Act.put, List.setIfInBounds_toArray, List.set_cons_zero, List.set_cons_succ]
      refine anyE_takeL 6 rfl (by kernel_rfl) (fun _ _ _ h => h) hS (by rfl) (v := ?_) ?_ ?_
      rotate_left
      · intro w' hSw; (try dsimp only at hSw); go_simp; (try with_reducible rfl)
      try simp only [Act.put, List.setIfInBounds_toArray, List.set_cons_zero, List.set_cons_succ]
      refine anyE_takeL 7 rfl (by kernel_rfl) (fun _ _ _ h => h) hS (by rfl) (v := ?_) ?_ ?_
      rotate_left
      · intro w' hSw; (try dsimp only at hSw); go_simp; (try with_reducible rfl)
      try simp only [Act.put, List.setIfInBounds_toArray, List.set_cons_zero, List.set_cons_succ]
      refine anyE_takeL 8 rfl (by kernel_rfl) (fun _ _ _ h => h) hS (by rfl) (v := ?_) ?_ ?_
      rotate_left
      · intro w' hSw; (try dsimp only at hSw); go_simp; (try with_reducible rfl)
      try simp only [Act.put, List.setIfInBounds_toArray, List.set_cons_zero, List.set_cons_succ]
      refine anyE_takeL 9 rfl (by kernel_rfl) (fun _ _ _ h => h) hS (by rfl) (v := ?_) ?_ ?_
      rotate_left
      · intro w' hSw; (try dsimp only at hSw); go_simp; (try with_reducible rfl)
      try simp only [Act.put, List.setIfInBounds_toArray, List.set_cons_zero, List.set_cons_succ]
      refine anyE_takeL 10 rfl (by kernel_rfl) (fun _ _ _ h => h) hS (by rfl) (v := ?_) ?_ ?_
      rotate_left
      · intro w' hSw; (try dsimp only at hSw); go_simp; (try with_reducible rfl)
      try simp only [Act.put, List.setIfInBounds_toArray, List.set_cons_zero, List.set_cons_succ]
      refine anyE_takeL 11 rfl (by kernel_rfl) (fun _ _ _ h => h) hS (by rfl) (v := ?_) ?_ ?_
      rotate_left
      · intro w' hSw; (try dsimp only at hSw); go_simp; (try with_reducible rfl)
      try simp only [Act.put, List.setIfInBounds_toArray, List.set_cons_zero, List.set_cons_succ]
      refine anyE_takeL 12 rfl (by kernel_rfl) (fun _ _ _ h => h) hS (by rfl) (v := ?_) ?_ ?_
      rotate_left
      · intro w' hSw; (try dsimp only at hSw); go_simp; (try with_reducible rfl)
      try simp only [Act.put, List.setIfInBounds_toArray, List.set_cons_zero, List.set_cons_succ]
      refine anyE_takeL 13 rfl (by kernel_rfl) (fun _ _ _ h => h) hS (by rfl) (v := ?_) ?_ ?_
      rotate_left
      · intro w' hSw; (try dsimp only at hSw); go_simp; (try with_reducible rfl)
      try simp only [Act.put, List.setIfInBounds_toArray, List.set_cons_zero, List.set_cons_succ]
      refine anyE_oneL 14 (by kernel_rfl) rfl (fun K' hK' => ?_)
      go_simp
      refine (addNumber_b p R _ x _ hp rR.1 (by omega) m1 (by omega)).mono ?_
      rintro e w8 ⟨rfl, t8⟩
      dsimp only
      have hb8 := bnext hbd t8
      clear hS
      have hS : w8.cell? ⟨w.heap.size, 0, none⟩ = some (.int .i64 p) ∧ w8.cell? ⟨w.heap.size, 1, none⟩ = some (.slice (some ⟨b1, o1, none⟩) n c) ∧ w8.cell? ⟨b1, o1 + t, none⟩ = some (.int .i64 x) ∧ w8.cell? ⟨g, t, none⟩ = some (.int .i64 R) := ⟨cell_be hb8 f0, cell_be hb8 f1, cell_be hb8 e1, cell_be hb8 hRc⟩
      refine hK'.out _ _ hS ?_
      clear hK' K'
      try simp only [Act.put, List.setIfInBounds_toArray, List.set_cons_zero, List.set_cons_succ]
      refine anyE_takeL 15 rfl (by kernel_rfl) (fun _ _ _ h => h) hS (by rfl) (v := ?_) ?_ ?_
      rotate_left
      · intro w' hSw; (try dsimp only at hSw); go_simp; (try with_reducible rfl)
      try simp only [Act.put, List.setIfInBounds_toArray, List.set_cons_zero, List.set_cons_succ]
      replace hRf := fr_be hb8 hRc hRf
      replace hRc := cell_be hb8 hRc
      refine anyE_lastL (by kernel_rfl) rfl (by kernel_rfl) (fun K' hK' => ?_)
      go_simp
      refine hK'.out _ _ ?_
      clear hK' K'
      try simp only [Act.put, List.setIfInBounds_toArray, List.set_cons_zero, List.set_cons_succ]
      have hO8 : Hid (Own (w.heap.size + 1) (w8.setCell ⟨g, t, none⟩ (.int .i64 ((R + z * x) % p))) (some ⟨g, 0, none⟩) cap' (tab (q1 + 1) (fun j => if j = t then tmH p xs ys f (t + 1) t else tmH p xs ys f t j))) := hide (by
        have q := (hO.out.below hb8).setG t ((R + z * x) % p)
        have st := tmH_one p xs ys f (q1 + 1) t (by omega) R HR.out
        rw [Hz.out, Hx.out] at st
        rw [st] at q
        exact q)
      have k0 : (w8.setCell ⟨g, t, none⟩ (.int .i64 ((R + z * x) % p))).cell? ⟨w.heap.size, 0, none⟩ = some (.int .i64 p) := cell_set2 (cell_be hb8 f0) (by simp; omega) _
      have k1 : (w8.setCell ⟨g, t, none⟩ (.int .i64 ((R + z * x) % p))).cell? ⟨w.heap.size, 1, none⟩ = some (.slice (some ⟨b1, o1, none⟩) n c) := cell_set2 (cell_be hb8 f1) (by simp; omega) _
      have k2 : (w8.setCell ⟨g, t, none⟩ (.int .i64 ((R + z * x) % p))).cell? ⟨w.heap.size, 2, none⟩ = some (.slice (some ⟨b2, o2, none⟩) m d) := cell_set2 (cell_be hb8 f2) (by simp; omega) _
      have hW8 := hide ((hW.out.trans (hb8.mono zw)).setCell (p := ⟨g, t, none⟩) (by simp; omega) (.int .i64 ((R + z * x) % p)))
      have k3 : (w8.setCell ⟨g, t, none⟩ (.int .i64 ((R + z * x) % p))).cell? ⟨b2, o2 + t, none⟩ = some (.int .i64 y) := by
        have q := (ht.below hW8.out).at (by omega)
        obtain ⟨b2', o2', eq, _, hc2⟩ := q
        cases eq
        have := hc2 t (by omega)
        rwa [Hy.out] at this
      clear hO hb8 t8 hbd hS hRc hRf f0 f1 f2 e1 e2 hW HR rR m1 m2
      generalize (w8.setCell ⟨g, t, none⟩ (.int .i64 ((R + z * x) % p))) = wy at *
      by_cases h0 : t = 0
      · subst h0
        have hO9 := hide (show Own (w.heap.size + 1) wy (some ⟨g, 0, none⟩) cap' (tab (q1 + 1) (tmH p xs ys f (0 + 1))) by have q := hO8.out; rwa [tmH_first] at q)
        have hE9 := hide (And.intro k0 (And.intro k1 k2))
        clear hO8 k0 k1 k2 k3
        go_wp2
        go_roundw
        case rel => exact ⟨0 + 1, by omega, by go_num, hO9, hW8, hE9⟩
        case measure => simp [intOf]; omega
      · have f0 := k0
        have f2 := k2
        have e2 := k3
        have q0 : (0 : Int) < (t : Int) := by omega
        obtain ⟨m1, m2⟩ := mulb rf.1 rf.2 ry.1 ry.2 hp2
        have hRc := hO8.out.cellG (t - 1) (by rw [tab_len]; omega)
        have hRf := hO8.out.freeG (t - 1)
        have rR := tmH_rng HP.out xs ys f t (t - 1)
        obtain ⟨R', hR⟩ : ∃ R, (tab (q1 + 1) (fun j => if j = t then tmH p xs ys f (t + 1) t else tmH p xs ys f t j)).getD (t - 1) 0 = R := ⟨_, rfl⟩
        rw [show tmH p xs ys f t (t - 1) = R' by rw [← hR, tab_at _ _ _ (by omega), if_neg (by omega)]] at rR
        rw [hR] at hRc
        have HR := hide hR
        have ix4 : (0 : Int) ≤ (t : Int) - 1 := by omega
        have ix5 : (t : Int) - 1 < (q1 : Int) + 1 := by omega
        have ix8 : IntKind.i64.wrap ((t : Int) - 1) = (t : Int) - 1 := IntWalk.i64_in _ (by omega)
        have ix6 : ((t : Int) - 1).toNat = t - 1 := by omega
        have ix7 : 1 ≤ (t : Int) := by omega
        have zw8 := hW8.out.size
        have zg8 : w.heap.size < wy.heap.size := World.block_lt_of_cell? _ _ f0
        clear hR k0 k2 k3 h0
        go_upto_region 7 with fail
        have hbd := (Below.refl wy.heap.size wy).drew
        refine region_E (fun w' => w'.cell? ⟨w.heap.size, 0, none⟩ = some (.int .i64 p) ∧ w'.cell? ⟨w.heap.size, 2, none⟩ = some (.slice (some ⟨b2, o2, none⟩) m d) ∧ w'.cell? ⟨b2, o2 + t, none⟩ = some (.int .i64 y) ∧ w'.cell? ⟨g, t - 1, none⟩ = some (.int .i64 R')) 18 (by kernel_rfl) ⟨cell_be hbd f0, cell_be hbd f2, cell_be hbd e2, cell_be hbd hRc⟩ ?_
        intro hS
        refine anyE_takeL 0 rfl (by kernel_rfl) (fun _ _ _ h => h) hS (by rfl) (v := ?_) ?_ ?_
        rotate_left
        · intro w' hSw; (try dsimp only at hSw); go_simp; (try with_reducible rfl)
        try simp only [Act.put, List.setIfInBounds_toArray, List.set_cons_zero, List.set_cons_succ]
        refine anyE_takeL 1 rfl (by kernel_rfl) (fun _ _ _ h => h) hS (by rfl) (v := ?_) ?_ ?_
        rotate_left
        · intro w' hSw; (try dsimp only at hSw); go_simp; (try with_reducible rfl)
        try simp only [Act.put, List.setIfInBounds_toArray, List.set_cons_zero, List.set_cons_succ]
        refine anyE_takeL 2 rfl (by kernel_rfl) (fun _ _ _ h => h) hS (by rfl) (v := ?_) ?_ ?_
        rotate_left
        · intro w' hSw; (try dsimp only at hSw); go_simp; (try with_reducible rfl)
        try simp only [Act.put, List.setIfInBounds_toArray, List.set_cons_zero, List.set_cons_succ]
        refine anyE_takeL 3 rfl (by kernel_rfl) (fun _ _ _ h => h) hS (by rfl) (v := ?_) ?_ ?_
        rotate_left
        · intro w' hSw; (try dsimp only at hSw); go_simp; (try with_reducible rfl)
        try simp only [Act.put, List.setIfInBounds_toArray, List.set_cons_zero, List.set_cons_succ]
        refine anyE_takeL 4 rfl (by kernel_rfl) (fun _ _ _ h => h) hS (by rfl) (v := ?_) ?_ ?_
        rotate_left
        · intro w' hSw; (try dsimp only at hSw); go_simp; (try with_reducible rfl)
        try simp only [Act.put, List.setIfInBounds_toArray, List.set_cons_zero, List.set_cons_succ]
        refine anyE_takeL 5 rfl (by kernel_rfl) (fun _ _ _ h => h) hS (by rfl) (v := ?_) ?_ ?_
        rotate_left
        · intro w' hSw; (try dsimp only at hSw); go_simp; (try with_reducible rfl)
        try simp only [Act.put, List.setIfInBounds_toArray, List.set_cons_zero, List.set_cons_succ]
        refine anyE_takeL 6 rfl (by kernel_rfl) (fun _ _ _ h => h) hS (by rfl) (v := ?_) ?_ ?_
        rotate_left
        · intro w' hSw; (try dsimp only at hSw); go_simp; (try with_reducible rfl)
        try simp only [Act.put, List.setIfInBounds_toArray, List.set_cons_zero, List.set_cons_succ]
        refine anyE_takeL 7 rfl (by kernel_rfl) (fun _ _ _ h => h) hS (by rfl) (v := ?_) ?_ ?_
        rotate_left
        · intro w' hSw; (try dsimp only at hSw); go_simp; (try with_reducible rfl)
        try simp only [Act.put, List.setIfInBounds_toArray, List.set_cons_zero, List.set_cons_succ]
        refine anyE_takeL 8 rfl (by kernel_rfl) (fun _ _ _ h => h) hS (by rfl) (v := ?_) ?_ ?_
        rotate_left
        · intro w' hSw; (try dsimp only at hSw); go_simp; (try with_reducible rfl)
        try simp only [Act.put, List.setIfInBounds_toArray, List.set_cons_zero, List.set_cons_succ]
        refine anyE_takeL 9 rfl (by kernel_rfl) (fun _ _ _ h => h) hS (by rfl) (v := ?_) ?_ ?_
        rotate_left
        · intro w' hSw; (try dsimp only at hSw); go_simp; (try with_reducible rfl)
        try simp only [Act.put, List.setIfInBounds_toArray, List.set_cons_zero, List.set_cons_succ]
        refine anyE_takeL 10 rfl (by kernel_rfl) (fun _ _ _ h => h) hS (by rfl) (v := ?_) ?_ ?_
        rotate_left
        · intro w' hSw; (try dsimp only at hSw); go_simp; (try with_reducible rfl)
        try simp only [Act.put, List.setIfInBounds_toArray, List.set_cons_zero, List.set_cons_succ]
        refine anyE_takeL 11 rfl (by kernel_rfl) (fun _ _ _ h => h) hS (by rfl) (v := ?_) ?_ ?_
        rotate_left
        · intro w' hSw; (try dsimp only at hSw); go_simp; (try with_reducible rfl)
        try simp only [Act.put, List.setIfInBounds_toArray, List.set_cons_zero, List.set_cons_succ]
        refine anyE_takeL 12 rfl (by kernel_rfl) (fun _ _ _ h => h) hS (by rfl) (v := ?_) ?_ ?_
        rotate_left
        · intro w' hSw; (try dsimp only at hSw); go_simp; (try with_reducible rfl)
        try simp only [Act.put, List.setIfInBounds_toArray, List.set_cons_zero, List.set_cons_succ]
        refine anyE_takeL 13 rfl (by kernel_rfl) (fun _ _ _ h => h) hS (by rfl) (v := ?_) ?_ ?_
        rotate_left
        · intro w' hSw; (try dsimp only at hSw); go_simp; (try with_reducible rfl)
        try simp only [Act.put, List.setIfInBounds_toArray, List.set_cons_zero, List.set_cons_succ]
        refine anyE_takeL 14 rfl (by kernel_rfl) (fun _ _ _ h => h) hS (by rfl) (v := ?_) ?_ ?_
        rotate_left
        · intro w' hSw; (try dsimp only at hSw); go_simp; (try with_reducible rfl)
        try simp only [Act.put, List.setIfInBounds_toArray, List.set_cons_zero, List.set_cons_succ]
        refine anyE_takeL 15 rfl (by kernel_rfl) (fun _ _ _ h => h) hS (by rfl) (v := ?_) ?_ ?_
        rotate_left
        · intro w' hSw; (try dsimp only at hSw); go_simp; (try with_reducible rfl)
        try simp only [Act.put, List.setIfInBounds_toArray, List.set_cons_zero, List.set_cons_succ]
        refine anyE_oneL 16 (by kernel_rfl) rfl (fun K' hK' => ?_)
        go_simp
        refine (addNumber_b p R' _ y _ hp rR.1 (by omega) m1 (by omega)).mono ?_
        rintro e w8 ⟨rfl, t8⟩
        dsimp only
        have hb8 := bnext hbd t8
        clear hS
        have hS : w8.cell? ⟨w.heap.size, 0, none⟩ = some (.int .i64 p) ∧ w8.cell? ⟨w.heap.size, 2, none⟩ = some (.slice (some ⟨b2, o2, none⟩) m d) ∧ w8.cell? ⟨b2, o2 + t, none⟩ = some (.int .i64 y) ∧ w8.cell? ⟨g, t - 1, none⟩ = some (.int .i64 R') := ⟨cell_be hb8 f0, cell_be hb8 f2, cell_be hb8 e2, cell_be hb8 hRc⟩
        refine hK'.out _ _ hS ?_
        clear hK' K'
        try simp only [Act.put, List.setIfInBounds_toArray, List.set_cons_zero, List.set_cons_succ]
        refine anyE_takeL 17 rfl (by kernel_rfl) (fun _ _ _ h => h) hS (by rfl) (v := ?_) ?_ ?_
        rotate_left
        · intro w' hSw; (try dsimp only at hSw); go_simp; (try with_reducible rfl)
        try simp only [Act.put, List.setIfInBounds_toArray, List.set_cons_zero, List.set_cons_succ]
        replace hRf := fr_be hb8 hRc hRf
        replace hRc := cell_be hb8 hRc
        refine anyE_lastL (by kernel_rfl) rfl (by kernel_rfl) (fun K' hK' => ?_)
        go_simp
        refine hK'.out _ _ ?_
        clear hK' K'
        try simp only [Act.put, List.setIfInBounds_toArray, List.set_cons_zero, List.set_cons_succ]
        have hO9 : Hid (Own (w.heap.size + 1) (w8.setCell ⟨g, t - 1, none⟩ (.int .i64 ((R' + z * y) % p))) (some ⟨g, 0, none⟩) cap' (tab (q1 + 1) (tmH p xs ys f (t + 1)))) := hide (by
          have q := (hO8.out.below hb8).setG (t - 1) ((R' + z * y) % p)
          have st := tmH_two p xs ys f (q1 + 1) t (by omega) (by omega) R' HR.out
          rw [Hz.out, Hy.out] at st
          rw [st] at q
          exact q)
        have hE9 : Hid ((w8.setCell ⟨g, t - 1, none⟩ (.int .i64 ((R' + z * y) % p))).cell? ⟨w.heap.size, 0, none⟩ = some (.int .i64 p) ∧ (w8.setCell ⟨g, t - 1, none⟩ (.int .i64 ((R' + z * y) % p))).cell? ⟨w.heap.size, 1, none⟩ = some (.slice (some ⟨b1, o1, none⟩) n c) ∧ (w8.setCell ⟨g, t - 1, none⟩ (.int .i64 ((R' + z * y) % p))).cell? ⟨w.heap.size, 2, none⟩ = some (.slice (some ⟨b2, o2, none⟩) m d)) := hide ⟨cell_set2 (cell_be hb8 f0) (by simp; omega) _, cell_set2 (cell_be hb8 k1) (by simp; omega) _, cell_set2 (cell_be hb8 f2) (by simp; omega) _⟩
        have hW9 := hide ((hW8.out.trans (hb8.mono zw8)).setCell (p := ⟨g, t - 1, none⟩) (by simp; omega) (.int .i64 ((R' + z * y) % p)))
        clear hO8 hb8 t8 hbd hS hRc hRf f0 f2 k1 e2 hW8 HR rR m1 m2 ix4 ix5 ix6 ix7 q0
        generalize (w8.setCell ⟨g, t - 1, none⟩ (.int .i64 ((R' + z * y) % p))) = wz at *
        go_wp2
        go_roundw
        case rel => exact ⟨t + 1, by omega, by go_num, hO9, hW9, hE9⟩
        case measure => simp [intOf]; omega
    · have htm2 : Hid (t = q1) := hide (by omega)
      have hge : ¬ (t : Int) < (q1 : Int) := by omega
      go_wp2
      refine bodyPost_ret (v := .slice (some ⟨g, 0, none⟩) (q1 + 1) cap') (by simp [results, Try.results81, go_sem]) rfl ?_
      exact ⟨_, cap', by rw [tmxL_len, hl.out], by have q := hO.out; rw [htm2.out] at q; rw [← tmH_end, hl.out]; exact q.mono (by omega), hW.out⟩
set_option maxRecDepth 100000 in
set_option maxHeartbeats 3200000 in
theorem expandBy_any (p : Int) (a : Option Addr) (n c : Nat) (xs : List Int) (b : Option Addr) (m d : Nat) (ys : List Int) (f1 : Option Addr) (q1 c1 : Nat) (f : List Int) (w : World) (hs : SL w a n c xs) (ht : SL w b m d ys) (hf : SL w f1 q1 c1 f) (hqn : q1 ≤ n + 1) (hqm : q1 ≤ m + 1) (hn : n ≤ 1000) (hp : 2 ≤ p) (hp2 : p ≤ 10007) (hx : areB p xs = true) (hy : areB p ys = true) (hfa : areB p f = true) :
    Calls Try.prog 64 #[jac p a n c b m d, .slice f1 q1 c1] w fun e w' => ∃ a' c', e = .returned (.slice a' (expL p xs ys f).length c') ∧ Own w.heap.size w' a' c' (expL p xs ys f) ∧ Below w.heap.size w w' := by
  have hl := hide hf.len
  have hb0 := bl1 w (.cells #[.int .i64 p, .slice a n c, .slice b m d] 24)
  have E0 := hide (show (w.alloc (.cells #[.int .i64 p, .slice a n c, .slice b m d] 24)).cell? ⟨w.heap.size, 0, none⟩ = some (.int .i64 p) ∧ (w.alloc (.cells #[.int .i64 p, .slice a n c, .slice b m d] 24)).cell? ⟨w.heap.size, 1, none⟩ = some (.slice a n c) ∧ (w.alloc (.cells #[.int .i64 p, .slice a n c, .slice b m d] 24)).cell? ⟨w.heap.size, 2, none⟩ = some (.slice b m d) by refine ⟨?_, ?_, ?_⟩ <;> simp [go_sem])
  have O0 := hide (Own.nil (w.heap.size + 1) (w.alloc (.cells #[.int .i64 p, .slice a n c, .slice b m d] 24)))
  have HX := hide hx
  have HY := hide hy
  have HF := hide hfa
  have HP := hide hp
  have hB0 := hide hb0
  have Zs : w.heap.size + 1 ≤ (w.alloc (.cells #[.int .i64 p, .slice a n c, .slice b m d] 24)).heap.size := by simp
  have vq : IntKind.i64.wrap ((q1 : Int) - 1) = (q1 : Int) - 1 := IntWalk.i64_in _ (by omega)
  clear hx hy hfa hb0
  go_enter Try.func64, Try.ntmps64
  go_wp2
  generalize (w.alloc (.cells #[.int .i64 p, .slice a n c, .slice b m d] 24)) = wx at *
  go_loopw [5, 6] (fun sv iv wr => ∃ (t : Nat) (a' : Option Addr) (c' : Nat), t ≤ q1 ∧ iv = .int .i64 ((q1 : Int) - 1 - (t : Int)) ∧ sv = .slice a' t c' ∧ Hid (Own (w.heap.size + 1) wr a' c' (hexL p xs ys f t)) ∧ Hid (Below w.heap.size w wr) ∧ Hid (wr.cell? ⟨w.heap.size, 0, none⟩ = some (.int .i64 p) ∧ wr.cell? ⟨w.heap.size, 1, none⟩ = some (.slice a n c) ∧ wr.cell? ⟨w.heap.size, 2, none⟩ = some (.slice b m d))) (fun _ iv _ => (intOf iv + 1).toNat)
  case atStart => exact ⟨0, none, 0, by omega, by simp, rfl, O0, hB0, E0⟩
  case round =>
    obtain ⟨t, a', c', htq, rfl, rfl, hO, hW, hE⟩ := hrel
    clear O0 hB0 E0 Zs
    by_cases hlt : t < q1
    · have hlt' : (0 : Int) ≤ (q1 : Int) - 1 - (t : Int) := by omega
      obtain ⟨f0, f1', f2⟩ := hE.out
      have hLn := hide (hexL_len p xs ys f t)
      have sO := hO.out.sl
      rw [hexL_len] at sO
      go_wp2_with fail
      refine (timesX_any p a n c xs b m d ys a' t c' (hexL p xs ys f t) _ (hs.below hW.out) (ht.below hW.out) sO (by omega) (by omega) hn hp hp2 HX.out HY.out (hexL_are HP.out _ _ _ _)).mono ?_
      rintro e w3 ⟨a3, c3, rfl, ho3, t3⟩
      have hB3 := hide (hW.out.trans (t3.mono hW.out.size))
      have lT := hide (show (tmxL p xs ys (hexL p xs ys f t)).length = t + 1 by rw [tmxL_len, hexL_len])
      obtain ⟨g, rfl, hg1, hg2, _⟩ := ho3.blkG (by rw [lT.out]; omega)
      rw [lT.out]
      replace f0 := cell_be t3 f0
      replace f1' := cell_be t3 f1'
      replace f2 := cell_be t3 f2
      have hRc := ho3.cellG 0 (by rw [lT.out]; omega)
      have hRf := ho3.freeG 0
      have rR := getD_rng (tmxL_are HP.out xs ys (hexL p xs ys f t)) HP.out 0
      obtain ⟨R, hR⟩ : ∃ R, (tmxL p xs ys (hexL p xs ys f t)).getD 0 0 = R := ⟨_, rfl⟩
      rw [hR] at hRc rR
      have HR := hide hR
      obtain ⟨b3, o3, rfl, _, hc3⟩ := (hf.below hB3.out).at (by omega)
      have e3 := hc3 (q1 - 1 - t) (by omega)
      have rz := getD_rng HF.out hp (q1 - 1 - t)
      obtain ⟨z, hzz⟩ : ∃ z, f.getD (q1 - 1 - t) 0 = z := ⟨_, rfl⟩
      rw [hzz] at e3 rz
      have HZ := hide (show hexL p xs ys f (t + 1) = addZ p (tmxL p xs ys (hexL p xs ys f t)) z by rw [← hzz, ← hl.out]; rfl)
      have ix1 : (q1 : Int) - 1 - (t : Int) < (q1 : Int) := by omega
      have ix2 : ((q1 : Int) - 1 - (t : Int)).toNat = q1 - 1 - t := by omega
      have ix3 : (0 : Int) < ((t : Int) + 1) := by omega
      have vz : IntKind.i64.wrap (R + z) = R + z := IntWalk.i64_in _ (by omega)
      have vt : (R + z).tmod p = (R + z) % p := Int.tmod_eq_emod_of_nonneg (by omega)
      have hp0 : ¬ p = 0 := by omega
      have zw := hB3.out.size
      have zz0 : w.heap.size ≤ wr.heap.size := hW.out.size
      have zz1 : w.heap.size < wr.heap.size := World.block_lt_of_cell? _ _ hE.out.1
      clear hR hzz hc3 hE sO hO hW t3
      go_upto_region 6 with fail
      have hbd := (Below.refl w3.heap.size w3).drew
      refine region_E (fun w' => w'.cell? ⟨w.heap.size, 0, none⟩ = some (.int .i64 p) ∧ w'.cell? ⟨g, 0, none⟩ = some (.int .i64 R) ∧ w'.cell? ⟨b3, o3 + (q1 - 1 - t), none⟩ = some (.int .i64 z)) 13 (by kernel_rfl) ⟨cell_be hbd f0, cell_be hbd hRc, cell_be hbd e3⟩ ?_
      intro hS
      refine anyE_takeL 0 rfl (by kernel_rfl) (fun _ _ _ h => h) hS (by rfl) (v := ?_) ?_ ?_
      rotate_left
      · intro w' hSw; (try dsimp only at hSw); go_simp; (try with_reducible rfl)
      try simp only [Act.put, List.setIfInBounds_toArray, List.set_cons_zero, List.set_cons_succ]
      refine anyE_takeL 1 rfl (by kernel_rfl) (fun _ _ _ h => h) hS (by rfl) (v := ?_) ?_ ?_
      rotate_left
      · intro w' hSw; (try dsimp only at hSw); go_simp; (try with_reducible rfl)
      try simp only [Act.put, List.setIfInBounds_toArray, List.set_cons_zero, List.set_cons_succ]
      refine anyE_takeL 2 rfl (by kernel_rfl) (fun _ _ _ h => h) hS (by rfl) (v := ?_) ?_ ?_
      rotate_left
      · intro w' hSw; (try dsimp only at hSw); go_simp; (try with_reducible rfl)
      try simp only [Act.put, List.setIfInBounds_toArray, List.set_cons_zero, List.set_cons_succ]
      refine anyE_takeL 3 rfl (by kernel_rfl) (fun _ _ _ h => h) hS (by rfl) (v := ?_) ?_ ?_
      rotate_left
      · intro w' hSw; (try dsimp only at hSw); go_simp; (try with_reducible rfl)
      try simp only [Act.put, List.setIfInBounds_toArray, List.set_cons_zero, List.set_cons_succ]
      refine anyE_takeL 4 rfl (by kernel_rfl) (fun _ _ _ h => h) hS (by rfl) (v := ?_) ?_ ?_
      rotate_left
      · intro w' hSw; (try dsimp only at hSw); go_simp; (try with_reducible rfl)
      try simp only [Act.put, List.setIfInBounds_toArray, List.set_cons_zero, List.set_cons_succ]
      refine anyE_takeL 5 rfl (by kernel_rfl) (fun _ _ _ h => h) hS (by rfl) (v := ?_) ?_ ?_
      rotate_left
      · intro w' hSw; (try dsimp only at hSw); go_simp; (try with_reducible rfl)
      try simp only [Act.put, List.setIfInBounds_toArray, List.set_cons_zero, List.set_cons_succ]
      refine anyE_takeL 6 rfl (by kernel_rfl) (fun _ _ _ h => h) hS (by rfl) (v := ?_) ?_ ?_
      rotate_left
      · intro w' hSw; (try dsimp only at hSw); go_simp; (try with_reducible rfl)
      try simp only [Act.put, List.setIfInBounds_toArray, List.set_cons_zero, List.set_cons_succ]
      refine anyE_takeL 7 rfl (by kernel_rfl) (fun _ _ _ h => h) hS (by rfl) (v := ?_) ?_ ?_
      rotate_left
      · intro w' hSw; (try dsimp only at hSw); go_simp; (try with_reducible rfl)
      try simp only [Act.put, List.setIfInBounds_toArray, List.set_cons_zero, List.set_cons_succ]
      refine anyE_takeL 8 rfl (by kernel_rfl) (fun _ _ _ h => h) hS (by rfl) (v := ?_) ?_ ?_
      rotate_left
      · intro w' hSw; (try dsimp only at hSw); go_simp; (try with_reducible rfl)
      try simp only [Act.put, List.setIfInBounds_toArray, List.set_cons_zero, List.set_cons_succ]
      refine anyE_takeL 9 rfl (by kernel_rfl) (fun _ _ _ h => h) hS (by rfl) (v := ?_) ?_ ?_
      rotate_left
      · intro w' hSw; (try dsimp only at hSw); go_simp; (try with_reducible rfl)
      try simp only [Act.put, List.setIfInBounds_toArray, List.set_cons_zero, List.set_cons_succ]
      refine anyE_takeL 10 rfl (by kernel_rfl) (fun _ _ _ h => h) hS (by rfl) (v := ?_) ?_ ?_
      rotate_left
      · intro w' hSw; (try dsimp only at hSw); go_simp; (try with_reducible rfl)
      try simp only [Act.put, List.setIfInBounds_toArray, List.set_cons_zero, List.set_cons_succ]
      refine anyE_takeL 11 rfl (by kernel_rfl) (fun _ _ _ h => h) hS (by rfl) (v := ?_) ?_ ?_
      rotate_left
      · intro w' hSw; (try dsimp only at hSw); go_simp; (try with_reducible rfl)
      try simp only [Act.put, List.setIfInBounds_toArray, List.set_cons_zero, List.set_cons_succ]
      refine anyE_takeL 12 rfl (by kernel_rfl) (fun _ _ _ h => h) hS (by rfl) (v := ?_) ?_ ?_
      rotate_left
      · intro w' hSw; (try dsimp only at hSw); go_simp; (try with_reducible rfl)
      try simp only [Act.put, List.setIfInBounds_toArray, List.set_cons_zero, List.set_cons_succ]
      replace hRf := fr_be hbd hRc hRf
      replace hRc := cell_be hbd hRc
      refine anyE_lastL (by kernel_rfl) rfl (by kernel_rfl) (fun K' hK' => ?_)
      go_simp
      refine hK'.out _ _ ?_
      clear hK' K'
      try simp only [Act.put, List.setIfInBounds_toArray, List.set_cons_zero, List.set_cons_succ]
      have hO9 : Hid (Own (w.heap.size + 1) (w3.setCell ⟨g, 0, none⟩ (.int .i64 ((R + z) % p))).drew (some ⟨g, 0, none⟩) c3 (hexL p xs ys f (t + 1))) := hide (by
        have q := ((ho3.setG 0 ((R + z) % p)).below (Below.refl _ _).drew).mono (show w.heap.size + 1 ≤ wr.heap.size by omega)
        rw [HZ.out]
        unfold addZ
        rw [HR.out]
        exact q)
      have hE9 : Hid ((w3.setCell ⟨g, 0, none⟩ (.int .i64 ((R + z) % p))).drew.cell? ⟨w.heap.size, 0, none⟩ = some (.int .i64 p) ∧ (w3.setCell ⟨g, 0, none⟩ (.int .i64 ((R + z) % p))).drew.cell? ⟨w.heap.size, 1, none⟩ = some (.slice a n c) ∧ (w3.setCell ⟨g, 0, none⟩ (.int .i64 ((R + z) % p))).drew.cell? ⟨w.heap.size, 2, none⟩ = some (.slice b m d)) := hide ⟨cell_be (Below.refl _ _).drew (cell_set2 f0 (by simp; omega) _), cell_be (Below.refl _ _).drew (cell_set2 f1' (by simp; omega) _), cell_be (Below.refl _ _).drew (cell_set2 f2 (by simp; omega) _)⟩
      have hW9 := hide ((hB3.out.setCell (p := ⟨g, 0, none⟩) (by simp; omega) (.int .i64 ((R + z) % p))).drew)
      clear ho3 hbd hS hRc hRf f0 f1' f2 e3 hB3 HR rR
      generalize ((w3.setCell ⟨g, 0, none⟩ (.int .i64 ((R + z) % p))).drew) = wz at *
      have ix9 : IntKind.i64.wrap ((q1 : Int) - 1 - (t : Int) - 1) = (q1 : Int) - 1 - ((t + 1 : Nat) : Int) := by rw [show (q1 : Int) - 1 - (t : Int) - 1 = (q1 : Int) - 1 - ((t + 1 : Nat) : Int) by omega]; exact IntWalk.i64_in _ (by omega)
      go_wp2
      go_roundw
      case rel => exact ⟨t + 1, some ⟨g, 0, none⟩, c3, by omega, by first | rfl | (simp; omega) | (congr 1; omega), rfl, hO9, hW9, hE9⟩
      case measure => simp [intOf]; omega
    · have htm2 : Hid (t = q1) := hide (by omega)
      have hge : ¬ (0 : Int) ≤ (q1 : Int) - 1 - (t : Int) := by omega
      go_wp2
      refine bodyPost_ret (v := .slice a' t c') (by simp [results, Try.results64, go_sem]) rfl ?_
      exact ⟨_, c', by rw [expL_len, hl.out, htm2.out], by have q := hO.out; rw [htm2.out, ← hl.out] at q; exact q.mono (by omega), hW.out⟩
set_option maxRecDepth 100000 in
set_option maxHeartbeats 3200000 in
theorem l10Expand_any (p : Int) (a : Option Addr) (n c : Nat) (xs : List Int) (b : Option Addr) (m d : Nat) (ys : List Int) (f1 : Option Addr) (q1 c1 : Nat) (f : List Int) (w : World) (hs : SL w a n c xs) (ht : SL w b m d ys) (hf : SL w f1 q1 c1 f) (hq : q1 ≤ n + 1) (hj : jacB p xs ys = true) (hfa : polyB p f = true) :
    Calls Try.prog 61 #[jac p a n c b m d, .slice f1 q1 c1] w fun e w' => ∃ a' c', e = .returned (.slice a' (expL p xs ys f).length c') ∧ Own w.heap.size w' a' c' (expL p xs ys f) ∧ Below w.heap.size w w' := by
  obtain ⟨hpr, n1, n2, n3, hx, hy⟩ := jacB_rng hj
  obtain ⟨hp, hp2⟩ := primeB_lo hpr
  have hl := hide hf.len
  have hln := hs.len
  rw [hln] at n1 n2
  have hb0 := bl1 w (.cells #[.int .i64 p, .slice a n c, .slice b m d] 24)
  have HJ := hide hj
  have HP := hide hp
  have X0 := hide (ExM.start hp xs ys f hfa)
  have HC := hide (expL_are hp xs ys f)
  have lC := hide (show (expL p xs ys f).length = q1 by rw [expL_len, hl.out])
  have e0 : (w.alloc (.cells #[.int .i64 p, .slice a n c, .slice b m d] 24)).cell? ⟨w.heap.size, 0, none⟩ = some (.int .i64 p) := by simp [go_sem]
  have e1 : (w.alloc (.cells #[.int .i64 p, .slice a n c, .slice b m d] 24)).cell? ⟨w.heap.size, 1, none⟩ = some (.slice a n c) := by simp [go_sem]
  have e2 : (w.alloc (.cells #[.int .i64 p, .slice a n c, .slice b m d] 24)).cell? ⟨w.heap.size, 2, none⟩ = some (.slice b m d) := by simp [go_sem]
  have zx : (w.alloc (.cells #[.int .i64 p, .slice a n c, .slice b m d] 24)).heap.size = w.heap.size + 1 := by simp
  have q25 : q1 ≤ 13 := by omega
  have D0 : Hid (0 < q1 → blk f1 ≠ some (w.heap.size + 1)) := hide (fun h e => by
    obtain ⟨b', o', rfl, _, hc⟩ := hf.at h
    have hb : b' < w.heap.size := World.block_lt_of_cell? _ _ (hc 0 h)
    have hbb : b' = w.heap.size + 1 := by simpa [blk] using e
    omega)
  clear hj hx hy hpr n3 hfa hln
  go_enter Try.func61, Try.ntmps61
  go_wp2_with (at_make; refine wp_make rfl _ _ rfl _ _ q1 rfl rfl rfl rfl (by omega) ?_; intro w1 hrow hb hsz)
  have hB1 := hide (bnext hb0 hb)
  have E1 := hide (And.intro (cell_be hb e0) (And.intro (cell_be hb e1) (cell_be hb e2)))
  rw [zx] at hrow
  have hR1 : Hid (RowI w1 (w.heap.size + 1) (exT (expL p xs ys f) q1)) := hide (by rw [← lC.out, exT_none, lC.out]; exact hrow.out)
  have s1 := hide (hf.below (bnext hb0 hb))
  clear hb0 hb hsz hrow e0 e1 e2
  try rw [zx]
  clear zx
  go_loopw [1] (fun sv wr => ∃ (g : List Int) (t : Nat) (a' : Option Addr) (c' : Nat), sv = .slice a' t c' ∧ Hid (g.length = t) ∧ Hid (ExM p xs ys (expL p xs ys f) g) ∧ Hid (SL wr a' t c' g) ∧ Hid (0 < t → blk a' ≠ some (w.heap.size + 1)) ∧ Hid (RowI wr (w.heap.size + 1) (exT (expL p xs ys f) t)) ∧ Hid (Below w.heap.size w wr) ∧ Hid (wr.cell? ⟨w.heap.size, 0, none⟩ = some (.int .i64 p) ∧ wr.cell? ⟨w.heap.size, 1, none⟩ = some (.slice a n c) ∧ wr.cell? ⟨w.heap.size, 2, none⟩ = some (.slice b m d))) (fun v _ => match v with | .slice _ k _ => k | _ => 0)
  case atStart => exact ⟨f, q1, f1, c1, rfl, hl, X0, s1, D0, hR1, hB1, E1⟩
  case round =>
    obtain ⟨g, t, a', c', rfl, hgl, hX, hS, hD, hR, hW, hE⟩ := hrel
    clear hR1 hB1 E1 s1 D0 X0
    have tq : t ≤ q1 := by have := hX.out.le; rw [lC.out, hgl.out] at this; exact this
    by_cases hlt : 0 < t
    · have hlt' : (0 : Int) < (t : Int) := by omega
      obtain ⟨K, hK⟩ : ∃ K, K = t - 1 := ⟨_, rfl⟩
      have v1 : IntKind.i64.wrap ((t : Int) - 1) = (K : Int) := by rw [show (t : Int) - 1 = (K : Int) by omega]; exact IntWalk.i64_in _ (by omega)
      have k1 : (K : Int) < (t : Int) := by omega
      have k2 : (K : Int) < (q1 : Int) := by omega
      have kt : K + 1 = t := by omega
      obtain ⟨b', o', rfl, _, hc⟩ := hS.out.at hlt
      have e3 := hc K (by omega)
      have hA := (polyB_rng hX.out.ok).2.1
      have ry := getD_rng hA hp K
      obtain ⟨y, hyy⟩ : ∃ y, g.getD K 0 = y := ⟨_, rfl⟩
      have hstep := hX.out.step hp HC.out (k := K) (by rw [hgl.out, kt]) (by omega)
      rw [hyy] at e3 ry hstep
      rw [kt] at hstep
      have vn : IntKind.i64.wrap (-y) = -y := IntWalk.i64_in _ (by omega)
      have rk := modb (x := -y) hp
      have hRc := hR.out.cell K (by unfold exT; rw [tab_len, lC.out]; omega)
      have hRf := hR.out.free K
      obtain ⟨R, hRR⟩ : ∃ R, (exT (expL p xs ys f) t).getD K 0 = R := ⟨_, rfl⟩
      rw [hRR] at hRc
      obtain ⟨f0, f1', f2⟩ := hE.out
      have hne := hD.out hlt
      have sg := hide (hS.out.otherE (j := K) hne (.int .i64 y))
      have hRn := hide (hR.out.set K y)
      have hWn := hide (hW.out.setCell (p := ⟨w.heap.size + 1, K, none⟩) (by simp) (.int .i64 y))
      have h0 : (wr.setCell ⟨w.heap.size + 1, K, none⟩ (.int .i64 y)).cell? ⟨w.heap.size, 0, none⟩ = some (.int .i64 p) := cell_set2 f0 (by simp) _
      have h1 : (wr.setCell ⟨w.heap.size + 1, K, none⟩ (.int .i64 y)).cell? ⟨w.heap.size, 1, none⟩ = some (.slice a n c) := cell_set2 f1' (by simp) _
      have h2 : (wr.setCell ⟨w.heap.size + 1, K, none⟩ (.int .i64 y)).cell? ⟨w.heap.size, 2, none⟩ = some (.slice b m d) := cell_set2 f2 (by simp) _
      have h3 : (wr.setCell ⟨w.heap.size + 1, K, none⟩ (.int .i64 y)).cell? ⟨b', o' + K, none⟩ = some (.int .i64 y) := cell_set2 e3 (fun e => hne (by simp [blk] at e ⊢; omega)) _
      have Hst := hide hstep
      have Hyy := hide hyy
      have HgA := hide hA
      have hsz : w.heap.size + 1 < wr.heap.size := hR.out.lt
      have HgP := hide hX.out.ok
      clear hc hyy hA hRR hK hstep hS hD hE hX hne
      go_upto_region 5 with fail
      have zwz : (wr.setCell ⟨w.heap.size + 1, K, none⟩ (.int .i64 y)).heap.size = wr.heap.size := by simp
      generalize (wr.setCell ⟨w.heap.size + 1, K, none⟩ (.int .i64 y)) = wz at *
      clear hRc hRf f0 f1' f2 e3 hR hW
      have hbd := (Below.refl wz.heap.size wz).drew
      have s1 := hs.below hWn.out
      have s2 := ht.below hWn.out
      have s3 := sg.out
      have F : ∀ w', Below wz.heap.size wz w' → w'.cell? ⟨w.heap.size, 0, none⟩ = some (.int .i64 p) ∧ w'.cell? ⟨w.heap.size, 1, none⟩ = some (.slice a n c) ∧ w'.cell? ⟨w.heap.size, 2, none⟩ = some (.slice b m d) ∧ w'.cell? ⟨b', o' + K, none⟩ = some (.int .i64 y) := fun w' h => ⟨cell_be h h0, cell_be h h1, cell_be h h2, cell_be h h3⟩
      have lP := (polJ_small hp xs ys K (by omega))
      have lP2 := lP.2
      have lg := hide (show g.length = t from hgl.out)
      go_region_held3 (fun w' => w'.cell? ⟨w.heap.size, 0, none⟩ = some (.int .i64 p) ∧ w'.cell? ⟨w.heap.size, 1, none⟩ = some (.slice a n c) ∧ w'.cell? ⟨w.heap.size, 2, none⟩ = some (.slice b m d) ∧ w'.cell? ⟨b', o' + K, none⟩ = some (.int .i64 y))
        (first | exact F _ (by assumption) | exact F _ hm5)
        (first
        | (go_at_call 72; refine (l03Poly_any p a n c xs b m d ys K _ (s1.below hbd) (s2.below hbd) HJ.out (by omega)).mono ?_; rintro e w4 ⟨ac, cc, rfl, ho4, t4⟩; have hm4 := bnext hbd t4)
        | (go_at_call 95; refine (l01Mod_any p (-y) _ hp hp2 (by omega) (by omega)).mono ?_; rintro e w5 ⟨rfl, rfl⟩)
        | (go_at_call 94; refine (l01Add_any p ((-y) % p) _ _ _ g _ _ _ (polJ p xs ys K) _ (s3.below hm4) ho4.sl (by omega) (by omega) hp hp2 rk.1 rk.2 HgA.out lP.are).mono ?_; rintro e w6 ⟨a6, c6, rfl, ho6, t6⟩; have hm5 := bnext hm4 t6))
      obtain ⟨g', hg'⟩ : ∃ g', addM p g (polJ p xs ys K) ((-y) % p) = g' := ⟨_, rfl⟩
      have Hst' := Hst.out
      rw [hg'] at ho6 Hst' ⊢
      have hX' := hide Hst'.1
      have hle' := Hst'.2.1
      have hset := Hst'.2.2
      have zz6 := hm4.size
      have S6 := hide ho6.sl
      have D6 : Hid (0 < g'.length → blk a6 ≠ some (w.heap.size + 1)) := hide (fun _ e => by have := own_blk_ge ho6 _ e; omega)
      have R6 : Hid (RowI w6 (w.heap.size + 1) (exT (expL p xs ys f) g'.length)) := hide (by
        rw [← hset]
        exact hRn.out.next hm5)
      have W6 := hide (hWn.out.trans (hm5.mono hWn.out.size))
      have E6 := hide (show w6.cell? ⟨w.heap.size, 0, none⟩ = some (.int .i64 p) ∧ w6.cell? ⟨w.heap.size, 1, none⟩ = some (.slice a n c) ∧ w6.cell? ⟨w.heap.size, 2, none⟩ = some (.slice b m d) from ⟨(F _ hm5).1, (F _ hm5).2.1, (F _ hm5).2.2.1⟩)
      clear F hm4 hm5 ho4 ho6 t4 t6 s1 s2 s3 sg hRn hWn h0 h1 h2 h3 hbd hset Hst Hst' hg'
      go_wp2
      go_roundw
      case rel => exact ⟨g', g'.length, a6, c6, rfl, hide rfl, hX', S6, D6, R6, W6, E6⟩
      case measure => simp; omega
    · have ht0 : t = 0 := by omega
      subst ht0
      go_wp2
      refine bodyPost_ret (v := .slice (some ⟨w.heap.size + 1, 0, none⟩) q1 q1) (by simp [results, Try.results61, go_sem]) rfl ?_
      have q := hR.out
      rw [exT_all] at q
      have q2 := q.own' (B := w.heap.size) (by omega) (by unfold maxLen; rw [lC.out]; omega)
      rw [lC.out] at q2
      exact ⟨_, _, by rw [lC.out], q2, hW.out⟩
end Go.Proofs.Ytgaafhcnfeipbaa
