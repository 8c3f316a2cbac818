/- Merged texts. -/
import Derived.Test.YtdjifjlgllohmaaDoorYDS33
import Derived.Test.YtdjifjlgllohmaaDoorYDS38
/- Contracts: OrthogonalPolynomial, NormOf of the model. -/
namespace Go.Proofs.YtdjifjlgllohmaaDoor
open Go.RowKit
set_option linter.unusedVariables false
set_option linter.unusedSimpArgs false

theorem l4_ok {p : Int} {xs : List Int} {k lo : Int} (h : l4C p xs k lo = 0) : momB p xs = true ∧ lo ≤ k ∧ k ≤ 12 ∧ regB p xs k.toNat = true := by
  unfold l4C at h
  by_cases h1 : mcd p xs k lo 12 = 0
  · rw [if_pos h1] at h
    obtain ⟨h2, h3, h4⟩ := mcd_ok h1
    refine ⟨h2, h3, h4, ?_⟩
    cases hr : regB p xs k.toNat
    · rw [hr] at h; cases h
    · rfl
  · rw [if_neg h1] at h; exact absurd h h1
theorem reg_told {p : Int} {xs : List Int} (hm : momB p xs = true) {K : Nat} (h : regB p xs K = true) : 2 * K ≤ xs.length ∧ Told p xs K := by
  obtain ⟨hP, h1, h2, hx⟩ := momB_rng hm
  have t := (reg_TL hP hx h2 K).1 h
  refine ⟨?_, t.told⟩
  unfold regB at h
  simp only [Bool.and_eq_true, decide_eq_true_eq] at h
  exact h.1

set_option maxRecDepth 100000 in
set_option maxHeartbeats 1600000 in
theorem specOrthogonalPolynomial (p : Int) (a2 : Option Addr) (n2 c2 : Nat) (xs : List Int) (k : Int) (w : World) (h2 : SL w a2 n2 c2 xs) (hn : n2 ≤ 4000000) :
    Calls Tryd.prog 21 #[mom p a2 n2 c2, .int .i64 k] w (Res1 w (opoV p xs k) (opoC p xs k)) := by
  have hb0 := bl1 w (.cells #[.int .i64 p, .slice a2 n2 c2] 30)
  have hl := hide h2.len
  replace h2 := h2.below hb0
  go_enter Tryd.func21, Tryd.ntmps21
  go_upto_region 1 with fail
  generalize hwx : w.alloc (.cells #[.int .i64 p, .slice a2 n2 c2] 30) = wx at *
  have m0 : wx.cell? ⟨w.heap.size, 0, none⟩ = some (.int .i64 p) := by rw [← hwx]; simp [go_sem]
  have m1 : wx.cell? ⟨w.heap.size, 1, none⟩ = some (.slice a2 n2 c2) := by rw [← hwx]; simp [go_sem]
  clear hwx
  go_wp2_with fail
  refine (l04Code_any p _ _ _ xs k 0 _ h2 hn (by omega)).mono ?_
  rintro e w1 ⟨rfl, t1⟩
  have hB := hb0.trans (t1.mono hb0.size)
  replace m0 := cell_be t1 m0
  replace m1 := cell_be t1 m1
  replace h2 := h2.below t1
  clear t1 hb0
  have HC := hide (show opoC p xs k = l4C p xs k 0 from rfl)
  by_cases hC : l4C p xs k 0 = 0
  rotate_left
  · have ob : (l4C p xs k 0 != 0) = true := by simpa using hC
    have hV := hide (show opoV p xs k = [] by unfold opoV; rw [HC.out, if_neg hC])
    replace hC := hide hC
    generalize l4C p xs k 0 = C at *
    go_wp2
    refine bodyPost_ret (v := .tuple #[.slice none 0 0, .int .i64 C]) (by simp [results, Tryd.results21, go_sem]) rfl ?_
    exact Res1.nil hV.out HC.out hB
  · obtain ⟨hM, k0, k12, hR⟩ := l4_ok hC
    obtain ⟨K, rfl⟩ : ∃ K : Nat, k = K := ⟨k.toNat, by omega⟩
    rw [Int.toNat_natCast] at hR
    obtain ⟨g2, hT⟩ := reg_told hM hR
    rw [hl.out] at g2
    have hp := (primeB_lo (momB_rng hM).1).1
    have hV := hide (show opoV p xs K = opL p xs K by unfold opoV; rw [HC.out, if_pos hC, Int.toNat_natCast])
    have HC2 := hide (HC.out.trans hC)
    have SK := hide (opL_small hp xs K (by omega)).2
    rw [hC]
    clear hR HC hC
    replace hM := hide hM
    replace hT := hide hT
    go_wp2_with fail
    refine (l04Polys_any p _ _ _ xs K _ h2 hM.out g2 hT.out).mono ?_
    rintro e w2 ⟨a', c', vs, RA, RC, rfl, hvl, hO, hK, t2⟩
    obtain ⟨G, rfl, hcG⟩ := hO.at (by rw [hvl]; omega)
    have ec := hcG K (by rw [hvl]; omega)
    rw [hK.1 K (by omega)] at ec
    have o2 := hide ((hK.2.1 K (by omega)).mono hB.size)
    have q0 : (0 : Int) ≤ (K : Int) := by omega
    have q1 : (K : Int) < (K : Int) + 1 := by omega
    clear hcG hvl hO hK
    go_wp2
    refine bodyPost_ret (v := .tuple #[.slice (RA K) (opL p xs K).length (RC K), .int .i64 0]) (by simp [results, Tryd.results21, go_sem]) rfl ?_
    exact Res1.own HC2.out (by rw [hV.out]) (by rw [hV.out]; exact o2.out) (by rw [hV.out]; have := SK.out; omega) (hB.trans (t2.mono hB.size))
set_option maxRecDepth 100000 in
set_option maxHeartbeats 1600000 in
theorem specNormOf (p : Int) (a2 : Option Addr) (n2 c2 : Nat) (xs : List Int) (k : Int) (w : World) (h2 : SL w a2 n2 c2 xs) (hn : n2 ≤ 4000000) :
    Calls Tryd.prog 26 #[mom p a2 n2 c2, .int .i64 k] w (fun e w' => e = .returned (.tuple #[.int .i64 (nofV p xs k), .int .i64 (nofC p xs k)]) ∧ Below w.heap.size w w') := by
  have hb0 := bl1 w (.cells #[.int .i64 p, .slice a2 n2 c2] 30)
  have hl := hide h2.len
  replace h2 := h2.below hb0
  go_enter Tryd.func26, Tryd.ntmps26
  go_upto_region 1 with fail
  generalize hwx : w.alloc (.cells #[.int .i64 p, .slice a2 n2 c2] 30) = wx at *
  have m0 : wx.cell? ⟨w.heap.size, 0, none⟩ = some (.int .i64 p) := by rw [← hwx]; simp [go_sem]
  have m1 : wx.cell? ⟨w.heap.size, 1, none⟩ = some (.slice a2 n2 c2) := by rw [← hwx]; simp [go_sem]
  clear hwx
  go_wp2_with fail
  refine (l04Code_any p _ _ _ xs k 0 _ h2 hn (by omega)).mono ?_
  rintro e w1 ⟨rfl, t1⟩
  have hB := hb0.trans (t1.mono hb0.size)
  replace m0 := cell_be t1 m0
  replace m1 := cell_be t1 m1
  replace h2 := h2.below t1
  clear t1 hb0
  by_cases hC : l4C p xs k 0 = 0
  rotate_left
  · have ob : (l4C p xs k 0 != 0) = true := by simpa using hC
    have oc : (l4C p xs k 0 == 0) = false := by simpa using hC
    have hC2 := hide (show nofC p xs k = l4C p xs k 0 by
      unfold nofC
      unfold l4C at hC ⊢
      by_cases h1 : mcd p xs k 0 12 = 0
      · rw [if_pos h1] at hC ⊢
        rw [if_pos h1]
        cases hr : regB p xs k.toNat
        · simp [hr]
        · rw [hr] at hC; exact absurd rfl hC
      · rw [if_neg h1, if_neg h1])
    have hV := hide (show nofV p xs k = 0 by unfold nofV; rw [hC2.out, if_neg hC])
    replace hC := hide hC
    generalize l4C p xs k 0 = C at *
    go_wp2
    refine bodyPost_ret (v := .tuple #[.int .i64 0, .int .i64 C]) (by simp [results, Tryd.results26, go_sem]) rfl ?_
    exact ⟨by rw [hV.out, hC2.out], hB⟩
  · obtain ⟨hM, k0, k12, hR⟩ := l4_ok hC
    obtain ⟨K, rfl⟩ : ∃ K : Nat, k = K := ⟨k.toNat, by omega⟩
    rw [Int.toNat_natCast] at hR
    obtain ⟨g2, hT⟩ := reg_told hM hR
    rw [hl.out] at g2
    obtain ⟨hP, m1', m2', hx⟩ := momB_rng hM
    rw [hl.out] at m2'
    obtain ⟨hp, hp2⟩ := primeB_lo hP
    have v1 : IntKind.i64.wrap (2 * (K : Int)) = 2 * (K : Int) := IntWalk.i64_in _ (by omega)
    have v2 : IntKind.i64.wrap (2 * (K : Int) + 1) = 2 * (K : Int) + 1 := IntWalk.i64_in _ (by omega)
    have hc : mcd p xs K 0 12 = 0 := by
      unfold l4C at hC
      by_cases h1 : mcd p xs K 0 12 = 0
      · exact h1
      · rw [if_neg h1] at hC; exact absurd hC h1
    rw [hC]
    by_cases h3 : 2 * K + 1 ≤ n2
    rotate_left
    · have h3' : (n2 : Int) < 2 * (K : Int) + 1 := by omega
      have hC2 := hide (show nofC p xs K = 5 by unfold nofC; rw [if_pos hc, Int.toNat_natCast, hl.out, hR]; simp [h3])
      have hV := hide (show nofV p xs K = 0 by unfold nofV; rw [hC2.out]; rfl)
      clear hC hc hR h3
      replace hM := hide hM
      replace hT := hide hT
      go_wp2
      refine bodyPost_ret (v := .tuple #[.int .i64 0, .int .i64 5]) (by simp [results, Tryd.results26, go_sem]) rfl ?_
      exact ⟨by rw [hV.out, hC2.out], hB⟩
    have h3' : ¬ (n2 : Int) < 2 * (K : Int) + 1 := by omega
    have hC2 := hide (show nofC p xs K = 0 by unfold nofC; rw [if_pos hc, Int.toNat_natCast, hl.out, hR]; simp [h3])
    have hV := hide (show nofV p xs K = nrI p (opL p xs K) xs 0 by unfold nofV; rw [hC2.out, if_pos rfl, Int.toNat_natCast]; rfl)
    have SK := hide (opL_small hp xs K (by omega)).are
    have LK := hide (opL_len hp xs K (by omega)).1
    have QO := hide (own_sq hP xs (show K ≤ 24 by omega))
    clear hC hc hR m1'
    replace hM := hide hM
    replace hT := hide hT
    replace hP := hide hP
    replace hx := hide hx
    have q0 : (0 : Int) ≤ (K : Int) := by omega
    have q1 : (K : Int) < (K : Int) + 1 := by omega
    go_upto_region 6 with fail
    have FF : ∀ w', Below w1.heap.size w1 w' → w'.cell? ⟨w.heap.size, 0, none⟩ = some (.int .i64 p) ∧ w'.cell? ⟨w.heap.size, 1, none⟩ = some (.slice a2 n2 c2) := fun w' hb => ⟨cell_be hb m0, cell_be hb m1⟩
    have hm := (Below.refl w1.heap.size w1).drew
    refine region_E (fun w' => w'.cell? ⟨w.heap.size, 0, none⟩ = some (.int .i64 p) ∧ w'.cell? ⟨w.heap.size, 1, none⟩ = some (.slice a2 n2 c2)) 99 (by kernel_rfl) (FF _ hm) ?_
    intro hS
    refine anyE_takeH 0 rfl (by kernel_rfl) (fun _ _ _ h => h) hS (by rfl) (v := ?_) ?_ ?_
    rotate_left
    · intro w' hSw; (try dsimp only at hSw); go_simp; (try with_reducible rfl)
    try simp only [Act.put, List.setIfInBounds_toArray, List.set_cons_zero, List.set_cons_succ]
    refine anyE_takeH 1 rfl (by kernel_rfl) (fun _ _ _ h => h) hS (by rfl) (v := ?_) ?_ ?_
    rotate_left
    · intro w' hSw; (try dsimp only at hSw); go_simp; (try with_reducible rfl)
    try simp only [Act.put, List.setIfInBounds_toArray, List.set_cons_zero, List.set_cons_succ]
    refine anyE_takeH 2 rfl (by kernel_rfl) (fun _ _ _ h => h) hS (by rfl) (v := ?_) ?_ ?_
    rotate_left
    · intro w' hSw; (try dsimp only at hSw); go_simp; (try with_reducible rfl)
    try simp only [Act.put, List.setIfInBounds_toArray, List.set_cons_zero, List.set_cons_succ]
    refine anyE_takeH 4 rfl (by kernel_rfl) (fun _ _ _ h => h) hS (by rfl) (v := ?_) ?_ ?_
    rotate_left
    · intro w' hSw; (try dsimp only at hSw); go_simp; (try with_reducible rfl)
    try simp only [Act.put, List.setIfInBounds_toArray, List.set_cons_zero, List.set_cons_succ]
    clear hS
    obtain ⟨u0, hu0⟩ : ∃ u, u = w1.drew := ⟨_, rfl⟩
    rw [← hu0] at hm ⊢
    clear hu0
    refine anyE_oneL 3 (by kernel_rfl) rfl (fun K' hK' => ?_)
    go_simp
    refine (l04Polys_any p _ _ _ xs K _ (h2.below hm) hM.out g2 hT.out).mono ?_
    rintro e w2 ⟨a', c', vs, RA, RC, rfl, hvl, hO, hK, t2⟩
    dsimp only
    obtain ⟨G, rfl, hcG⟩ := hO.at (by rw [hvl]; omega)
    have ec := hcG K (by rw [hvl]; omega)
    rw [hK.1 K (by omega), LK.out] at ec
    have o2 := hide (hK.2.1 K (by omega)).sl
    rw [LK.out] at o2
    replace hm := bnext hm t2
    refine hK'.out _ _ (FF _ hm) ?_
    clear hK' K' hcG hvl hO hK t2
    try simp only [Act.put, List.setIfInBounds_toArray, List.set_cons_zero, List.set_cons_succ]
    refine anyE_oneL 5 (by kernel_rfl) rfl (fun K' hK' => ?_)
    go_simp
    refine hK'.out _ _ (FF _ hm) ?_
    clear hK' K'
    try simp only [Act.put, List.setIfInBounds_toArray, List.set_cons_zero, List.set_cons_succ]
    refine anyE_oneL 6 (by kernel_rfl) rfl (fun K' hK' => ?_)
    go_simp
    refine hK'.out _ _ (FF _ hm) ?_
    clear hK' K'
    try simp only [Act.put, List.setIfInBounds_toArray, List.set_cons_zero, List.set_cons_succ]
    refine anyE_oneL 7 (by kernel_rfl) rfl (fun K' hK' => ?_)
    go_simp
    refine (l04Norm_any p _ _ _ xs _ _ _ (opL p xs K) 0 _ _ (h2.below hm) o2.out (by omega) (by omega) (by omega) rfl (by omega) hp hp2 SK.out hx.out QO.out).mono ?_
    rintro e w3 ⟨rfl, t3⟩
    dsimp only
    rw [← hV.out]
    replace hm := bnext hm t3
    refine hK'.out _ _ (FF _ hm) ?_
    clear hK' K'
    try simp only [Act.put, List.setIfInBounds_toArray, List.set_cons_zero, List.set_cons_succ]
    refine anyE_oneL 8 (by kernel_rfl) rfl (fun K' hK' => ?_)
    go_simp
    refine hK'.out _ _ (FF _ hm) ?_
    clear hK' K'
    try simp only [Act.put, List.setIfInBounds_toArray, List.set_cons_zero, List.set_cons_succ]
    refine anyE_oneL 9 (by kernel_rfl) rfl (fun K' hK' => ?_)
    go_simp
    refine hK'.out _ _ (FF _ hm) ?_
    clear hK' K'
    refine anyE_doneL (by kernel_rfl) ?_
    go_wp2
    refine bodyPost_ret (v := .tuple #[.int .i64 (nofV p xs K), .int .i64 0]) (by simp [results, Tryd.results26, go_sem]) rfl ?_
    exact ⟨by rw [hC2.out], hB.trans (hm.mono hB.size)⟩
end Go.Proofs.YtdjifjlgllohmaaDoor
/- Contract: SumOfExpansion of the model. -/
namespace Go.Proofs.YtdjifjlgllohmaaDoor
open Go.RowKit
set_option linter.unusedVariables false
set_option linter.unusedSimpArgs false
set_option maxRecDepth 100000 in
set_option maxHeartbeats 3200000 in
theorem specSumOfExpansion (p : Int) (a2 : Option Addr) (n2 c2 : Nat) (xs : List Int) (a4 : Option Addr) (k c4 : Nat) (ys : List Int) (w : World) (h2 : SL w a2 n2 c2 xs) (h4 : SL w a4 k c4 ys) (hn : n2 ≤ 4000000) (hk : k ≤ 4000000) :
    Calls Tryd.prog 33 #[mom p a2 n2 c2, .slice a4 k c4] w (Res1 w (soeV p xs ys) (soeC p xs ys)) := by
  have hb0 := bl1 w (.cells #[.int .i64 p, .slice a2 n2 c2] 30)
  have hl2 := hide h2.len
  have hl4 := hide h4.len
  replace h2 := h2.below hb0
  replace h4 := h4.below hb0
  go_enter Tryd.func33, Tryd.ntmps33
  go_upto_region 1 with fail
  generalize hwx : w.alloc (.cells #[.int .i64 p, .slice a2 n2 c2] 30) = wx at *
  have m0 : wx.cell? ⟨w.heap.size, 0, none⟩ = some (.int .i64 p) := by rw [← hwx]; simp [go_sem]
  have m1 : wx.cell? ⟨w.heap.size, 1, none⟩ = some (.slice a2 n2 c2) := by rw [← hwx]; simp [go_sem]
  clear hwx
  go_wp2_with fail
  refine (l02Are_any p _ _ _ xs _ h2 hn).mono ?_
  rintro e w1 ⟨rfl, t1⟩
  have hB := hb0.trans (t1.mono hb0.size)
  replace m0 := cell_be t1 m0
  replace m1 := cell_be t1 m1
  replace h2 := h2.below t1
  replace h4 := h4.below t1
  clear t1 hb0
  cases hm : momB p xs
  · have HC := hide (show soeC p xs ys = 1 by unfold soeC; rw [hm]; rfl)
    have HE := hide (show soeV p xs ys = [] by unfold soeV; rw [HC.out]; rfl)
    replace hm := hide hm
    go_wp2
    refine bodyPost_ret (v := .tuple #[.slice none 0 0, .int .i64 1]) (by simp [results, Tryd.results33, go_sem]) rfl ?_
    exact Res1.nil HE.out HC.out hB
  obtain ⟨hP, q1, q2, hx⟩ := momB_rng hm
  rw [hl2.out] at q2
  obtain ⟨hp, hp2⟩ := primeB_lo hP
  have Hm := hide hm
  by_cases hk12 : k ≤ 12
  rotate_left
  · have HC := hide (show soeC p xs ys = 2 by unfold soeC; rw [if_pos hm, if_neg (by rw [hl4.out]; omega)])
    have HE := hide (show soeV p xs ys = [] by unfold soeV; rw [HC.out]; rfl)
    have hg : (12 : Int) < (k : Int) := by omega
    clear hm hk12
    go_wp2
    refine bodyPost_ret (v := .tuple #[.slice none 0 0, .int .i64 2]) (by simp [results, Tryd.results33, go_sem]) rfl ?_
    exact Res1.nil HE.out HC.out hB
  have hg : ¬ (12 : Int) < (k : Int) := by omega
  cases hy : areB p ys
  · have HC := hide (show soeC p xs ys = 2 by unfold soeC; rw [if_pos hm, if_neg (by rw [hy]; simp)])
    have HE := hide (show soeV p xs ys = [] by unfold soeV; rw [HC.out]; rfl)
    have Hy := hide hy
    clear hm hy
    go_wp2_with fail
    refine (l02Numbers_any p _ _ _ ys _ h4 (by omega) (by omega) (by omega)).mono ?_
    rintro e w2 ⟨rfl, rfl⟩
    rw [Hy.out]
    go_wp2
    refine bodyPost_ret (v := .tuple #[.slice none 0 0, .int .i64 2]) (by simp [results, Tryd.results33, go_sem]) rfl ?_
    exact Res1.nil HE.out HC.out hB
  have Hy := hide hy
  have ba := bl1 w1 (.cells #[] 2)
  by_cases hk0 : k = 0
  · have HC := hide (show soeC p xs ys = 0 by
      unfold soeC
      rw [if_pos hm, if_pos ⟨by rw [hl4.out]; exact hk12, hy⟩, hl4.out, hk0, if_pos]
      unfold regB
      simp)
    have HE := hide (show soeV p xs ys = [] by unfold soeV; rw [HC.out, hl4.out, hk0]; rfl)
    have hg2 : ¬ (0 : Int) < (k : Int) := by omega
    have hg3 : ((k : Int) == 0) = true := by simp [hk0]
    have ho := hide (World.ownsRow_lit w1 (base := w.heap.size) (e := 2) (size := 1) #[] 0 hB.size (by simp) rfl)
    have hb3 := hB.trans (ba.mono hB.size)
    replace hk0 := hide hk0
    clear hm hy ba
    go_wp2_with fail
    refine (l02Numbers_any p _ _ _ ys _ h4 (by omega) (by omega) (by omega)).mono ?_
    rintro e w2 ⟨rfl, rfl⟩
    rw [Hy.out]
    go_wp2
    refine bodyPost_ret (v := .tuple #[.slice (some ⟨w1.heap.size, 0, none⟩) 0 0, .int .i64 0]) (by simp [results, Tryd.results33, go_sem]) rfl ?_
    exact Res1.own HC.out (by rw [HE.out]; rfl) (by rw [HE.out]; exact ho.out) (by rw [HE.out]; simp) hb3
  obtain ⟨K, hK⟩ : ∃ K, k = K + 1 := ⟨k - 1, by omega⟩
  have hg2 : (0 : Int) < (k : Int) := by omega
  have hg3 : ((k : Int) == 0) = false := by simp; omega
  have vK : IntKind.i64.wrap ((k : Int) - 1) = (K : Int) := by rw [IntWalk.i64_in _ (by omega)]; omega
  have hKi : (K : Int) + 1 = (k : Int) := by omega
  have hKk : K = k - 1 := by omega
  replace hKi := hide hKi
  replace hK := hide hK
  have HR := hide (show soeC p xs ys = if regB p xs K = true then 0 else 5 by unfold soeC; rw [if_pos hm, if_pos ⟨by rw [hl4.out]; exact hk12, hy⟩, hl4.out, hKk])
  have HKk := hide hKk
  clear hKk
  cases hr : regB p xs K
  · have HC := hide (show soeC p xs ys = 5 by rw [HR.out, hr]; rfl)
    have HE := hide (show soeV p xs ys = [] by unfold soeV; rw [HC.out]; rfl)
    have Hr := hide hr
    clear hm hy hr ba
    go_wp2_with fail
    refine (l02Numbers_any p _ _ _ ys _ h4 (by omega) (by omega) (by omega)).mono ?_
    rintro e w2 ⟨rfl, rfl⟩
    rw [Hy.out]
    go_wp2_with fail
    refine (l04Regular_any p _ _ _ xs K _ h2 Hm.out (by have := hK.out; omega)).mono ?_
    rintro e w3 ⟨rfl, t3⟩
    rw [Hr.out]
    go_wp2
    refine bodyPost_ret (v := .tuple #[.slice none 0 0, .int .i64 5]) (by simp [results, Tryd.results33, go_sem]) rfl ?_
    exact Res1.nil HE.out HC.out (hB.trans (t3.mono hB.size))
  have HC := hide (show soeC p xs ys = 0 by rw [HR.out, hr]; rfl)
  have HE := hide (show soeV p xs ys = soeL p xs ys k by unfold soeV; rw [HC.out, if_pos rfl, hl4.out])
  obtain ⟨g2, hT⟩ := reg_told hm hr
  rw [hl2.out] at g2
  have Hr := hide hr
  have HT := hide hT
  clear hm hy hr hT ba q1
  go_wp2_with fail
  refine (l02Numbers_any p _ _ _ ys _ h4 (by omega) (by omega) (by omega)).mono ?_
  rintro e w2 ⟨rfl, rfl⟩
  rw [Hy.out]
  go_wp2_with fail
  refine (l04Regular_any p _ _ _ xs K _ h2 Hm.out (by have := hK.out; omega)).mono ?_
  rintro e w3 ⟨rfl, t3⟩
  rw [Hr.out]
  replace hB := hB.trans (t3.mono hB.size)
  replace m0 := cell_be t3 m0
  replace m1 := cell_be t3 m1
  replace h2 := h2.below t3
  replace h4 := h4.below t3
  clear t3
  have la := bl1 w3 (.cells #[] 2)
  have ho0 := hide (show Own w.heap.size (w3.alloc (.cells #[] 2)) (some ⟨w3.heap.size, 0, none⟩) 0 [] from World.ownsRow_lit w3 (base := w.heap.size) (e := 2) (size := 1) #[] 0 hB.size (by simp) rfl)
  replace hB := hB.trans (la.mono hB.size)
  replace m0 := cell_be la m0
  replace m1 := cell_be la m1
  replace h2 := h2.below la
  replace h4 := h4.below la
  clear la
  go_wp2_with fail
  generalize (w3.alloc (.cells #[] 2)) = wa at *
  generalize (some (⟨w3.heap.size, 0, none⟩ : Addr)) = ad0 at *
  refine (l04Polys_any p _ _ _ xs K _ h2 Hm.out g2 HT.out).mono ?_
  rintro e w4 ⟨aa, cc, ws, RA, RC, rfl, hwl, hOV, hKQ, t4⟩
  have hG0 := OwnV.blkLtQ hOV
  obtain ⟨G, rfl, hcG⟩ := hOV.at (by rw [hwl]; omega)
  have gks : ∀ j, j < K + 1 → w4.cell? ⟨G, j, none⟩ = some (.slice (RA j) (j + 1) (RC j)) := fun j hj => by
    have := hcG j (by rw [hwl]; omega)
    rw [hKQ.1 j hj, (opL_len hp xs j (by have := hK.out; omega)).1] at this
    exact this
  have sls : ∀ j, j < K + 1 → SL w4 (RA j) (j + 1) (RC j) (opL p xs j) := fun j hj => by
    have := (hKQ.2.1 j hj).sl
    rwa [(opL_len hp xs j (by have := hK.out; omega)).1] at this
  replace hB := hB.trans (t4.mono hB.size)
  replace m0 := cell_be t4 m0
  replace ho0 := hide (ho0.out.below t4)
  replace h4 := h4.below t4
  obtain ⟨bl, ol, rfl, hwl4, hcl4⟩ := h4.at (by have := hK.out; omega)
  clear t4 hwl hOV hKQ hcG hG0 m1 h2
  have hR0 := hide (Below.refl w4.heap.size w4)
  go_wp2
  go_loopw [6, 8] (fun sv iv wr => ∃ (t : Nat) (a' : Option Addr) (c' : Nat), t ≤ k ∧ iv = .int .i64 t ∧ sv = .slice a' (soeL p xs ys t).length c' ∧ Hid (Own w.heap.size wr a' c' (soeL p xs ys t)) ∧ Hid (Below w4.heap.size w4 wr)) (fun _ iv _ => k - (intOf iv).toNat)
  case atStart => exact ⟨0, _, _, by omega, rfl, rfl, ho0, hR0⟩
  case round =>
    obtain ⟨t, a', c', ht, rfl, rfl, ho, hW⟩ := hrel
    clear ho0 hR0
    by_cases hlt : t < k
    · have hlt' : (t : Int) < (k : Int) := by omega
      have q0 : (0 : Int) ≤ (t : Int) := by omega
      have q1 : (t : Int) < (K : Int) + 1 := by have := hKi.out; omega
      have v5 : IntKind.i64.wrap ((t : Int) + 1) = (t : Int) + 1 := IntWalk.i64_in _ (by omega)
      have tK : t < K + 1 := by have := hK.out; omega
      have M0 := cell_be hW.out m0
      have gk := cell_be hW.out (gks t tK)
      have sk := hide ((sls t tK).below hW.out)
      have YK := cell_be hW.out (hcl4 t hlt)
      obtain ⟨yk0, yk1⟩ := areB_at Hy.out t (by rw [hl4.out]; exact hlt)
      have hVn := hide (show soeL p xs ys (t + 1) = addM p (soeL p xs ys t) (opL p xs t) (ys.getD t 0) from rfl)
      obtain ⟨yk, hyk⟩ : ∃ yk, ys.getD t 0 = yk := ⟨_, rfl⟩
      have hVs := soeL_small hp xs ys t (by omega)
      obtain ⟨vs, hvs⟩ : ∃ vs, soeL p xs ys t = vs := ⟨_, rfl⟩
      rw [hyk] at YK yk0 yk1 hVn
      rw [hvs] at ho hVn hVs
      have vsl : vs.length ≤ 12 := by have := hVs.2; omega
      have AV := hide hVs.are
      have AO := hide (opL_small hp xs t (by omega)).are
      have zr := hW.out.size
      rw [hvs]
      have Hvs := hide hvs
      clear hyk hVs hvs
      go_upto_region 14 with fail
      have FF : ∀ v, Below wr.heap.size wr v → (v.cell? ⟨w.heap.size, 0, none⟩ = some (.int .i64 p) ∧ v.cell? ⟨G, t, none⟩ = some (.slice (RA t) (t + 1) (RC t)) ∧ v.cell? ⟨bl, ol + t, none⟩ = some (.int .i64 yk)) := fun v hv => ⟨cell_be hv M0, cell_be hv gk, cell_be hv YK⟩
      have hm := (Below.refl wr.heap.size wr).drew
      refine region_E (fun v => v.cell? ⟨w.heap.size, 0, none⟩ = some (.int .i64 p) ∧ v.cell? ⟨G, t, none⟩ = some (.slice (RA t) (t + 1) (RC t)) ∧ v.cell? ⟨bl, ol + t, none⟩ = some (.int .i64 yk)) 99 (by kernel_rfl) (FF _ hm) ?_
      intro hS
      refine anyE_takeH 0 rfl (by kernel_rfl) (fun _ _ _ h => h) hS (by rfl) (v := ?_) ?_ ?_
      rotate_left
      · intro w' hSw; (try dsimp only at hSw); go_simp; (try with_reducible rfl)
      try simp only [Act.put, List.setIfInBounds_toArray, List.set_cons_zero, List.set_cons_succ]
      refine anyE_takeH 1 rfl (by kernel_rfl) (fun _ _ _ h => h) hS (by rfl) (v := ?_) ?_ ?_
      rotate_left
      · intro w' hSw; (try dsimp only at hSw); go_simp; (try with_reducible rfl)
      try simp only [Act.put, List.setIfInBounds_toArray, List.set_cons_zero, List.set_cons_succ]
      refine anyE_takeH 2 rfl (by kernel_rfl) (fun _ _ _ h => h) hS (by rfl) (v := ?_) ?_ ?_
      rotate_left
      · intro w' hSw; (try dsimp only at hSw); go_simp; (try with_reducible rfl)
      try simp only [Act.put, List.setIfInBounds_toArray, List.set_cons_zero, List.set_cons_succ]
      refine anyE_takeH 3 rfl (by kernel_rfl) (fun _ _ _ h => h) hS (by rfl) (v := ?_) ?_ ?_
      rotate_left
      · intro w' hSw; (try dsimp only at hSw); go_simp; (try with_reducible rfl)
      try simp only [Act.put, List.setIfInBounds_toArray, List.set_cons_zero, List.set_cons_succ]
      refine anyE_takeH 4 rfl (by kernel_rfl) (fun _ _ _ h => h) hS (by rfl) (v := ?_) ?_ ?_
      rotate_left
      · intro w' hSw; (try dsimp only at hSw); go_simp; (try with_reducible rfl)
      try simp only [Act.put, List.setIfInBounds_toArray, List.set_cons_zero, List.set_cons_succ]
      refine anyE_takeH 5 rfl (by kernel_rfl) (fun _ _ _ h => h) hS (by rfl) (v := ?_) ?_ ?_
      rotate_left
      · intro w' hSw; (try dsimp only at hSw); go_simp; (try with_reducible rfl)
      try simp only [Act.put, List.setIfInBounds_toArray, List.set_cons_zero, List.set_cons_succ]
      refine anyE_takeH 6 rfl (by kernel_rfl) (fun _ _ _ h => h) hS (by rfl) (v := ?_) ?_ ?_
      rotate_left
      · intro w' hSw; (try dsimp only at hSw); go_simp; (try with_reducible rfl)
      try simp only [Act.put, List.setIfInBounds_toArray, List.set_cons_zero, List.set_cons_succ]
      refine anyE_takeH 7 rfl (by kernel_rfl) (fun _ _ _ h => h) hS (by rfl) (v := ?_) ?_ ?_
      rotate_left
      · intro w' hSw; (try dsimp only at hSw); go_simp; (try with_reducible rfl)
      try simp only [Act.put, List.setIfInBounds_toArray, List.set_cons_zero, List.set_cons_succ]
      refine anyE_takeH 8 rfl (by kernel_rfl) (fun _ _ _ h => h) hS (by rfl) (v := ?_) ?_ ?_
      rotate_left
      · intro w' hSw; (try dsimp only at hSw); go_simp; (try with_reducible rfl)
      try simp only [Act.put, List.setIfInBounds_toArray, List.set_cons_zero, List.set_cons_succ]
      refine anyE_takeH 9 rfl (by kernel_rfl) (fun _ _ _ h => h) hS (by rfl) (v := ?_) ?_ ?_
      rotate_left
      · intro w' hSw; (try dsimp only at hSw); go_simp; (try with_reducible rfl)
      try simp only [Act.put, List.setIfInBounds_toArray, List.set_cons_zero, List.set_cons_succ]
      refine anyE_takeH 10 rfl (by kernel_rfl) (fun _ _ _ h => h) hS (by rfl) (v := ?_) ?_ ?_
      rotate_left
      · intro w' hSw; (try dsimp only at hSw); go_simp; (try with_reducible rfl)
      try simp only [Act.put, List.setIfInBounds_toArray, List.set_cons_zero, List.set_cons_succ]
      clear hS
      obtain ⟨u0, hu0⟩ : ∃ u, u = wr.drew := ⟨_, rfl⟩
      rw [← hu0] at hm ⊢
      clear hu0
      refine anyE_oneL 11 (by kernel_rfl) rfl (fun K' hK' => ?_)
      go_simp
      refine (l01Add_any p yk a' vs.length c' vs (RA t) (t + 1) (RC t) (opL p xs t) _ (ho.out.sl.below hm) (sk.out.below hm) (by omega) (by omega) hp hp2 yk0 yk1 AV.out AO.out).mono ?_
      rintro e y1 ⟨ad', cap', rfl, hown2, tt⟩
      dsimp only
      have hzm := hm.size
      have hm2 := bnext hm tt
      refine hK'.out _ _ (FF _ hm2) ?_
      clear hK' K'
      try simp only [Act.put, List.setIfInBounds_toArray, List.set_cons_zero, List.set_cons_succ]
      refine anyE_oneL 12 (by kernel_rfl) rfl (fun K' hK' => ?_)
      go_simp
      refine hK'.out _ _ (FF _ hm2) ?_
      clear hK' K'
      refine anyE_doneL (by kernel_rfl) ?_
      have hBs := hB.size
      have HO9 := hide (hown2.mono (show w.heap.size ≤ u0.heap.size by omega))
      have W9 := hide (hW.out.trans (hm2.mono zr))
      have Hln := hide (show (soeL p xs ys (t + 1)).length = (addM p vs (opL p xs t) yk).length by rw [hVn.out])
      rw [← hVn.out] at HO9
      clear FF hm hm2 tt hown2 M0 gk YK
      go_wp2
      go_roundw
      case rel => exact ⟨t + 1, ad', cap', by omega, by go_num, by rw [Hln.out], HO9, W9⟩
      case measure => simp [intOf]; omega
    · have hte : Hid (t = k) := hide (by omega)
      have hge : ¬ (t : Int) < (k : Int) := by omega
      have hVs := hide (soeL_small hp xs ys t (by omega)).2
      go_wp2
      refine bodyPost_ret (v := .tuple #[.slice a' (soeL p xs ys t).length c', .int .i64 0]) (by simp [results, Tryd.results33, go_sem]) rfl ?_
      exact Res1.own HC.out (by rw [HE.out, hte.out]) (by rw [HE.out, ← hte.out]; exact ho.out) (by rw [HE.out, ← hte.out]; have := hVs.out; omega) (hB.trans (hW.out.mono hB.size))
end Go.Proofs.YtdjifjlgllohmaaDoor
