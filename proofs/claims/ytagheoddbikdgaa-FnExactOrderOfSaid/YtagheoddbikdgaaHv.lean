/- Contracts: HankelDeterminant, l02Order, OrderOf (model). -/
import Derived.Test.YtagheoddbikdgaaHu
namespace Go.Proofs.Ytagheoddbikdgaa
open Go.RowKit
set_option linter.unusedVariables false
set_option linter.unusedSimpArgs false

set_option maxRecDepth 100000 in
set_option maxHeartbeats 1600000 in
theorem specHankelDeterminant (p : Int) (a : Option Addr) (n c : Nat) (xs : List Int) (k : Int) (w : World) (hs : SL w a n c xs) (hn : n ≤ 4000000) :
    Calls Try.prog 47 #[mom p a n c, .int .i64 k] w fun e w' => e = .returned (.tuple #[.int .i64 (hkdV p xs k), .int .i64 (hkdC p xs k)]) ∧ Below w.heap.size w w' := by
  have hl := hide hs.len
  have hb0 := bl1 w (.cells #[.int .i64 p, .slice a n c] 46)
  replace hs := hs.below hb0
  cases hm : momB p xs
  · have Hm := hide hm
    have HC := hide (show hkdC p xs k = 1 by simp [hkdC, hm])
    have HV := hide (show hkdV p xs k = 0 by simp [hkdV, HC.out])
    clear hm
    go_enter Try.func47, Try.ntmps47
    go_wp2_with fail
    refine (l02Are_any _ _ _ _ _ _ hs hn).mono ?_
    rintro e w1 ⟨rfl, t1⟩
    rw [Hm.out]
    have f0 : w1.cell? ⟨w.heap.size, 0, none⟩ = some (.int .i64 p) := cell_be t1 (by simp [go_sem])
    have f1 : w1.cell? ⟨w.heap.size, 1, none⟩ = some (.slice a n c) := cell_be t1 (by simp [go_sem])
    replace hs := hs.below t1
    have B1 := bnext hb0 t1
    have z1 := B1.size
    try simp only [World.size_alloc] at z1
    go_wp2
    go_ret2
    exact ⟨ret_int2 HV.out.symm HC.out.symm, B1⟩
  have Hm := hide hm
  obtain ⟨hpr, m1, m2, hx⟩ := momB_rng hm
  obtain ⟨hp, hp2⟩ := primeB_lo hpr
  rw [hl.out] at m1 m2
  have Hx := hide hx
  obtain ⟨G, hG⟩ : ∃ G, (n + 1) / 2 = G := ⟨_, rfl⟩
  have v1 : IntKind.i64.wrap ((n : Int) + 1) = (n : Int) + 1 := IntWalk.i64_in _ (by omega)
  have v2 : ((n : Int) + 1) / 2 = (G : Int) := by omega
  by_cases hkn : 0 ≤ k ∧ k ≤ (G : Int)
  rotate_left
  · have HC := hide (show hkdC p xs k = 2 by simp only [hkdC, hm, if_true]; rw [if_neg (by rw [hl.out]; omega)])
    have HV := hide (show hkdV p xs k = 0 by simp [hkdV, HC.out])
    clear hm hG hx hpr
    go_enter Try.func47, Try.ntmps47
    go_wp2_with fail
    refine (l02Are_any _ _ _ _ _ _ hs hn).mono ?_
    rintro e w1 ⟨rfl, t1⟩
    rw [Hm.out]
    have f0 : w1.cell? ⟨w.heap.size, 0, none⟩ = some (.int .i64 p) := cell_be t1 (by simp [go_sem])
    have f1 : w1.cell? ⟨w.heap.size, 1, none⟩ = some (.slice a n c) := cell_be t1 (by simp [go_sem])
    replace hs := hs.below t1
    have B1 := bnext hb0 t1
    have z1 := B1.size
    try simp only [World.size_alloc] at z1
    go_wp2_with fail
    refine (l01In_no k 0 (G : Int) _ hkn).mono ?_
    rintro e v2 ⟨rfl, rfl⟩
    go_wp2
    go_ret2
    exact ⟨ret_int2 HV.out.symm HC.out.symm, B1⟩
  obtain ⟨K, rfl⟩ : ∃ K : Nat, k = K := ⟨k.toNat, by omega⟩
  have HC := hide (show hkdC p xs K = 0 by simp only [hkdC, hm, if_true]; rw [if_pos (by rw [hl.out]; omega)])
  have HV := hide (show hkdV p xs K = hkM p xs K by simp [hkdV, HC.out])
  have hK2 : 2 * K ≤ n + 1 := by omega
  clear hm hG hx hpr
  go_enter Try.func47, Try.ntmps47
  go_wp2_with fail
  refine (l02Are_any _ _ _ _ _ _ hs hn).mono ?_
  rintro e w1 ⟨rfl, t1⟩
  rw [Hm.out]
  have f0 : w1.cell? ⟨w.heap.size, 0, none⟩ = some (.int .i64 p) := cell_be t1 (by simp [go_sem])
  have f1 : w1.cell? ⟨w.heap.size, 1, none⟩ = some (.slice a n c) := cell_be t1 (by simp [go_sem])
  replace hs := hs.below t1
  have B1 := bnext hb0 t1
  have z1 := B1.size
  try simp only [World.size_alloc] at z1
  go_wp2_with fail
  refine (l01In_yes _ 0 (G : Int) _ (by omega) (by omega)).mono ?_
  rintro e v2 ⟨rfl, rfl⟩
  go_wp2_with fail
  refine (l02Hankel_any p _ _ _ xs K _ _ hs rfl m1 (by omega) hK2 hp hp2 Hx.out).mono ?_
  rintro e w3 ⟨rfl, t3⟩
  replace f0 := cell_be t3 f0
  replace f1 := cell_be t3 f1
  replace hs := hs.below t3
  have B3 := bnext B1 t3
  have z3 := B3.size
  try simp only [World.size_alloc] at z3
  go_wp2
  go_ret2
  exact ⟨ret_int2 HV.out.symm HC.out.symm, B3⟩
set_option maxRecDepth 100000 in
set_option maxHeartbeats 1600000 in
theorem l02Order_any (p : Int) (a : Option Addr) (n c : Nat) (xs : List Int) (w : World) (hs : SL w a n c xs) (hm : momB p xs = true) :
    Calls Try.prog 108 #[mom p a n c] w fun e w' => e = .returned (.int .i64 (ordM p xs : Nat)) ∧ Below w.heap.size w w' := by
  have hl := hide hs.len
  have hb0 := bl1 w (.cells #[.int .i64 p, .slice a n c] 46)
  replace hs := hs.below hb0
  obtain ⟨hpr, m1, m2, hx⟩ := momB_rng hm
  obtain ⟨hp, hp2⟩ := primeB_lo hpr
  rw [hl.out] at m1 m2
  have Hx := hide hx
  obtain ⟨G, hG⟩ : ∃ G, (n + 1) / 2 = G := ⟨_, rfl⟩
  have v1 : IntKind.i64.wrap ((n : Int) + 1) = (n : Int) + 1 := IntWalk.i64_in _ (by omega)
  have v2 : ((n : Int) + 1) / 2 = (G : Int) := by omega
  have HO := hide (show ordM p xs = ordF p xs G G 0 by unfold ordM; rw [hl.out, hG])
  have hG2 : 2 * G ≤ n + 1 := by omega
  clear hm hG hx hpr
  obtain ⟨w1, hw1⟩ : ∃ w1, w1 = w.alloc (.cells #[.int .i64 p, .slice a n c] 46) := ⟨_, rfl⟩
  have f0 : w1.cell? ⟨w.heap.size, 0, none⟩ = some (.int .i64 p) := by rw [hw1]; simp [go_sem]
  have f1 : w1.cell? ⟨w.heap.size, 1, none⟩ = some (.slice a n c) := by rw [hw1]; simp [go_sem]
  rw [← hw1] at hs hb0
  have hR0 : Hid (ordF p xs G G 0 = ordF p xs G (G - 0) 0) := hide rfl
  have hbz := Below.refl w1.heap.size w1
  go_enter Try.func108, Try.ntmps108
  go_upto_region 1 with fail
  rw [← hw1]
  clear hw1
  go_wp2_with fail
  go_loopw [3] (fun iv wr => ∃ i : Nat, i ≤ G ∧ iv = .int .i64 i ∧ Hid (ordF p xs G G 0 = ordF p xs G (G - i) i) ∧ Below w1.heap.size w1 wr) (fun iv _ => G - (intOf iv).toNat)
  case atStart => exact ⟨0, by omega, rfl, hR0, hbz⟩
  case round =>
    obtain ⟨i, hi, rfl, hR, hbr⟩ := hrel
    clear hR0 hbz
    have s1 := hs.below hbr
    have g0 := cell_be hbr f0
    have g1 := cell_be hbr f1
    have hB := hb0.trans (hbr.mono hb0.size)
    have vi : IntKind.i64.wrap ((i : Int) + 1) = (i : Int) + 1 := IntWalk.i64_in _ (by omega)
    by_cases hlt : i < G
    · have hlt' : (i : Int) < (G : Int) := by omega
      obtain ⟨X, hX⟩ : ∃ X, hkM p xs (i + 1) = X := ⟨_, rfl⟩
      have HX := hide hX
      clear hX
      by_cases hz : X = 0
      · subst hz
        have hF : Hid (ordF p xs G G 0 = i) := hide (by rw [hR.out]; exact ordF_stop (by omega) HX.out)
        go_wp2_with fail
        refine (l02Hankel_any p _ _ _ xs (i + 1) _ _ s1 (by simp) m1 (by omega) (by omega) hp hp2 Hx.out).mono ?_
        rintro e wb ⟨rfl, tb⟩
        rw [HX.out]
        have hBn := hB.trans (tb.mono hB.size)
        go_wp2
        go_ret
        exact ⟨ret_int (by rw [HO.out, hF.out]), hBn⟩
      · have ob : (X != 0) = true := by simpa using hz
        have hF : Hid (ordF p xs G G 0 = ordF p xs G (G - (i + 1)) (i + 1)) := hide (by rw [hR.out, ordF_go (by omega) hlt (by rw [HX.out]; exact hz)]; rfl)
        clear hz
        go_wp2_with fail
        refine (l02Hankel_any p _ _ _ xs (i + 1) _ _ s1 (by simp) m1 (by omega) (by omega) hp hp2 Hx.out).mono ?_
        rintro e wb ⟨rfl, tb⟩
        rw [HX.out]
        have hbn := hbr.trans (tb.mono hbr.size)
        go_wp2
        go_roundw
        case rel => exact ⟨i + 1, by omega, by go_num, hF, hbn⟩
        case measure => simp [intOf]; omega
    · have hge : ¬ (i : Int) < (G : Int) := by omega
      have hF : Hid (ordF p xs G G 0 = i) := hide (by rw [hR.out]; exact ordF_out hlt)
      go_wp2
      go_ret
      exact ⟨ret_int (by rw [HO.out, hF.out]), hB⟩
set_option maxRecDepth 100000 in
set_option maxHeartbeats 1600000 in
theorem specOrderOf (p : Int) (a : Option Addr) (n c : Nat) (xs : List Int) (w : World) (hs : SL w a n c xs) (hn : n ≤ 4000000) :
    Calls Try.prog 49 #[mom p a n c] w fun e w' => e = .returned (.tuple #[.int .i64 (ordV p xs), .int .i64 (ordC p xs)]) ∧ Below w.heap.size w w' := by
  have hl := hide hs.len
  have hb0 := bl1 w (.cells #[.int .i64 p, .slice a n c] 46)
  replace hs := hs.below hb0
  cases hm : momB p xs
  · have Hm := hide hm
    have HC := hide (show ordC p xs = 1 by simp [ordC, hm])
    have HV := hide (show ordV p xs = 0 by simp [ordV, HC.out])
    clear hm
    go_enter Try.func49, Try.ntmps49
    go_wp2_with fail
    refine (l02Are_any _ _ _ _ _ _ hs hn).mono ?_
    rintro e w1 ⟨rfl, t1⟩
    rw [Hm.out]
    have f0 : w1.cell? ⟨w.heap.size, 0, none⟩ = some (.int .i64 p) := cell_be t1 (by simp [go_sem])
    have f1 : w1.cell? ⟨w.heap.size, 1, none⟩ = some (.slice a n c) := cell_be t1 (by simp [go_sem])
    replace hs := hs.below t1
    have B1 := bnext hb0 t1
    have z1 := B1.size
    try simp only [World.size_alloc] at z1
    go_wp2
    go_ret2
    exact ⟨ret_int2 HV.out.symm HC.out.symm, B1⟩
  have Hm := hide hm
  have HC := hide (show ordC p xs = 0 by simp [ordC, hm])
  have HV := hide (show ordV p xs = (ordM p xs : Nat) by simp [ordV, HC.out])
  clear hm
  go_enter Try.func49, Try.ntmps49
  go_wp2_with fail
  refine (l02Are_any _ _ _ _ _ _ hs hn).mono ?_
  rintro e w1 ⟨rfl, t1⟩
  rw [Hm.out]
  have f0 : w1.cell? ⟨w.heap.size, 0, none⟩ = some (.int .i64 p) := cell_be t1 (by simp [go_sem])
  have f1 : w1.cell? ⟨w.heap.size, 1, none⟩ = some (.slice a n c) := cell_be t1 (by simp [go_sem])
  replace hs := hs.below t1
  have B1 := bnext hb0 t1
  have z1 := B1.size
  try simp only [World.size_alloc] at z1
  go_wp2_with fail
  refine (l02Order_any p _ _ _ xs _ hs Hm.out).mono ?_
  rintro e w2 ⟨rfl, t2⟩
  replace f0 := cell_be t2 f0
  replace f1 := cell_be t2 f1
  replace hs := hs.below t2
  have B2 := bnext B1 t2
  have z2 := B2.size
  try simp only [World.size_alloc] at z2
  go_wp2
  go_ret2
  exact ⟨ret_int2 HV.out.symm HC.out.symm, B2⟩
end Go.Proofs.Ytagheoddbikdgaa
