/- Contracts: greatestHankel, HankelDeterminant, OrderOf (program). -/
import Derived.Test.YtagheoddbikdgaaHg
import Derived.Test.YtagheoddbikdgaaAm
namespace Go.Proofs.Ytagheoddbikdgaa
open Go.RowKit
set_option linter.unusedVariables false
set_option linter.unusedSimpArgs false

def hkdC (p : Int) (xs : List Int) (k : Int) : Int := if momB p xs then (if 0 ≤ k ∧ 2 * k ≤ (xs.length : Int) + 1 then 0 else 2) else 1
def hkdV (p : Int) (xs : List Int) (k : Int) : Int := if hkdC p xs k = 0 then hkM p xs k.toNat else 0
def ordF (p : Int) (xs : List Int) (G : Nat) : Nat → Nat → Nat
  | 0, n => n
  | f + 1, n => if n < G then (if hkM p xs (n + 1) = 0 then n else ordF p xs G f (n + 1)) else n
def ordM (p : Int) (xs : List Int) : Nat := ordF p xs ((xs.length + 1) / 2) ((xs.length + 1) / 2) 0
def ordC (p : Int) (xs : List Int) : Int := if momB p xs then 0 else 1
def ordV (p : Int) (xs : List Int) : Int := if ordC p xs = 0 then (ordM p xs : Nat) else 0
theorem ordF_out {p : Int} {xs : List Int} {G f n : Nat} (h : ¬ n < G) : ordF p xs G f n = n := by
  cases f with
  | zero => rfl
  | succ f => rw [ordF, if_neg h]
theorem ordF_stop {p : Int} {xs : List Int} {G f n : Nat} (hf : 0 < f) (h : hkM p xs (n + 1) = 0) : ordF p xs G f n = n := by
  obtain ⟨m, rfl⟩ : ∃ m, f = m + 1 := ⟨f - 1, by omega⟩
  rw [ordF]
  by_cases hn : n < G
  · rw [if_pos hn, if_pos h]
  · rw [if_neg hn]
theorem ordF_go {p : Int} {xs : List Int} {G f n : Nat} (hf : 0 < f) (hn : n < G) (h : hkM p xs (n + 1) ≠ 0) : ordF p xs G f n = ordF p xs G (f - 1) (n + 1) := by
  obtain ⟨m, rfl⟩ : ∃ m, f = m + 1 := ⟨f - 1, by omega⟩
  rw [ordF, if_pos hn, if_neg h]
  rfl
theorem ordF_le {p : Int} {xs : List Int} {G : Nat} : ∀ f n, n ≤ G → ordF p xs G f n ≤ G := by
  intro f
  induction f with
  | zero => intro n h; exact h
  | succ f ih =>
    intro n h
    rw [ordF]
    split
    · split
      · exact h
      · exact ih (n + 1) (by omega)
    · exact h
theorem greatestHankel_any (p : Int) (a : Option Addr) (N c : Nat) (G : Nat) (w : World) (hN : N ≤ 1000) (hG : (N + 1) / 2 = G) :
    Calls Try.prog 106 #[mom p a N c] w fun e w' => e = .returned (.int .i64 G) ∧ Below w.heap.size w w' := by
  have hb0 := bl1 w (.cells #[.int .i64 p, .slice a N c] 46)
  have v1 : IntKind.i64.wrap ((N : Int) + 1) = (N : Int) + 1 := IntWalk.i64_in _ (by omega)
  have v2 : ((N : Int) + 1) / 2 = (G : Int) := by omega
  clear hG
  go_enter Try.func106, Try.ntmps106
  go_wp2
  go_ret
  exact ⟨ret_int (by first | exact v2 | rfl), hb0⟩
set_option maxRecDepth 100000 in
set_option maxHeartbeats 1600000 in
theorem implHankelDeterminant (p : Int) (a : Option Addr) (n c : Nat) (xs : List Int) (k : Int) (w : World) (hs : SL w a n c xs) (hn : n ≤ 4000000) :
    Calls Try.prog 48 #[mom p a n c, .int .i64 k] w fun e w' => e = .returned (.tuple #[.int .i64 (hkdV p xs k), .int .i64 (hkdC p xs k)]) ∧ Below w.heap.size w w' := by
  have hl := hide hs.len
  have hb0 := bl1 w (.cells #[.int .i64 p, .slice a n c] 46)
  replace hs := hs.below hb0
  cases hm : momB p xs
  · have Hm := hide hm
    have HC := hide (show hkdC p xs k = 1 by simp [hkdC, hm])
    have HV := hide (show hkdV p xs k = 0 by simp [hkdV, HC.out])
    clear hm
    go_enter Try.func48, Try.ntmps48
    go_wp2_with fail
    refine (areMoments_any _ _ _ _ _ _ hs hn).mono ?_
    rintro e w1 ⟨rfl, t1⟩
    rw [Hm.out]
    have f0 : w1.cell? ⟨w.heap.size, 0, none⟩ = some (.int .i64 p) := cell_be t1 (by simp [go_sem])
    have f1 : w1.cell? ⟨w.heap.size, 1, none⟩ = some (.slice a n c) := cell_be t1 (by simp [go_sem])
    replace hs := hs.below t1
    have B1 := bnext hb0 t1
    have z1 := B1.size
    try simp only [World.size_alloc] at z1
    go_wp2
    go_ret2
    exact ⟨ret_int2 HV.out.symm HC.out.symm, B1⟩
  have Hm := hide hm
  obtain ⟨hpr, m1, m2, hx⟩ := momB_rng hm
  obtain ⟨hp, hp2⟩ := primeB_lo hpr
  rw [hl.out] at m1 m2
  have Hx := hide hx
  obtain ⟨G, hG⟩ : ∃ G, (n + 1) / 2 = G := ⟨_, rfl⟩
  have HG := hide hG
  by_cases k0 : k < 0
  · have HC := hide (show hkdC p xs k = 2 by simp only [hkdC, hm, if_true]; rw [if_neg (by omega)])
    have HV := hide (show hkdV p xs k = 0 by simp [hkdV, HC.out])
    clear hm hG hx hpr
    go_enter Try.func48, Try.ntmps48
    go_wp2_with fail
    refine (areMoments_any _ _ _ _ _ _ hs hn).mono ?_
    rintro e w1 ⟨rfl, t1⟩
    rw [Hm.out]
    have f0 : w1.cell? ⟨w.heap.size, 0, none⟩ = some (.int .i64 p) := cell_be t1 (by simp [go_sem])
    have f1 : w1.cell? ⟨w.heap.size, 1, none⟩ = some (.slice a n c) := cell_be t1 (by simp [go_sem])
    replace hs := hs.below t1
    have B1 := bnext hb0 t1
    have z1 := B1.size
    try simp only [World.size_alloc] at z1
    go_wp2
    go_ret2
    exact ⟨ret_int2 HV.out.symm HC.out.symm, B1⟩
  by_cases k1 : (G : Int) < k
  · have HC := hide (show hkdC p xs k = 2 by simp only [hkdC, hm, if_true]; rw [if_neg (by rw [hl.out]; omega)])
    have HV := hide (show hkdV p xs k = 0 by simp [hkdV, HC.out])
    clear hm hG hx hpr
    go_enter Try.func48, Try.ntmps48
    go_wp2_with fail
    refine (areMoments_any _ _ _ _ _ _ hs hn).mono ?_
    rintro e w1 ⟨rfl, t1⟩
    rw [Hm.out]
    have f0 : w1.cell? ⟨w.heap.size, 0, none⟩ = some (.int .i64 p) := cell_be t1 (by simp [go_sem])
    have f1 : w1.cell? ⟨w.heap.size, 1, none⟩ = some (.slice a n c) := cell_be t1 (by simp [go_sem])
    replace hs := hs.below t1
    have B1 := bnext hb0 t1
    have z1 := B1.size
    try simp only [World.size_alloc] at z1
    go_wp2_with fail
    refine (greatestHankel_any p _ _ _ G _ (by omega) HG.out).mono ?_
    rintro e w2 ⟨rfl, t2⟩
    replace f0 := cell_be t2 f0
    replace f1 := cell_be t2 f1
    replace hs := hs.below t2
    have B2 := bnext B1 t2
    have z2 := B2.size
    try simp only [World.size_alloc] at z2
    go_wp2
    go_ret2
    exact ⟨ret_int2 HV.out.symm HC.out.symm, B2⟩
  obtain ⟨K, rfl⟩ : ∃ K : Nat, k = K := ⟨k.toNat, by omega⟩
  have HC := hide (show hkdC p xs K = 0 by simp only [hkdC, hm, if_true]; rw [if_pos (by rw [hl.out]; omega)])
  have HV := hide (show hkdV p xs K = hkM p xs K by simp [hkdV, HC.out])
  have hK2 : 2 * K ≤ n + 1 := by omega
  clear hm hG hx hpr
  go_enter Try.func48, Try.ntmps48
  go_wp2_with fail
  refine (areMoments_any _ _ _ _ _ _ hs hn).mono ?_
  rintro e w1 ⟨rfl, t1⟩
  rw [Hm.out]
  have f0 : w1.cell? ⟨w.heap.size, 0, none⟩ = some (.int .i64 p) := cell_be t1 (by simp [go_sem])
  have f1 : w1.cell? ⟨w.heap.size, 1, none⟩ = some (.slice a n c) := cell_be t1 (by simp [go_sem])
  replace hs := hs.below t1
  have B1 := bnext hb0 t1
  have z1 := B1.size
  try simp only [World.size_alloc] at z1
  go_wp2_with fail
  refine (greatestHankel_any p _ _ _ G _ (by omega) HG.out).mono ?_
  rintro e w2 ⟨rfl, t2⟩
  replace f0 := cell_be t2 f0
  replace f1 := cell_be t2 f1
  replace hs := hs.below t2
  have B2 := bnext B1 t2
  have z2 := B2.size
  try simp only [World.size_alloc] at z2
  go_wp2_with fail
  refine (hankel_any p _ _ _ xs K _ _ hs rfl m1 (by omega) hK2 hp hp2 Hx.out).mono ?_
  rintro e w3 ⟨rfl, t3⟩
  replace f0 := cell_be t3 f0
  replace f1 := cell_be t3 f1
  replace hs := hs.below t3
  have B3 := bnext B2 t3
  have z3 := B3.size
  try simp only [World.size_alloc] at z3
  go_wp2
  go_ret2
  exact ⟨ret_int2 HV.out.symm HC.out.symm, B3⟩
set_option maxRecDepth 100000 in
set_option maxHeartbeats 1600000 in
theorem implOrderOf (p : Int) (a : Option Addr) (n c : Nat) (xs : List Int) (w : World) (hs : SL w a n c xs) (hn : n ≤ 4000000) :
    Calls Try.prog 50 #[mom p a n c] w fun e w' => e = .returned (.tuple #[.int .i64 (ordV p xs), .int .i64 (ordC p xs)]) ∧ Below w.heap.size w w' := by
  have hl := hide hs.len
  have hb0 := bl1 w (.cells #[.int .i64 p, .slice a n c] 46)
  replace hs := hs.below hb0
  cases hm : momB p xs
  · have Hm := hide hm
    have HC := hide (show ordC p xs = 1 by simp [ordC, hm])
    have HV := hide (show ordV p xs = 0 by simp [ordV, HC.out])
    clear hm
    go_enter Try.func50, Try.ntmps50
    go_wp2_with fail
    refine (areMoments_any _ _ _ _ _ _ hs hn).mono ?_
    rintro e w1 ⟨rfl, t1⟩
    rw [Hm.out]
    have f0 : w1.cell? ⟨w.heap.size, 0, none⟩ = some (.int .i64 p) := cell_be t1 (by simp [go_sem])
    have f1 : w1.cell? ⟨w.heap.size, 1, none⟩ = some (.slice a n c) := cell_be t1 (by simp [go_sem])
    replace hs := hs.below t1
    have B1 := bnext hb0 t1
    have z1 := B1.size
    try simp only [World.size_alloc] at z1
    go_wp2
    go_ret2
    exact ⟨ret_int2 HV.out.symm HC.out.symm, B1⟩
  have Hm := hide hm
  obtain ⟨hpr, m1, m2, hx⟩ := momB_rng hm
  obtain ⟨hp, hp2⟩ := primeB_lo hpr
  rw [hl.out] at m1 m2
  have Hx := hide hx
  obtain ⟨G, hG⟩ : ∃ G, (n + 1) / 2 = G := ⟨_, rfl⟩
  have HG := hide hG
  have HC := hide (show ordC p xs = 0 by simp [ordC, hm])
  have HV := hide (show ordV p xs = (ordF p xs G G 0 : Nat) by simp only [ordV, HC.out, if_true, ordM]; rw [hl.out, hG])
  have hG2 : 2 * G ≤ n + 1 := by omega
  clear hm hG hx hpr
  go_enter Try.func50, Try.ntmps50
  go_wp2_with fail
  refine (areMoments_any _ _ _ _ _ _ hs hn).mono ?_
  rintro e w1 ⟨rfl, t1⟩
  rw [Hm.out]
  have f0 : w1.cell? ⟨w.heap.size, 0, none⟩ = some (.int .i64 p) := cell_be t1 (by simp [go_sem])
  have f1 : w1.cell? ⟨w.heap.size, 1, none⟩ = some (.slice a n c) := cell_be t1 (by simp [go_sem])
  replace hs := hs.below t1
  have B1 := bnext hb0 t1
  have z1 := B1.size
  try simp only [World.size_alloc] at z1
  have hR0 : Hid (ordF p xs G G 0 = ordF p xs G (G - 0) 0) := hide rfl
  have hbz := Below.refl w1.heap.size w1
  go_wp2_with fail
  go_loopw [4] (fun iv wr => ∃ i : Nat, i ≤ G ∧ iv = .int .i64 i ∧ Hid (ordF p xs G G 0 = ordF p xs G (G - i) i) ∧ Below w1.heap.size w1 wr) (fun iv _ => G - (intOf iv).toNat)
  case atStart => exact ⟨0, by omega, rfl, hR0, hbz⟩
  case round =>
    obtain ⟨i, hi, rfl, hR, hbr⟩ := hrel
    clear hR0 hbz
    have s1 := hs.below hbr
    have g0 := cell_be hbr f0
    have g1 := cell_be hbr f1
    have hB := B1.trans (hbr.mono B1.size)
    have vi : IntKind.i64.wrap ((i : Int) + 1) = (i : Int) + 1 := IntWalk.i64_in _ (by omega)
    have vi2 : IntKind.i64.wrap (((i + 1 : Nat) : Int)) = ((i + 1 : Nat) : Int) := IntWalk.i64_in _ (by omega)
    by_cases hlt : i < G
    · have hlt' : (i : Int) < (G : Int) := by omega
      obtain ⟨X, hX⟩ : ∃ X, hkM p xs (i + 1) = X := ⟨_, rfl⟩
      have HX := hide hX
      clear hX
      by_cases hz : X = 0
      · subst hz
        have hF : Hid (ordF p xs G G 0 = i) := hide (by rw [hR.out]; exact ordF_stop (by omega) HX.out)
        go_wp2_with fail
        refine (greatestHankel_any p _ _ _ G _ (by omega) HG.out).mono ?_
        rintro e wa ⟨rfl, ta⟩
        have g0' := cell_be ta g0
        have g1' := cell_be ta g1
        go_wp2_with fail
        refine (hankel_any p _ _ _ xs (i + 1) _ _ (s1.below ta) (by simp) m1 (by omega) (by omega) hp hp2 Hx.out).mono ?_
        rintro e wb ⟨rfl, tb⟩
        rw [HX.out]
        have hBn := hB.trans ((bnext ta tb).mono hB.size)
        go_wp2
        go_ret2
        exact ⟨ret_int2 (by rw [HV.out, hF.out]) HC.out.symm, hBn⟩
      · have ob : (X != 0) = true := by simpa using hz
        have hF : Hid (ordF p xs G G 0 = ordF p xs G (G - (i + 1)) (i + 1)) := hide (by rw [hR.out, ordF_go (by omega) hlt (by rw [HX.out]; exact hz)]; rfl)
        clear hz
        go_wp2_with fail
        refine (greatestHankel_any p _ _ _ G _ (by omega) HG.out).mono ?_
        rintro e wa ⟨rfl, ta⟩
        have g0' := cell_be ta g0
        have g1' := cell_be ta g1
        go_wp2_with fail
        refine (hankel_any p _ _ _ xs (i + 1) _ _ (s1.below ta) (by simp) m1 (by omega) (by omega) hp hp2 Hx.out).mono ?_
        rintro e wb ⟨rfl, tb⟩
        rw [HX.out]
        have hbn := hbr.trans ((bnext ta tb).mono hbr.size)
        go_wp2
        go_roundw
        case rel => exact ⟨i + 1, by omega, by go_num, hF, hbn⟩
        case measure => simp [intOf]; omega
    · have hge : ¬ (i : Int) < (G : Int) := by omega
      have hF : Hid (ordF p xs G G 0 = i) := hide (by rw [hR.out]; exact ordF_out hlt)
      go_wp2_with fail
      refine (greatestHankel_any p _ _ _ G _ (by omega) HG.out).mono ?_
      rintro e wa ⟨rfl, ta⟩
      have hBn := hB.trans (ta.mono hB.size)
      go_wp2
      go_ret2
      exact ⟨ret_int2 (by rw [HV.out, hF.out]) HC.out.symm, hBn⟩
end Go.Proofs.Ytagheoddbikdgaa
