/- Contracts: AddMass (program and model). -/
import Derived.Test.YtllcgoachgfpjaaKa
import Derived.Test.YtllcgoachgfpjaaNo
import Derived.Test.YtllcgoachgfpjaaAx
import Derived.Test.YtllcgoachgfpjaaRx
import Derived.Test.YtllcgoachgfpjaaCs
namespace Go.Proofs.Ytllcgoachgfpjaa
open Go.RowKit
set_option linter.unusedVariables false
set_option linter.unusedSimpArgs false

def adkS (p c t : Int) : Nat → Int
  | 0 => t
  | k + 1 => adkS p c t k * c % p
theorem adkS_rng {p : Int} (hp : 2 ≤ p) (c : Int) {t : Int} (h0 : 0 ≤ t) (h1 : t < p) (k : Nat) : 0 ≤ adkS p c t k ∧ adkS p c t k < p := by
  cases k with
  | zero => exact ⟨h0, h1⟩
  | succ k => exact modb hp
theorem adkS_eq {p : Int} (hp : 2 ≤ p) (c : Int) {t : Int} (h0 : 0 ≤ t) (h1 : t < p) (k : Nat) : adkS p c t k = t * pwN p c k % p := by
  induction k with
  | zero => simp [adkS, pwN, Int.emod_eq_of_lt h0 h1]
  | succ k ih =>
    rw [adkS, ih, pwN, Int.mul_emod, Int.emod_emod_of_dvd _ (Int.dvd_refl p), ← Int.mul_emod, Int.mul_emod t (pwN p c k * c % p), Int.emod_emod_of_dvd _ (Int.dvd_refl p), ← Int.mul_emod, Int.mul_assoc]
def adkC (p : Int) (xs : List Int) (c t : Int) : Int := if momB p xs then (if (0 ≤ c ∧ c ≤ p - 1) ∧ (0 ≤ t ∧ t < p) then 0 else 2) else 1
def adkV (p : Int) (xs : List Int) (c t : Int) : List Int := if adkC p xs c t = 0 then addlM p t xs (tab xs.length (pwN p c)) else []
def adkP (p : Int) (xs : List Int) (c t : Int) : Int := if adkC p xs c t = 0 then p else 0
def adkF (p : Int) (xs : List Int) (c t : Int) (k : Nat) : Int := (xs.getD k 0 + adkS p c t k) % p
theorem adk_all {p : Int} (hp : 2 ≤ p) (xs : List Int) (c : Int) {t : Int} (h0 : 0 ≤ t) (h1 : t < p) : addlM p t xs (tab xs.length (pwN p c)) = tab xs.length (adkF p xs c t) := by
  unfold addlM
  apply tab_congr
  intro j hj
  unfold adkF
  rw [adkS_eq hp c h0 h1, tab_at _ _ _ hj, Int.add_emod_emod]
set_option maxRecDepth 100000 in
set_option maxHeartbeats 3200000 in
theorem implAddMass (p : Int) (a : Option Addr) (n c : Nat) (xs : List Int) (x t : Int) (w : World) (hs : SL w a n c xs) (hn : n ≤ 4000000) :
    Calls Try.prog 25 #[mom p a n c, .int .i64 x, .int .i64 t] w (ResM w (adkP p xs x t) (adkV p xs x t) (adkC p xs x t)) := by
  have hl := hide hs.len
  have hb0 := bl2 w (.cells #[.int .i64 p, .slice a n c] 26) (.cells #[.int .i64 0, .slice none 0 0] 26)
  have g1 := hs.below hb0
  cases hm : momB p xs
  · have HC := hide (show adkC p xs x t = 1 by simp [adkC, hm])
    have HV := hide (show adkV p xs x t = [] by simp [adkV, HC.out])
    have HQ := hide (show adkP p xs x t = 0 by simp [adkP, HC.out])
    have Hm := hide hm
    clear hm
    go_enter Try.func25, Try.ntmps25
    go_wp2_with fail
    refine (checkMoments_any _ _ _ _ _ _ _ _ 1 _ g1 hn (by simp [mcd, Hm.out])).mono ?_
    rintro e w1 ⟨rfl, hb1⟩
    have f0 : w1.cell? ⟨w.heap.size, 0, none⟩ = some (.int .i64 p) := cell_be hb1 (by simp [go_sem])
    have f1 : w1.cell? ⟨w.heap.size, 1, none⟩ = some (.slice a n c) := cell_be hb1 (by simp [go_sem])
    have r0 : w1.cell? ⟨w.heap.size + 1, 0, none⟩ = some (.int .i64 0) := cell_be hb1 (by simp [go_sem])
    have r1 : w1.cell? ⟨w.heap.size + 1, 1, none⟩ = some (.slice none 0 0) := cell_be hb1 (by simp [go_sem])
    have y0 : w1.frozen? ⟨w.heap.size + 1, 0, none⟩ = false := (hb1.frozen (by simp)).trans (by simp [go_sem])
    have y1 : w1.frozen? ⟨w.heap.size + 1, 1, none⟩ = false := (hb1.frozen (by simp)).trans (by simp [go_sem])
    have hB1 := bnext hb0 hb1
    go_wp2
    refine bodyPost_ret (v := .tuple #[mom 0 none 0 0, .int .i64 1]) (by simp [results, Try.results25, go_sem, r0, r1]) rfl ?_
    exact ResM.nil HQ.out HV.out HC.out ((hB1.setCell (by simp) _).setCell (by simp) _)
  obtain ⟨hpr, k1, k2, hx⟩ := momB_rng hm
  obtain ⟨hp, hp2⟩ := primeB_lo hpr
  rw [hl.out] at k1 k2
  have vp : IntKind.i64.wrap (p - 1) = p - 1 := IntWalk.i64_in _ (by omega)
  by_cases hr : 0 ≤ x ∧ x ≤ p - 1
  rotate_left
  · have HR := hide (show mcd p xs x 0 (p - 1) = 2 by simp only [mcd, hm, if_true]; rw [if_neg hr])
    have HC := hide (show adkC p xs x t = 2 by simp only [adkC, hm, if_true]; rw [if_neg (fun h => hr h.1)])
    have HV := hide (show adkV p xs x t = [] by simp [adkV, HC.out])
    have HQ := hide (show adkP p xs x t = 0 by simp [adkP, HC.out])
    clear hm hr hx
    go_enter Try.func25, Try.ntmps25
    go_wp2_with fail
    refine (checkMoments_any _ _ _ _ _ _ _ _ 2 _ g1 hn HR.out).mono ?_
    rintro e w1 ⟨rfl, hb1⟩
    have f0 : w1.cell? ⟨w.heap.size, 0, none⟩ = some (.int .i64 p) := cell_be hb1 (by simp [go_sem])
    have f1 : w1.cell? ⟨w.heap.size, 1, none⟩ = some (.slice a n c) := cell_be hb1 (by simp [go_sem])
    have r0 : w1.cell? ⟨w.heap.size + 1, 0, none⟩ = some (.int .i64 0) := cell_be hb1 (by simp [go_sem])
    have r1 : w1.cell? ⟨w.heap.size + 1, 1, none⟩ = some (.slice none 0 0) := cell_be hb1 (by simp [go_sem])
    have y0 : w1.frozen? ⟨w.heap.size + 1, 0, none⟩ = false := (hb1.frozen (by simp)).trans (by simp [go_sem])
    have y1 : w1.frozen? ⟨w.heap.size + 1, 1, none⟩ = false := (hb1.frozen (by simp)).trans (by simp [go_sem])
    have hB1 := bnext hb0 hb1
    go_wp2
    refine bodyPost_ret (v := .tuple #[mom 0 none 0 0, .int .i64 2]) (by simp [results, Try.results25, go_sem, r0, r1]) rfl ?_
    exact ResM.nil HQ.out HV.out HC.out ((hB1.setCell (by simp) _).setCell (by simp) _)
  have HR := hide (show mcd p xs x 0 (p - 1) = 0 by simp only [mcd, hm, if_true]; rw [if_pos hr])
  by_cases ht : 0 ≤ t ∧ t < p
  rotate_left
  · have HC := hide (show adkC p xs x t = 2 by simp only [adkC, hm, if_true]; rw [if_neg (fun h => ht h.2)])
    have HV := hide (show adkV p xs x t = [] by simp [adkV, HC.out])
    have HQ := hide (show adkP p xs x t = 0 by simp [adkP, HC.out])
    have Ht := hide ht
    clear hm hr hx ht
    go_enter Try.func25, Try.ntmps25
    go_wp2_with fail
    refine (checkMoments_any _ _ _ _ _ _ _ _ 0 _ g1 hn HR.out).mono ?_
    rintro e w1 ⟨rfl, hb1⟩
    have f0 : w1.cell? ⟨w.heap.size, 0, none⟩ = some (.int .i64 p) := cell_be hb1 (by simp [go_sem])
    have f1 : w1.cell? ⟨w.heap.size, 1, none⟩ = some (.slice a n c) := cell_be hb1 (by simp [go_sem])
    have r0 : w1.cell? ⟨w.heap.size + 1, 0, none⟩ = some (.int .i64 0) := cell_be hb1 (by simp [go_sem])
    have r1 : w1.cell? ⟨w.heap.size + 1, 1, none⟩ = some (.slice none 0 0) := cell_be hb1 (by simp [go_sem])
    have y0 : w1.frozen? ⟨w.heap.size + 1, 0, none⟩ = false := (hb1.frozen (by simp)).trans (by simp [go_sem])
    have y1 : w1.frozen? ⟨w.heap.size + 1, 1, none⟩ = false := (hb1.frozen (by simp)).trans (by simp [go_sem])
    have hB1 := bnext hb0 hb1
    go_wp2_with fail
    refine (isNumber_no _ _ _ Ht.out).mono ?_
    rintro e w1' ⟨rfl, rfl⟩
    go_wp2
    refine bodyPost_ret (v := .tuple #[mom 0 none 0 0, .int .i64 2]) (by simp [results, Try.results25, go_sem, r0, r1]) rfl ?_
    exact ResM.nil HQ.out HV.out HC.out ((hB1.setCell (by simp) _).setCell (by simp) _)
  have HC := hide (show adkC p xs x t = 0 by simp only [adkC, hm, if_true]; rw [if_pos ⟨hr, ht⟩])
  have HV := hide (show adkV p xs x t = addlM p t xs (tab n (pwN p x)) by rw [adkV, if_pos HC.out, hl.out])
  have HQ := hide (show adkP p xs x t = p by rw [adkP, if_pos HC.out])
  obtain ⟨x0, x1⟩ := hr
  have Hx := hide hx
  have HT := hide ht
  have PA := hide (show areB p (tab n (pwN p x)) = true from areB_mk fun j hj => by rw [tab_len] at hj; rw [tab_at _ _ _ hj]; exact pwN_rng hp x j)
  clear hm hx hpr ht
  go_enter Try.func25, Try.ntmps25
  go_wp2_with fail
  refine (checkMoments_any _ _ _ _ _ _ _ _ 0 _ g1 hn HR.out).mono ?_
  rintro e w1 ⟨rfl, hb1⟩
  have f0 : w1.cell? ⟨w.heap.size, 0, none⟩ = some (.int .i64 p) := cell_be hb1 (by simp [go_sem])
  have f1 : w1.cell? ⟨w.heap.size, 1, none⟩ = some (.slice a n c) := cell_be hb1 (by simp [go_sem])
  have r0 : w1.cell? ⟨w.heap.size + 1, 0, none⟩ = some (.int .i64 0) := cell_be hb1 (by simp [go_sem])
  have r1 : w1.cell? ⟨w.heap.size + 1, 1, none⟩ = some (.slice none 0 0) := cell_be hb1 (by simp [go_sem])
  have y0 : w1.frozen? ⟨w.heap.size + 1, 0, none⟩ = false := (hb1.frozen (by simp)).trans (by simp [go_sem])
  have y1 : w1.frozen? ⟨w.heap.size + 1, 1, none⟩ = false := (hb1.frozen (by simp)).trans (by simp [go_sem])
  have hB1 := bnext hb0 hb1
  have z1 := hb1.size
  simp at z1
  have s1 := g1.below hb1
  go_wp2_with fail
  refine (isNumber_yes _ _ _ HT.out.1 HT.out.2).mono ?_
  rintro e w1' ⟨rfl, rfl⟩
  have hbd := (Below.refl w1.heap.size w1).drew
  have F : ∀ w', Below w1.heap.size w1 w' → w'.cell? ⟨w.heap.size, 1, none⟩ = some (.slice a n c) := fun w' hb => cell_be hb f1
  go_upto_region 7 with fail
  go_region_held3 (fun w' => w'.cell? ⟨w.heap.size, 1, none⟩ = some (.slice a n c))
    (first | exact F _ (by assumption) | exact cell_set2 (cell_set2 x1' (by simp <;> omega) _) (by simp <;> omega) _)
    (first
    | (go_at_call 68; refine (powersOf_any p x n _ hp hp2 x0 (by omega) k1 (by omega)).mono ?_; rintro e w2 ⟨a2, c2, rfl, o2, t2⟩; have m2 := bnext hbd t2)
    | (go_at_call 67; refine (addList_any p t _ _ _ xs _ n _ (tab n (pwN p x)) _ (s1.below m2) (by simpa [tab_len] using o2.sl) (by omega) (Nat.le_refl _) hp hp2 HT.out.1 HT.out.2 Hx.out PA.out).mono ?_; rintro e w3 ⟨a3, rfl, o3, t3⟩; have m3 := bnext m2 t3; have x1' := F _ m3; have r0' := cell_be m3 r0; have r1' := cell_be m3 r1; have y0' := (m3.frozen (World.block_lt_of_cell? _ _ r0)).trans y0; have y1' := (m3.frozen (World.block_lt_of_cell? _ _ r1)).trans y1))
  all_goals go_wp2
  refine bodyPost_ret (v := .tuple #[mom p a3 n n, .int .i64 0]) (by simp [results, Try.results25, go_sem, r0', r1']) rfl ?_
  have zz : w1.heap.size ≤ w2.heap.size := t2.size
  exact ResM.own HQ.out HC.out (by rw [HV.out, addlM_len, hl.out]) (by rw [HV.out]; exact ((o3.setLow (by first | omega | (simp; omega)) _).setLow (by first | omega | (simp; omega)) _).mono (by first | omega | (simp; omega))) (by rw [HV.out, addlM_len, hl.out]; omega) (((hB1.trans (m3.mono (by omega))).setCell (by simp) _).setCell (by simp) _)
set_option maxRecDepth 100000 in
set_option maxHeartbeats 6400000 in
theorem specAddMass (p : Int) (a : Option Addr) (n c : Nat) (xs : List Int) (x t : Int) (w : World) (hs : SL w a n c xs) (hn : n ≤ 4000000) :
    Calls Try.prog 24 #[mom p a n c, .int .i64 x, .int .i64 t] w (ResM w (adkP p xs x t) (adkV p xs x t) (adkC p xs x t)) := by
  have hl := hide hs.len
  have hb0 := bl2 w (.cells #[.int .i64 p, .slice a n c] 26) (.cells #[.int .i64 0, .slice none 0 0] 26)
  have g1 := hs.below hb0
  have hbL := bl1 ((w.alloc (.cells #[.int .i64 p, .slice a n c] 26)).alloc (.cells #[.int .i64 0, .slice none 0 0] 26)) (.cells #[.int .i64 x, .int .i64 t] 2)
  have g2 := g1.below hbL
  have hb02 := bnext hb0 hbL
  have gx : SL ((((w.alloc (.cells #[.int .i64 p, .slice a n c] 26)).alloc (.cells #[.int .i64 0, .slice none 0 0] 26)).alloc (.cells #[.int .i64 x, .int .i64 t] 2))) (some ⟨w.heap.size + 1 + 1, 0, none⟩) 2 2 [x, t] := by simpa using litSL2 ((w.alloc (.cells #[.int .i64 p, .slice a n c] 26)).alloc (.cells #[.int .i64 0, .slice none 0 0] 26)) x t
  cases hm : momB p xs
  · have HC := hide (show adkC p xs x t = 1 by simp [adkC, hm])
    have HV := hide (show adkV p xs x t = [] by simp [adkV, HC.out])
    have HQ := hide (show adkP p xs x t = 0 by simp [adkP, HC.out])
    have Hm := hide hm
    clear hm
    go_enter Try.func24, Try.ntmps24
    go_wp2_with fail
    refine (l08Number_any _ _ _ _ _ _ _ _ [x, t] 1 _ g2 gx hn (by omega) (by simp [mnd, Hm.out])).mono ?_
    rintro e w1 ⟨rfl, hb1⟩
    have f0 : w1.cell? ⟨w.heap.size, 0, none⟩ = some (.int .i64 p) := cell_be hb1 (by simp [go_sem])
    have f1 : w1.cell? ⟨w.heap.size, 1, none⟩ = some (.slice a n c) := cell_be hb1 (by simp [go_sem])
    have r0 : w1.cell? ⟨w.heap.size + 1, 0, none⟩ = some (.int .i64 0) := cell_be hb1 (by simp [go_sem])
    have r1 : w1.cell? ⟨w.heap.size + 1, 1, none⟩ = some (.slice none 0 0) := cell_be hb1 (by simp [go_sem])
    have y0 : w1.frozen? ⟨w.heap.size + 1, 0, none⟩ = false := (hb1.frozen (by simp)).trans (by simp [go_sem])
    have y1 : w1.frozen? ⟨w.heap.size + 1, 1, none⟩ = false := (hb1.frozen (by simp)).trans (by simp [go_sem])
    have hB1 := bnext hb02 hb1
    go_wp2
    refine bodyPost_ret (v := .tuple #[mom 0 none 0 0, .int .i64 1]) (by simp [results, Try.results24, go_sem, r0, r1]) rfl ?_
    exact ResM.nil HQ.out HV.out HC.out ((hB1.setCell (by simp) _).setCell (by simp) _)
  obtain ⟨hpr, k1, k2, hx⟩ := momB_rng hm
  obtain ⟨hp, hp2⟩ := primeB_lo hpr
  rw [hl.out] at k1 k2
  by_cases hr : (0 ≤ x ∧ x ≤ p - 1) ∧ (0 ≤ t ∧ t < p)
  rotate_left
  · have HR := hide (show mnd p xs [x, t] = 2 by simp only [mnd, hm, if_true, areB_two]; rw [if_neg (by simp only [decide_eq_true_eq]; omega)])
    have HC := hide (show adkC p xs x t = 2 by simp only [adkC, hm, if_true]; rw [if_neg hr])
    have HV := hide (show adkV p xs x t = [] by simp [adkV, HC.out])
    have HQ := hide (show adkP p xs x t = 0 by simp [adkP, HC.out])
    clear hm hr hx
    go_enter Try.func24, Try.ntmps24
    go_wp2_with fail
    refine (l08Number_any _ _ _ _ _ _ _ _ [x, t] 2 _ g2 gx hn (by omega) HR.out).mono ?_
    rintro e w1 ⟨rfl, hb1⟩
    have f0 : w1.cell? ⟨w.heap.size, 0, none⟩ = some (.int .i64 p) := cell_be hb1 (by simp [go_sem])
    have f1 : w1.cell? ⟨w.heap.size, 1, none⟩ = some (.slice a n c) := cell_be hb1 (by simp [go_sem])
    have r0 : w1.cell? ⟨w.heap.size + 1, 0, none⟩ = some (.int .i64 0) := cell_be hb1 (by simp [go_sem])
    have r1 : w1.cell? ⟨w.heap.size + 1, 1, none⟩ = some (.slice none 0 0) := cell_be hb1 (by simp [go_sem])
    have y0 : w1.frozen? ⟨w.heap.size + 1, 0, none⟩ = false := (hb1.frozen (by simp)).trans (by simp [go_sem])
    have y1 : w1.frozen? ⟨w.heap.size + 1, 1, none⟩ = false := (hb1.frozen (by simp)).trans (by simp [go_sem])
    have hB1 := bnext hb02 hb1
    go_wp2
    refine bodyPost_ret (v := .tuple #[mom 0 none 0 0, .int .i64 2]) (by simp [results, Try.results24, go_sem, r0, r1]) rfl ?_
    exact ResM.nil HQ.out HV.out HC.out ((hB1.setCell (by simp) _).setCell (by simp) _)
  have HR := hide (show mnd p xs [x, t] = 0 by simp only [mnd, hm, if_true, areB_two]; rw [if_pos (by simp only [decide_eq_true_eq]; omega)])
  have HC := hide (show adkC p xs x t = 0 by simp only [adkC, hm, if_true]; rw [if_pos hr])
  have HV := hide (show adkV p xs x t = tab n (adkF p xs x t) by rw [adkV, if_pos HC.out, adk_all hp xs x hr.2.1 hr.2.2, hl.out])
  have HQ := hide (show adkP p xs x t = p by rw [adkP, if_pos HC.out])
  obtain ⟨⟨x0, x1⟩, ht⟩ := hr
  have Hx := hide hx
  have SR := hide (fun k => adkS_rng hp x ht.1 ht.2 k)
  clear hm hx hpr ht
  go_enter Try.func24, Try.ntmps24
  go_wp2_with fail
  refine (l08Number_any _ _ _ _ _ _ _ _ [x, t] 0 _ g2 gx hn (by omega) HR.out).mono ?_
  rintro e w2 ⟨rfl, hb2⟩
  have f0 : w2.cell? ⟨w.heap.size, 0, none⟩ = some (.int .i64 p) := cell_be hb2 (by simp [go_sem])
  have f1 : w2.cell? ⟨w.heap.size, 1, none⟩ = some (.slice a n c) := cell_be hb2 (by simp [go_sem])
  have r0 : w2.cell? ⟨w.heap.size + 1, 0, none⟩ = some (.int .i64 0) := cell_be hb2 (by simp [go_sem])
  have r1 : w2.cell? ⟨w.heap.size + 1, 1, none⟩ = some (.slice none 0 0) := cell_be hb2 (by simp [go_sem])
  have y0 : w2.frozen? ⟨w.heap.size + 1, 0, none⟩ = false := (hb2.frozen (by simp)).trans (by simp [go_sem])
  have y1 : w2.frozen? ⟨w.heap.size + 1, 1, none⟩ = false := (hb2.frozen (by simp)).trans (by simp [go_sem])
  have hB := bnext hb02 hb2
  have hzz : w.heap.size + 2 ≤ w2.heap.size := by have := hb2.size; simp at this; omega
  have hO0 : Hid (Own w2.heap.size ((w2.alloc (.cells #[] 2)).alloc (.cells #[.int .i64 p, .slice (some ⟨w2.heap.size, 0, none⟩) 0 0] 26)) (some ⟨w2.heap.size, 0, none⟩) 0 (tab 0 (adkF p xs x t))) := hide (by
    have := World.ownsRow_lit w2 (base := w2.heap.size) (e := 2) (size := 1) #[] 0 (Nat.le_refl _) (by simp) rfl
    exact Own.below (ys := []) this (bl1 _ _))
  have hB0 := bl2 w2 (.cells #[] 2) (.cells #[.int .i64 p, .slice (some ⟨w2.heap.size, 0, none⟩) 0 0] 26)
  go_wp2
  go_loopw [10, 11] (fun pv iv wr => ∃ (k : Nat) (a' : Option Addr) (c' : Nat), k ≤ n ∧ pv = .int .i64 (adkS p x t k) ∧ iv = .int .i64 k ∧ Hid (Own w2.heap.size wr a' c' (tab k (adkF p xs x t))) ∧ Hid (blk a' ≠ some (w2.heap.size + 1)) ∧
    wr.cell? ⟨w2.heap.size + 1, 0, none⟩ = some (.int .i64 p) ∧ wr.cell? ⟨w2.heap.size + 1, 1, none⟩ = some (.slice a' k c') ∧ wr.frozen? ⟨w2.heap.size + 1, 1, none⟩ = false ∧ Below w2.heap.size w2 wr ∧ w2.heap.size + 2 ≤ wr.heap.size) (fun _ iv _ => n - (intOf iv).toNat)
  case atStart => exact ⟨0, some ⟨w2.heap.size, 0, none⟩, 0, by omega, rfl, rfl, hO0, hide (by simp [blk]), by simp [go_sem], by simp [go_sem], by simp [go_sem], hB0, by simp⟩
  case round =>
    obtain ⟨k, a', c', hk, rfl, rfl, hO, hne, s0, s1, sf, hbr, hsz⟩ := hrel
    clear hO0 hB0
    have hBr := hB.trans (hbr.mono (by omega))
    replace f0 := cell_be hbr f0
    replace f1 := cell_be hbr f1
    by_cases hlt : k < n
    · obtain ⟨b, off, rfl, hbw, hcell⟩ := hs.at (by omega)
      have e1 := cell_be hBr (hcell k hlt)
      have hst : Hid (tab (k + 1) (adkF p xs x t) = tab k (adkF p xs x t) ++ [(xs.getD k 0 + adkS p x t k) % p]) := hide (tab_snoc k (adkF p xs x t)).symm
      have hpw := hide (show adkS p x t (k + 1) = adkS p x t k * x % p from rfl)
      have rx := getD_rng Hx.out hp k
      have ry := SR.out k
      obtain ⟨u, hu⟩ : ∃ u, xs.getD k 0 = u := ⟨_, rfl⟩
      obtain ⟨y, hy⟩ : ∃ y, adkS p x t k = y := ⟨_, rfl⟩
      rw [hu] at e1 hst rx
      rw [hy] at hst ry hpw ⊢
      obtain ⟨m1, m2⟩ := mulb ry.1 ry.2 x0 (show x < p by omega) hp2
      have v1 : IntKind.i64.wrap (y * x) = y * x := IntWalk.i64_in _ (by omega)
      have v2 : (y * x).tmod p = y * x % p := Int.tmod_eq_emod_of_nonneg (by omega)
      have v4 : IntKind.i64.wrap (u + y) = u + y := IntWalk.i64_in _ (by omega)
      have v6 : (u + y).tmod p = (u + y) % p := Int.tmod_eq_emod_of_nonneg (by omega)
      have v7 := modb (x := u + y) hp
      have v8 := modb (x := y * x) hp
      obtain ⟨v, hv⟩ : ∃ v, (u + y) % p = v := ⟨_, rfl⟩
      obtain ⟨z, hz⟩ : ∃ z, y * x % p = z := ⟨_, rfl⟩
      rw [hv] at hst v6 v7
      rw [hz] at hpw v2 v8
      have v5 : IntKind.i64.wrap v = v := IntWalk.i64_in _ (by omega)
      have v9 : IntKind.i64.wrap z = z := IntWalk.i64_in _ (by omega)
      have hp0 : ¬ p = 0 := by omega
      obtain ⟨zs, hzs⟩ : ∃ zs, tab k (adkF p xs x t) = zs := ⟨_, rfl⟩
      have hzl := hide (show zs.length = k by rw [← hzs, tab_len])
      rw [hzs] at hO hst
      clear hu hy hv hz hzs hcell
      have hlt' : (k : Int) < (n : Int) := by omega
      have s00 : (0 : Int) ≤ (k : Int) := by omega
      have s0a : ((wr.alloc (.cells #[.int .i64 v] 2)).drew).cell? ⟨w2.heap.size + 1, 0, none⟩ = some (.int .i64 p) := cell_al s0 (.cells #[.int .i64 v] 2)
      have s1a : ((wr.alloc (.cells #[.int .i64 v] 2)).drew).cell? ⟨w2.heap.size + 1, 1, none⟩ = some (.slice a' k c') := cell_al s1 (.cells #[.int .i64 v] 2)
      have sfa : ((wr.alloc (.cells #[.int .i64 v] 2)).drew).frozen? ⟨w2.heap.size + 1, 1, none⟩ = false := frz_al s1 sf (.cells #[.int .i64 v] 2)
      have hba : Below wr.heap.size wr ((wr.alloc (.cells #[.int .i64 v] 2)).drew) := (bl1 wr _).drew
      have hOa := hide (hO.out.below hba)
      have hcl : ((wr.alloc (.cells #[.int .i64 v] 2)).drew).cell? ⟨wr.heap.size, 0, none⟩ = some (.int .i64 v) := by simp [go_sem]
      clear hO
      have hb2' : Below w2.heap.size w2 ((wr.alloc (.cells #[.int .i64 v] 2)).drew) := (hbr.alloc (by omega) _).drew
      have F : ∀ w', Below wr.heap.size wr w' → w'.cell? ⟨w.heap.size, 0, none⟩ = some (.int .i64 p) ∧ w'.cell? ⟨w.heap.size, 1, none⟩ = some (.slice (some ⟨b, off, none⟩) n c) ∧ w'.cell? ⟨b, off + k, none⟩ = some (.int .i64 u) := fun w' hb => ⟨cell_be hb f0, cell_be hb f1, cell_be hb e1⟩
      have hbd := (Below.refl wr.heap.size wr).drew
      go_upto_region 8 with fail
      refine region_E (fun w' => w'.cell? ⟨w.heap.size, 0, none⟩ = some (.int .i64 p) ∧ w'.cell? ⟨w.heap.size, 1, none⟩ = some (.slice (some ⟨b, off, none⟩) n c) ∧ w'.cell? ⟨b, off + k, none⟩ = some (.int .i64 u) ∧ w'.cell? ⟨w2.heap.size + 1, 1, none⟩ = some (.slice a' k c')) 15 (by kernel_rfl) ?_ ?_
      · have F0 := F _ hbd
        exact ⟨F0.1, F0.2.1, F0.2.2, cell_be hbd s1⟩
      intro hS
      refine anyE_takeL 0 rfl (by kernel_rfl) (fun _ _ _ h => h) hS (by rfl) (v := ?_) ?_ ?_
      rotate_left
      · intro w' hSw; (try dsimp only at hSw); go_simp; (try with_reducible rfl)
      try simp only [Act.put, List.setIfInBounds_toArray, List.set_cons_zero, List.set_cons_succ]
      refine anyE_takeL 1 rfl (by kernel_rfl) (fun _ _ _ h => h) hS (by rfl) (v := ?_) ?_ ?_
      rotate_left
      · intro w' hSw; (try dsimp only at hSw); go_simp; (try with_reducible rfl)
      try simp only [Act.put, List.setIfInBounds_toArray, List.set_cons_zero, List.set_cons_succ]
      refine anyE_takeL 2 rfl (by kernel_rfl) (fun _ _ _ h => h) hS (by rfl) (v := ?_) ?_ ?_
      rotate_left
      · intro w' hSw; (try dsimp only at hSw); go_simp; (try with_reducible rfl)
      try simp only [Act.put, List.setIfInBounds_toArray, List.set_cons_zero, List.set_cons_succ]
      refine anyE_takeL 3 rfl (by kernel_rfl) (fun _ _ _ h => h) hS (by rfl) (v := ?_) ?_ ?_
      rotate_left
      · intro w' hSw; (try dsimp only at hSw); go_simp; (try with_reducible rfl)
      try simp only [Act.put, List.setIfInBounds_toArray, List.set_cons_zero, List.set_cons_succ]
      refine anyE_takeL 4 rfl (by kernel_rfl) (fun _ _ _ h => h) hS (by rfl) (v := ?_) ?_ ?_
      rotate_left
      · intro w' hSw; (try dsimp only at hSw); go_simp; (try with_reducible rfl)
      try simp only [Act.put, List.setIfInBounds_toArray, List.set_cons_zero, List.set_cons_succ]
      refine anyE_takeL 5 rfl (by kernel_rfl) (fun _ _ _ h => h) hS (by rfl) (v := ?_) ?_ ?_
      rotate_left
      · intro w' hSw; (try dsimp only at hSw); go_simp; (try with_reducible rfl)
      try simp only [Act.put, List.setIfInBounds_toArray, List.set_cons_zero, List.set_cons_succ]
      refine anyE_takeL 6 rfl (by kernel_rfl) (fun _ _ _ h => h) hS (by rfl) (v := ?_) ?_ ?_
      rotate_left
      · intro w' hSw; (try dsimp only at hSw); go_simp; (try with_reducible rfl)
      try simp only [Act.put, List.setIfInBounds_toArray, List.set_cons_zero, List.set_cons_succ]
      refine anyE_takeL 7 rfl (by kernel_rfl) (fun _ _ _ h => h) hS (by rfl) (v := ?_) ?_ ?_
      rotate_left
      · intro w' hSw; (try dsimp only at hSw); go_simp; (try with_reducible rfl)
      try simp only [Act.put, List.setIfInBounds_toArray, List.set_cons_zero, List.set_cons_succ]
      refine anyE_takeL 8 rfl (by kernel_rfl) (fun _ _ _ h => h) hS (by rfl) (v := ?_) ?_ ?_
      rotate_left
      · intro w' hSw; (try dsimp only at hSw); go_simp; (try with_reducible rfl)
      try simp only [Act.put, List.setIfInBounds_toArray, List.set_cons_zero, List.set_cons_succ]
      refine anyE_takeL 9 rfl (by kernel_rfl) (fun _ _ _ h => h) hS (by rfl) (v := ?_) ?_ ?_
      rotate_left
      · intro w' hSw; (try dsimp only at hSw); go_simp; (try with_reducible rfl)
      try simp only [Act.put, List.setIfInBounds_toArray, List.set_cons_zero, List.set_cons_succ]
      refine anyE_takeL 10 rfl (by kernel_rfl) (fun _ _ _ h => h) hS (by rfl) (v := ?_) ?_ ?_
      rotate_left
      · intro w' hSw; (try dsimp only at hSw); go_simp; (try with_reducible rfl)
      try simp only [Act.put, List.setIfInBounds_toArray, List.set_cons_zero, List.set_cons_succ]
      refine anyE_takeL 11 rfl (by kernel_rfl) (fun _ _ _ h => h) hS (by rfl) (v := ?_) ?_ ?_
      rotate_left
      · intro w' hSw; (try dsimp only at hSw); go_simp; (try with_reducible rfl)
      try simp only [Act.put, List.setIfInBounds_toArray, List.set_cons_zero, List.set_cons_succ]
      clear hS
      refine anyE_oneL 12 (by kernel_rfl) rfl (fun K hK => ?_)
      go_simp
      have S0 := F _ hba
      have S1 := And.intro S0.1 (And.intro S0.2.1 (And.intro S0.2.2 s1a))
      refine hK.out _ _ S1 ?_
      clear hK K
      try simp only [Act.put, List.setIfInBounds_toArray, List.set_cons_zero, List.set_cons_succ]
      refine anyE_oneL 13 (by kernel_rfl) rfl (fun K hK => ?_)
      refine step_app1 (by rfl) _ _ (by rfl) w2.heap.size _ _ _ zs (by rfl) hzl.out.symm hOa.out _ _ v (by rfl) hcl (by omega) (by simp; omega) ?_
      intro ad' cap' w' hown' hgr hloc
      have s0' := cell_ne hgr s0a hne.out
      have s1' := cell_ne hgr s1a hne.out
      have sf' := frz_ne hgr s1a sfa hne.out
      have hge := own_blk_ge hOa.out
      have f0' := cell_ne hgr S0.1 (fun e => by have := hge _ e; omega)
      have S2 := And.intro f0' (And.intro (cell_ne hgr S0.2.1 (fun e => by have := hge _ e; omega)) (And.intro (cell_ne hgr S0.2.2 (fun e => by have := hge _ e; omega)) s1'))
      refine hK.out _ _ S2 ?_
      clear hK K
      try simp only [Act.put, List.setIfInBounds_toArray, List.set_cons_zero, List.set_cons_succ]
      refine anyE_takeL 14 rfl (by kernel_rfl) (fun _ _ _ h => h) S2 (by rfl) (v := ?_) ?_ ?_
      rotate_left
      · intro w' hSw; (try dsimp only at hSw); go_simp; (try with_reducible rfl)
      try simp only [Act.put, List.setIfInBounds_toArray, List.set_cons_zero, List.set_cons_succ]
      clear S0 S1 S2
      refine anyE_lastL (by kernel_rfl) rfl (by kernel_rfl) (fun K hK => ?_)
      go_simp
      refine hK.out _ _ ?_
      clear hK K
      try simp only [Act.put, List.setIfInBounds_toArray, List.set_cons_zero, List.set_cons_succ]
      have hbn := hb2'.grown hgr (by simp; omega) (own_blk_ge hOa.out)
      have hn2 := hide (show blk ad' ≠ some (w2.heap.size + 1) from by
        rcases hloc with h | h <;> rw [h]
        · exact hne.out
        · simp; omega)
      have hzl2 := hide (show (zs ++ [v]).length = k + 1 by simp [hzl.out])
      have hgs := hgr.size
      have f0s := cell_set2 f0' (show w2.heap.size + 1 ≠ w.heap.size by omega) (.slice ad' (zs ++ [v]).length cap') (a := ⟨w2.heap.size + 1, 1, none⟩)
      go_wp2
      go_roundw
      case rel => exact ⟨k + 1, ad', cap', by omega, by rw [hpw.out], by go_num, by rw [hst.out]; exact hide (hown'.otherG hn2.out _), hn2, cell_set2' s0' (by simp) _, by rw [show k + 1 = zs.length + 1 by rw [hzl.out]]; exact World.cell?_setCell_same _ _ _ s1', by simpa using sf', hbn.setCell (by simp) _, by simp at hgs ⊢; omega⟩
      case measure => simp [intOf]; omega
    · have hin : Hid (k = n) := hide (by omega)
      have hlt' : ¬ (k : Int) < (n : Int) := by omega
      replace y0 := (hbr.frozen (World.block_lt_of_cell? _ _ r0)).trans y0
      replace y1 := (hbr.frozen (World.block_lt_of_cell? _ _ r1)).trans y1
      replace r0 := cell_be hbr r0
      replace r1 := cell_be hbr r1
      have ho := hide hO.out
      rw [hin.out] at ho
      clear hO
      go_wp2
      refine bodyPost_ret (v := .tuple #[mom p a' k c', .int .i64 0]) (by simp [results, Try.results24, go_sem, r0, r1]) rfl ?_
      exact ResM.own HQ.out HC.out (by rw [HV.out, tab_len, hin.out]) (by rw [HV.out]; exact ((ho.out.setLow (by simp <;> omega) _).setLow (by simp <;> omega) _).mono (by omega)) (by rw [HV.out, tab_len]; omega) ((hBr.setCell (by simp <;> omega) _).setCell (by simp <;> omega) _)
end Go.Proofs.Ytllcgoachgfpjaa
