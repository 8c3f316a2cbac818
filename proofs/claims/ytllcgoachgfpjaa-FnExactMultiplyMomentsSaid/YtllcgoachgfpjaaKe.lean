/- Contracts: MultiplyMoments (program and model). -/
import Derived.Test.YtllcgoachgfpjaaKa
import Derived.Test.YtllcgoachgfpjaaWp
import Derived.Test.YtllcgoachgfpjaaRc
import Derived.Test.YtllcgoachgfpjaaCs
namespace Go.Proofs.Ytllcgoachgfpjaa
open Go.RowKit
set_option linter.unusedVariables false
set_option linter.unusedSimpArgs false

def mumC (p : Int) (xs : List Int) (c : Int) : Int := if momB p xs then (if 0 ≤ c ∧ c ≤ p - 1 then (if xs.length = 1 then 5 else 0) else 2) else 1
def mumV (p : Int) (xs : List Int) (c : Int) : List Int := if mumC p xs c = 0 then prodM p (linM p c) xs (xs.length - 1) else []
def mumP (p : Int) (xs : List Int) (c : Int) : Int := if mumC p xs c = 0 then p else 0
theorem mum_fn {p : Int} {xs : List Int} {c : Int} (hp : 2 ≤ p) (hm : momB p xs = true) (h1 : xs.length ≠ 1) : prmC p xs (linM p c) = 0 ∧ prmV p xs (linM p c) = prodM p (linM p c) xs (xs.length - 1) ∧ prmP p xs (linM p c) = p := by
  obtain ⟨_, k1, _, _⟩ := momB_rng hm
  have hl : (linM p c).length = 2 := rfl
  have e : fnC p xs (linM p c) = 0 := by
    unfold fnC
    rw [hm, linM_poly hp, hl]
    simp
    omega
  refine ⟨e, ?_, ?_⟩
  · unfold prmV
    rw [if_pos e, hl]
    congr 1
  · unfold prmP
    rw [if_pos e]
set_option maxRecDepth 100000 in
set_option maxHeartbeats 3200000 in
theorem implMultiplyMoments (p : Int) (a : Option Addr) (n c : Nat) (xs : List Int) (x : Int) (w : World) (hs : SL w a n c xs) (hn : n ≤ 4000000) :
    Calls Try.prog 18 #[mom p a n c, .int .i64 x] w (ResM w (mumP p xs x) (mumV p xs x) (mumC p xs x)) := by
  have hl := hide hs.len
  have hb0 := bl2 w (.cells #[.int .i64 p, .slice a n c] 26) (.cells #[.int .i64 0, .slice none 0 0] 26)
  have g1 := hs.below hb0
  cases hm : momB p xs
  · have HC := hide (show mumC p xs x = 1 by simp [mumC, hm])
    have HV := hide (show mumV p xs x = [] by simp [mumV, HC.out])
    have HQ := hide (show mumP p xs x = 0 by simp [mumP, HC.out])
    have Hm := hide hm
    clear hm
    go_enter Try.func18, Try.ntmps18
    go_wp2_with fail
    refine (checkMoments_any _ _ _ _ _ _ _ _ 1 _ g1 hn (by simp [mcd, Hm.out])).mono ?_
    rintro e w1 ⟨rfl, hb1⟩
    have f0 : w1.cell? ⟨w.heap.size, 0, none⟩ = some (.int .i64 p) := cell_be hb1 (by simp [go_sem])
    have f1 : w1.cell? ⟨w.heap.size, 1, none⟩ = some (.slice a n c) := cell_be hb1 (by simp [go_sem])
    have r0 : w1.cell? ⟨w.heap.size + 1, 0, none⟩ = some (.int .i64 0) := cell_be hb1 (by simp [go_sem])
    have r1 : w1.cell? ⟨w.heap.size + 1, 1, none⟩ = some (.slice none 0 0) := cell_be hb1 (by simp [go_sem])
    have y0 : w1.frozen? ⟨w.heap.size + 1, 0, none⟩ = false := (hb1.frozen (by simp)).trans (by simp [go_sem])
    have y1 : w1.frozen? ⟨w.heap.size + 1, 1, none⟩ = false := (hb1.frozen (by simp)).trans (by simp [go_sem])
    have hB1 := bnext hb0 hb1
    go_wp2
    refine bodyPost_ret (v := .tuple #[mom 0 none 0 0, .int .i64 1]) (by simp [results, Try.results18, go_sem, r0, r1]) rfl ?_
    exact ResM.nil HQ.out HV.out HC.out ((hB1.setCell (by simp) _).setCell (by simp) _)
  obtain ⟨hpr, k1, k2, hx⟩ := momB_rng hm
  obtain ⟨hp, hp2⟩ := primeB_lo hpr
  rw [hl.out] at k1 k2
  have vp : IntKind.i64.wrap (p - 1) = p - 1 := IntWalk.i64_in _ (by omega)
  by_cases hr : 0 ≤ x ∧ x ≤ p - 1
  rotate_left
  · have HR := hide (show mcd p xs x 0 (p - 1) = 2 by simp only [mcd, hm, if_true]; rw [if_neg hr])
    have HC := hide (show mumC p xs x = 2 by simp only [mumC, hm, if_true]; rw [if_neg hr])
    have HV := hide (show mumV p xs x = [] by simp [mumV, HC.out])
    have HQ := hide (show mumP p xs x = 0 by simp [mumP, HC.out])
    clear hm hr hx
    go_enter Try.func18, Try.ntmps18
    go_wp2_with fail
    refine (checkMoments_any _ _ _ _ _ _ _ _ 2 _ g1 hn HR.out).mono ?_
    rintro e w1 ⟨rfl, hb1⟩
    have f0 : w1.cell? ⟨w.heap.size, 0, none⟩ = some (.int .i64 p) := cell_be hb1 (by simp [go_sem])
    have f1 : w1.cell? ⟨w.heap.size, 1, none⟩ = some (.slice a n c) := cell_be hb1 (by simp [go_sem])
    have r0 : w1.cell? ⟨w.heap.size + 1, 0, none⟩ = some (.int .i64 0) := cell_be hb1 (by simp [go_sem])
    have r1 : w1.cell? ⟨w.heap.size + 1, 1, none⟩ = some (.slice none 0 0) := cell_be hb1 (by simp [go_sem])
    have y0 : w1.frozen? ⟨w.heap.size + 1, 0, none⟩ = false := (hb1.frozen (by simp)).trans (by simp [go_sem])
    have y1 : w1.frozen? ⟨w.heap.size + 1, 1, none⟩ = false := (hb1.frozen (by simp)).trans (by simp [go_sem])
    have hB1 := bnext hb0 hb1
    go_wp2
    refine bodyPost_ret (v := .tuple #[mom 0 none 0 0, .int .i64 2]) (by simp [results, Try.results18, go_sem, r0, r1]) rfl ?_
    exact ResM.nil HQ.out HV.out HC.out ((hB1.setCell (by simp) _).setCell (by simp) _)
  have HR := hide (show mcd p xs x 0 (p - 1) = 0 by simp only [mcd, hm, if_true]; rw [if_pos hr])
  by_cases h1 : n = 1
  · have HC := hide (show mumC p xs x = 5 by simp only [mumC, hm, if_true]; rw [if_pos hr, if_pos (by rw [hl.out]; exact h1)])
    have HV := hide (show mumV p xs x = [] by simp [mumV, HC.out])
    have HQ := hide (show mumP p xs x = 0 by simp [mumP, HC.out])
    clear hm hr hx
    have ob : ((n : Int) == 1) = true := by simp; omega
    clear h1
    go_enter Try.func18, Try.ntmps18
    go_wp2_with fail
    refine (checkMoments_any _ _ _ _ _ _ _ _ 0 _ g1 hn HR.out).mono ?_
    rintro e w1 ⟨rfl, hb1⟩
    have f0 : w1.cell? ⟨w.heap.size, 0, none⟩ = some (.int .i64 p) := cell_be hb1 (by simp [go_sem])
    have f1 : w1.cell? ⟨w.heap.size, 1, none⟩ = some (.slice a n c) := cell_be hb1 (by simp [go_sem])
    have r0 : w1.cell? ⟨w.heap.size + 1, 0, none⟩ = some (.int .i64 0) := cell_be hb1 (by simp [go_sem])
    have r1 : w1.cell? ⟨w.heap.size + 1, 1, none⟩ = some (.slice none 0 0) := cell_be hb1 (by simp [go_sem])
    have y0 : w1.frozen? ⟨w.heap.size + 1, 0, none⟩ = false := (hb1.frozen (by simp)).trans (by simp [go_sem])
    have y1 : w1.frozen? ⟨w.heap.size + 1, 1, none⟩ = false := (hb1.frozen (by simp)).trans (by simp [go_sem])
    have hB1 := bnext hb0 hb1
    go_wp2
    refine bodyPost_ret (v := .tuple #[mom 0 none 0 0, .int .i64 5]) (by simp [results, Try.results18, go_sem, r0, r1]) rfl ?_
    exact ResM.nil HQ.out HV.out HC.out ((hB1.setCell (by simp) _).setCell (by simp) _)
  have HC := hide (show mumC p xs x = 0 by simp only [mumC, hm, if_true]; rw [if_pos hr, if_neg (by rw [hl.out]; exact h1)])
  have MF := hide (mum_fn (c := x) hp hm (by rw [hl.out]; exact h1))
  have HV := hide (show mumV p xs x = prmV p xs (linM p x) by rw [MF.out.2.1, mumV, if_pos HC.out])
  have HQ := hide (show mumP p xs x = prmP p xs (linM p x) by rw [MF.out.2.2, mumP, if_pos HC.out])
  have ob : ((n : Int) == 1) = false := by simp; omega
  obtain ⟨x0, x1⟩ := hr
  clear hm hx hpr
  go_enter Try.func18, Try.ntmps18
  go_wp2_with fail
  refine (checkMoments_any _ _ _ _ _ _ _ _ 0 _ g1 hn HR.out).mono ?_
  rintro e w1 ⟨rfl, hb1⟩
  have f0 : w1.cell? ⟨w.heap.size, 0, none⟩ = some (.int .i64 p) := cell_be hb1 (by simp [go_sem])
  have f1 : w1.cell? ⟨w.heap.size, 1, none⟩ = some (.slice a n c) := cell_be hb1 (by simp [go_sem])
  have r0 : w1.cell? ⟨w.heap.size + 1, 0, none⟩ = some (.int .i64 0) := cell_be hb1 (by simp [go_sem])
  have r1 : w1.cell? ⟨w.heap.size + 1, 1, none⟩ = some (.slice none 0 0) := cell_be hb1 (by simp [go_sem])
  have y0 : w1.frozen? ⟨w.heap.size + 1, 0, none⟩ = false := (hb1.frozen (by simp)).trans (by simp [go_sem])
  have y1 : w1.frozen? ⟨w.heap.size + 1, 1, none⟩ = false := (hb1.frozen (by simp)).trans (by simp [go_sem])
  have hB1 := bnext hb0 hb1
  have z1 := hb1.size
  simp at z1
  have s1 := g1.below hb1
  have hbd := (Below.refl w1.heap.size w1).drew
  have F : ∀ w', Below w1.heap.size w1 w' → w'.cell? ⟨w.heap.size, 0, none⟩ = some (.int .i64 p) ∧ w'.cell? ⟨w.heap.size, 1, none⟩ = some (.slice a n c) := fun w' hb => ⟨cell_be hb f0, cell_be hb f1⟩
  go_upto_region 6 with fail
  go_region_held3 (fun w' => w'.cell? ⟨w.heap.size, 0, none⟩ = some (.int .i64 p) ∧ w'.cell? ⟨w.heap.size, 1, none⟩ = some (.slice a n c))
    (first | exact F _ (by assumption) | exact ⟨cell_set2 (cell_set2 x0' (by simp <;> omega) _) (by simp <;> omega) _, cell_set2 (cell_set2 x1' (by simp <;> omega) _) (by simp <;> omega) _⟩)
    (first
    | (go_at_call 63; refine (linear_any p x _ hp hp2 x0 (by omega)).mono ?_; rintro e w2 ⟨rfl, o2, t2⟩; have m2 := bnext hbd t2)
    | (go_at_call 62; refine (implProductMoments p _ _ _ xs _ _ _ (linM p x) _ (s1.below m2) (show SL _ _ 2 2 (linM p x) from o2.sl) hn (by omega)).mono ?_; rintro e w3 ⟨a3, c3, rfl, o3, l3, t3⟩; have m3 := bnext m2 t3; obtain ⟨x0', x1'⟩ := F _ m3; have r0' := cell_be m3 r0; have r1' := cell_be m3 r1; have y0' := (m3.frozen (World.block_lt_of_cell? _ _ r0)).trans y0; have y1' := (m3.frozen (World.block_lt_of_cell? _ _ r1)).trans y1))
  all_goals go_wp2
  refine bodyPost_ret (v := .tuple #[mom (prmP p xs (linM p x)) a3 (prmV p xs (linM p x)).length c3, .int .i64 (prmC p xs (linM p x))]) (by simp [results, Try.results18, go_sem, r0', r1']) rfl ?_
  have zz : w1.heap.size ≤ w2.heap.size := t2.size
  rw [HV.out, HQ.out, HC.out, MF.out.1]
  exact ⟨a3, c3, rfl, by simpa using ((o3.setLow (x := ⟨w.heap.size + 1, 0, none⟩) (by simp; omega) _).setLow (x := ⟨w.heap.size + 1, 1, none⟩) (by simp; omega) _).mono (lo' := w.heap.size) (by omega) (Nat.le_refl _), l3, ((hB1.trans (m3.mono (by omega))).setCell (by simp) _).setCell (by simp) _⟩
set_option maxRecDepth 100000 in
set_option maxHeartbeats 3200000 in
theorem specMultiplyMoments (p : Int) (a : Option Addr) (n c : Nat) (xs : List Int) (x : Int) (w : World) (hs : SL w a n c xs) (hn : n ≤ 4000000) :
    Calls Try.prog 16 #[mom p a n c, .int .i64 x] w (ResM w (mumP p xs x) (mumV p xs x) (mumC p xs x)) := by
  have hl := hide hs.len
  have hb0 := bl2 w (.cells #[.int .i64 p, .slice a n c] 26) (.cells #[.int .i64 0, .slice none 0 0] 26)
  have g1 := hs.below hb0
  have hbL := bl1 ((w.alloc (.cells #[.int .i64 p, .slice a n c] 26)).alloc (.cells #[.int .i64 0, .slice none 0 0] 26)) (.cells #[.int .i64 x] 2)
  have g2 := g1.below hbL
  have hb02 := bnext hb0 hbL
  have gx : SL ((((w.alloc (.cells #[.int .i64 p, .slice a n c] 26)).alloc (.cells #[.int .i64 0, .slice none 0 0] 26)).alloc (.cells #[.int .i64 x] 2))) (some ⟨w.heap.size + 1 + 1, 0, none⟩) 1 1 [x] := by simpa using litSL ((w.alloc (.cells #[.int .i64 p, .slice a n c] 26)).alloc (.cells #[.int .i64 0, .slice none 0 0] 26)) x
  cases hm : momB p xs
  · have HC := hide (show mumC p xs x = 1 by simp [mumC, hm])
    have HV := hide (show mumV p xs x = [] by simp [mumV, HC.out])
    have HQ := hide (show mumP p xs x = 0 by simp [mumP, HC.out])
    have Hm := hide hm
    clear hm
    go_enter Try.func16, Try.ntmps16
    go_wp2_with fail
    refine (l08Number_any _ _ _ _ _ _ _ _ [x] 1 _ g2 gx hn (by omega) (by simp [mnd, Hm.out])).mono ?_
    rintro e w1 ⟨rfl, hb1⟩
    have f0 : w1.cell? ⟨w.heap.size, 0, none⟩ = some (.int .i64 p) := cell_be hb1 (by simp [go_sem])
    have f1 : w1.cell? ⟨w.heap.size, 1, none⟩ = some (.slice a n c) := cell_be hb1 (by simp [go_sem])
    have r0 : w1.cell? ⟨w.heap.size + 1, 0, none⟩ = some (.int .i64 0) := cell_be hb1 (by simp [go_sem])
    have r1 : w1.cell? ⟨w.heap.size + 1, 1, none⟩ = some (.slice none 0 0) := cell_be hb1 (by simp [go_sem])
    have y0 : w1.frozen? ⟨w.heap.size + 1, 0, none⟩ = false := (hb1.frozen (by simp)).trans (by simp [go_sem])
    have y1 : w1.frozen? ⟨w.heap.size + 1, 1, none⟩ = false := (hb1.frozen (by simp)).trans (by simp [go_sem])
    have hB1 := bnext hb02 hb1
    go_wp2
    refine bodyPost_ret (v := .tuple #[mom 0 none 0 0, .int .i64 1]) (by simp [results, Try.results16, go_sem, r0, r1]) rfl ?_
    exact ResM.nil HQ.out HV.out HC.out ((hB1.setCell (by simp) _).setCell (by simp) _)
  obtain ⟨hpr, k1, k2, hx⟩ := momB_rng hm
  obtain ⟨hp, hp2⟩ := primeB_lo hpr
  rw [hl.out] at k1 k2
  by_cases hr : 0 ≤ x ∧ x ≤ p - 1
  rotate_left
  · have HR := hide (show mnd p xs [x] = 2 by simp only [mnd, hm, if_true, areB_one]; rw [if_neg (by simp; omega)])
    have HC := hide (show mumC p xs x = 2 by simp only [mumC, hm, if_true]; rw [if_neg hr])
    have HV := hide (show mumV p xs x = [] by simp [mumV, HC.out])
    have HQ := hide (show mumP p xs x = 0 by simp [mumP, HC.out])
    clear hm hr hx
    go_enter Try.func16, Try.ntmps16
    go_wp2_with fail
    refine (l08Number_any _ _ _ _ _ _ _ _ [x] 2 _ g2 gx hn (by omega) HR.out).mono ?_
    rintro e w1 ⟨rfl, hb1⟩
    have f0 : w1.cell? ⟨w.heap.size, 0, none⟩ = some (.int .i64 p) := cell_be hb1 (by simp [go_sem])
    have f1 : w1.cell? ⟨w.heap.size, 1, none⟩ = some (.slice a n c) := cell_be hb1 (by simp [go_sem])
    have r0 : w1.cell? ⟨w.heap.size + 1, 0, none⟩ = some (.int .i64 0) := cell_be hb1 (by simp [go_sem])
    have r1 : w1.cell? ⟨w.heap.size + 1, 1, none⟩ = some (.slice none 0 0) := cell_be hb1 (by simp [go_sem])
    have y0 : w1.frozen? ⟨w.heap.size + 1, 0, none⟩ = false := (hb1.frozen (by simp)).trans (by simp [go_sem])
    have y1 : w1.frozen? ⟨w.heap.size + 1, 1, none⟩ = false := (hb1.frozen (by simp)).trans (by simp [go_sem])
    have hB1 := bnext hb02 hb1
    go_wp2
    refine bodyPost_ret (v := .tuple #[mom 0 none 0 0, .int .i64 2]) (by simp [results, Try.results16, go_sem, r0, r1]) rfl ?_
    exact ResM.nil HQ.out HV.out HC.out ((hB1.setCell (by simp) _).setCell (by simp) _)
  have HR := hide (show mnd p xs [x] = 0 by simp only [mnd, hm, if_true, areB_one]; rw [if_pos (by simp; omega)])
  by_cases h1 : n = 1
  · have HC := hide (show mumC p xs x = 5 by simp only [mumC, hm, if_true]; rw [if_pos hr, if_pos (by rw [hl.out]; exact h1)])
    have HV := hide (show mumV p xs x = [] by simp [mumV, HC.out])
    have HQ := hide (show mumP p xs x = 0 by simp [mumP, HC.out])
    clear hm hr hx
    have ob : ((n : Int) == 1) = true := by simp; omega
    clear h1
    go_enter Try.func16, Try.ntmps16
    go_wp2_with fail
    refine (l08Number_any _ _ _ _ _ _ _ _ [x] 0 _ g2 gx hn (by omega) HR.out).mono ?_
    rintro e w1 ⟨rfl, hb1⟩
    have f0 : w1.cell? ⟨w.heap.size, 0, none⟩ = some (.int .i64 p) := cell_be hb1 (by simp [go_sem])
    have f1 : w1.cell? ⟨w.heap.size, 1, none⟩ = some (.slice a n c) := cell_be hb1 (by simp [go_sem])
    have r0 : w1.cell? ⟨w.heap.size + 1, 0, none⟩ = some (.int .i64 0) := cell_be hb1 (by simp [go_sem])
    have r1 : w1.cell? ⟨w.heap.size + 1, 1, none⟩ = some (.slice none 0 0) := cell_be hb1 (by simp [go_sem])
    have y0 : w1.frozen? ⟨w.heap.size + 1, 0, none⟩ = false := (hb1.frozen (by simp)).trans (by simp [go_sem])
    have y1 : w1.frozen? ⟨w.heap.size + 1, 1, none⟩ = false := (hb1.frozen (by simp)).trans (by simp [go_sem])
    have hB1 := bnext hb02 hb1
    go_wp2
    refine bodyPost_ret (v := .tuple #[mom 0 none 0 0, .int .i64 5]) (by simp [results, Try.results16, go_sem, r0, r1]) rfl ?_
    exact ResM.nil HQ.out HV.out HC.out ((hB1.setCell (by simp) _).setCell (by simp) _)
  have HC := hide (show mumC p xs x = 0 by simp only [mumC, hm, if_true]; rw [if_pos hr, if_neg (by rw [hl.out]; exact h1)])
  have HV := hide (show mumV p xs x = prodM p (linM p x) xs (n - 1) by rw [mumV, if_pos HC.out, hl.out])
  have HQ := hide (show mumP p xs x = p by rw [mumP, if_pos HC.out])
  have ob : ((n : Int) == 1) = false := by simp; omega
  obtain ⟨x0, x1⟩ := hr
  have Hx := hide hx
  have HL := hide (poly_are (linM_poly (p := p) (a := x) hp))
  have hl2 := hide (show (prodM p (linM p x) xs (n - 1)).length = n - 1 by unfold prodM; rw [tab_len])
  have oa := hide (opp_neg p x)
  have v1 : IntKind.i64.wrap (-x) = -x := IntWalk.i64_in _ (by omega)
  have hn2 : 2 ≤ n := by omega
  obtain ⟨b, off, rfl, hbw, hcell⟩ := hs.at (by omega)
  clear hm hx hpr h1 hcell
  go_enter Try.func16, Try.ntmps16
  go_wp2_with fail
  refine (l08Number_any _ _ _ _ _ _ _ _ [x] 0 _ g2 gx hn (by omega) HR.out).mono ?_
  rintro e w1 ⟨rfl, hb1⟩
  have f0 : w1.cell? ⟨w.heap.size, 0, none⟩ = some (.int .i64 p) := cell_be hb1 (by simp [go_sem])
  have f1 : w1.cell? ⟨w.heap.size, 1, none⟩ = some (.slice (some ⟨b, off, none⟩) n c) := cell_be hb1 (by simp [go_sem])
  have r0 : w1.cell? ⟨w.heap.size + 1, 0, none⟩ = some (.int .i64 0) := cell_be hb1 (by simp [go_sem])
  have r1 : w1.cell? ⟨w.heap.size + 1, 1, none⟩ = some (.slice none 0 0) := cell_be hb1 (by simp [go_sem])
  have y0 : w1.frozen? ⟨w.heap.size + 1, 0, none⟩ = false := (hb1.frozen (by simp)).trans (by simp [go_sem])
  have y1 : w1.frozen? ⟨w.heap.size + 1, 1, none⟩ = false := (hb1.frozen (by simp)).trans (by simp [go_sem])
  have hB1 := bnext hb02 hb1
  have z1 := hB1.size
  have z1' := hb1.size
  simp at z1'
  have s1 := g2.below hb1
  have hbd := (Below.refl w1.heap.size w1).drew
  have F : ∀ w', Below w1.heap.size w1 w' → w'.cell? ⟨w.heap.size, 0, none⟩ = some (.int .i64 p) ∧ w'.cell? ⟨w.heap.size, 1, none⟩ = some (.slice (some ⟨b, off, none⟩) n c) := fun w' hb => ⟨cell_be hb f0, cell_be hb f1⟩
  go_upto_region 6 with fail
  go_region_held3 (fun w' => w'.cell? ⟨w.heap.size, 0, none⟩ = some (.int .i64 p) ∧ w'.cell? ⟨w.heap.size, 1, none⟩ = some (.slice (some ⟨b, off, none⟩) n c))
    (first | exact F _ (by assumption) | exact F _ (hbd.alloc (by simp) _) | exact ⟨cell_set2 (cell_set2 x0' (by simp <;> omega) _) (by simp <;> omega) _, cell_set2 (cell_set2 x1' (by simp <;> omega) _) (by simp <;> omega) _⟩)
    (first
    | (go_at_call 60; refine (l01Mod_any p (-x) _ hp hp2 (by omega) (by omega)).mono ?_; rintro e w2 ⟨rfl, rfl⟩; rw [oa.out])
    | (go_at_call 59; refine (l02Product_any p _ _ _ _ xs _ _ _ (linM p x) (n - 1) _ (s1.below (hbd.alloc (by simp) _)) (litSL2 _ (opp p x) 1) (by omega) (by omega) (by simp; omega) (by omega) hp hp2 HL.out Hx.out).mono ?_; rintro e w3 ⟨a3, c3, rfl, o3, t3⟩; have m3 := bnext (hbd.alloc (by simp) (.cells #[.int .i64 (opp p x), .int .i64 1] 2)) t3; obtain ⟨x0', x1'⟩ := F _ m3; have r0' := cell_be m3 r0; have r1' := cell_be m3 r1; have y0' := (m3.frozen (World.block_lt_of_cell? _ _ r0)).trans y0; have y1' := (m3.frozen (World.block_lt_of_cell? _ _ r1)).trans y1))
  all_goals go_wp2
  refine bodyPost_ret (v := .tuple #[mom p a3 (n - 1) c3, .int .i64 0]) (by simp [results, Try.results16, go_sem, r0', r1']) rfl ?_
  have zz : w1.heap.size ≤ w3.heap.size := m3.size
  exact ResM.own HQ.out HC.out (by rw [HV.out, hl2.out]) (by rw [HV.out]; exact ((o3.setLow (by simp <;> omega) _).setLow (by simp <;> omega) _).mono (by simp; omega)) (by rw [HV.out, hl2.out]; omega) (((hB1.trans (m3.mono z1)).setCell (by simp <;> omega) _).setCell (by simp <;> omega) _)
end Go.Proofs.Ytllcgoachgfpjaa
