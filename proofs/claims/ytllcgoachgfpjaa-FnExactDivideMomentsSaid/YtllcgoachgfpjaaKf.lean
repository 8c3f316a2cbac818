/- Contracts: DivideMoments (program and model). -/
import Derived.Test.YtllcgoachgfpjaaKa
import Derived.Test.YtllcgoachgfpjaaKx
import Derived.Test.YtllcgoachgfpjaaAx
import Derived.Test.YtllcgoachgfpjaaRx
import Derived.Test.YtllcgoachgfpjaaCs
namespace Go.Proofs.Ytllcgoachgfpjaa
open Go.RowKit
set_option linter.unusedVariables false
set_option linter.unusedSimpArgs false

def dvmS (p : Int) (xs : List Int) (c t : Int) : Nat → Int
  | 0 => t
  | k + 1 => (xs.getD k 0 + c * dvmS p xs c t k) % p
theorem dvmS_rng {p : Int} (hp : 2 ≤ p) (xs : List Int) (c : Int) {t : Int} (h0 : 0 ≤ t) (h1 : t < p) (k : Nat) : 0 ≤ dvmS p xs c t k ∧ dvmS p xs c t k < p := by
  cases k with
  | zero => exact ⟨h0, h1⟩
  | succ k => exact modb hp
def dvmC (p : Int) (xs : List Int) (c t : Int) : Int := if momB p xs then (if (0 ≤ c ∧ c ≤ p - 1) ∧ (0 ≤ t ∧ t < p) then (if xs.length = 24 then 3 else 0) else 2) else 1
def dvmV (p : Int) (xs : List Int) (c t : Int) : List Int := if dvmC p xs c t = 0 then tab (xs.length + 1) (dvmS p xs c t) else []
def dvmP (p : Int) (xs : List Int) (c t : Int) : Int := if dvmC p xs c t = 0 then p else 0
set_option maxRecDepth 100000 in
set_option maxHeartbeats 3200000 in
theorem implDivideMoments (p : Int) (a : Option Addr) (n c : Nat) (xs : List Int) (x t : Int) (w : World) (hs : SL w a n c xs) (hn : n ≤ 4000000) :
    Calls Try.prog 23 #[mom p a n c, .int .i64 x, .int .i64 t] w (ResM w (dvmP p xs x t) (dvmV p xs x t) (dvmC p xs x t)) := by
  have hl := hide hs.len
  have hb0 := bl2 w (.cells #[.int .i64 p, .slice a n c] 26) (.cells #[.int .i64 0, .slice none 0 0] 26)
  have g1 := hs.below hb0
  cases hm : momB p xs
  · have HC := hide (show dvmC p xs x t = 1 by simp [dvmC, hm])
    have HV := hide (show dvmV p xs x t = [] by simp [dvmV, HC.out])
    have HQ := hide (show dvmP p xs x t = 0 by simp [dvmP, HC.out])
    have Hm := hide hm
    clear hm
    go_enter Try.func23, Try.ntmps23
    go_wp2_with fail
    refine (checkMoments_any _ _ _ _ _ _ _ _ 1 _ g1 hn (by simp [mcd, Hm.out])).mono ?_
    rintro e w1 ⟨rfl, hb1⟩
    have f0 : w1.cell? ⟨w.heap.size, 0, none⟩ = some (.int .i64 p) := cell_be hb1 (by simp [go_sem])
    have f1 : w1.cell? ⟨w.heap.size, 1, none⟩ = some (.slice a n c) := cell_be hb1 (by simp [go_sem])
    have r0 : w1.cell? ⟨w.heap.size + 1, 0, none⟩ = some (.int .i64 0) := cell_be hb1 (by simp [go_sem])
    have r1 : w1.cell? ⟨w.heap.size + 1, 1, none⟩ = some (.slice none 0 0) := cell_be hb1 (by simp [go_sem])
    have y0 : w1.frozen? ⟨w.heap.size + 1, 0, none⟩ = false := (hb1.frozen (by simp)).trans (by simp [go_sem])
    have y1 : w1.frozen? ⟨w.heap.size + 1, 1, none⟩ = false := (hb1.frozen (by simp)).trans (by simp [go_sem])
    have hB1 := bnext hb0 hb1
    go_wp2
    refine bodyPost_ret (v := .tuple #[mom 0 none 0 0, .int .i64 1]) (by simp [results, Try.results23, go_sem, r0, r1]) rfl ?_
    exact ResM.nil HQ.out HV.out HC.out ((hB1.setCell (by simp) _).setCell (by simp) _)
  obtain ⟨hpr, k1, k2, hx⟩ := momB_rng hm
  obtain ⟨hp, hp2⟩ := primeB_lo hpr
  rw [hl.out] at k1 k2
  have vp : IntKind.i64.wrap (p - 1) = p - 1 := IntWalk.i64_in _ (by omega)
  by_cases hr : 0 ≤ x ∧ x ≤ p - 1
  rotate_left
  · have HR := hide (show mcd p xs x 0 (p - 1) = 2 by simp only [mcd, hm, if_true]; rw [if_neg hr])
    have HC := hide (show dvmC p xs x t = 2 by simp only [dvmC, hm, if_true]; rw [if_neg (fun h => hr h.1)])
    have HV := hide (show dvmV p xs x t = [] by simp [dvmV, HC.out])
    have HQ := hide (show dvmP p xs x t = 0 by simp [dvmP, HC.out])
    clear hm hr hx
    go_enter Try.func23, Try.ntmps23
    go_wp2_with fail
    refine (checkMoments_any _ _ _ _ _ _ _ _ 2 _ g1 hn HR.out).mono ?_
    rintro e w1 ⟨rfl, hb1⟩
    have f0 : w1.cell? ⟨w.heap.size, 0, none⟩ = some (.int .i64 p) := cell_be hb1 (by simp [go_sem])
    have f1 : w1.cell? ⟨w.heap.size, 1, none⟩ = some (.slice a n c) := cell_be hb1 (by simp [go_sem])
    have r0 : w1.cell? ⟨w.heap.size + 1, 0, none⟩ = some (.int .i64 0) := cell_be hb1 (by simp [go_sem])
    have r1 : w1.cell? ⟨w.heap.size + 1, 1, none⟩ = some (.slice none 0 0) := cell_be hb1 (by simp [go_sem])
    have y0 : w1.frozen? ⟨w.heap.size + 1, 0, none⟩ = false := (hb1.frozen (by simp)).trans (by simp [go_sem])
    have y1 : w1.frozen? ⟨w.heap.size + 1, 1, none⟩ = false := (hb1.frozen (by simp)).trans (by simp [go_sem])
    have hB1 := bnext hb0 hb1
    go_wp2
    refine bodyPost_ret (v := .tuple #[mom 0 none 0 0, .int .i64 2]) (by simp [results, Try.results23, go_sem, r0, r1]) rfl ?_
    exact ResM.nil HQ.out HV.out HC.out ((hB1.setCell (by simp) _).setCell (by simp) _)
  have HR := hide (show mcd p xs x 0 (p - 1) = 0 by simp only [mcd, hm, if_true]; rw [if_pos hr])
  by_cases ht : 0 ≤ t ∧ t < p
  rotate_left
  · have HC := hide (show dvmC p xs x t = 2 by simp only [dvmC, hm, if_true]; rw [if_neg (fun h => ht h.2)])
    have HV := hide (show dvmV p xs x t = [] by simp [dvmV, HC.out])
    have HQ := hide (show dvmP p xs x t = 0 by simp [dvmP, HC.out])
    have Ht := hide ht
    clear hm hr hx ht
    go_enter Try.func23, Try.ntmps23
    go_wp2_with fail
    refine (checkMoments_any _ _ _ _ _ _ _ _ 0 _ g1 hn HR.out).mono ?_
    rintro e w1 ⟨rfl, hb1⟩
    have f0 : w1.cell? ⟨w.heap.size, 0, none⟩ = some (.int .i64 p) := cell_be hb1 (by simp [go_sem])
    have f1 : w1.cell? ⟨w.heap.size, 1, none⟩ = some (.slice a n c) := cell_be hb1 (by simp [go_sem])
    have r0 : w1.cell? ⟨w.heap.size + 1, 0, none⟩ = some (.int .i64 0) := cell_be hb1 (by simp [go_sem])
    have r1 : w1.cell? ⟨w.heap.size + 1, 1, none⟩ = some (.slice none 0 0) := cell_be hb1 (by simp [go_sem])
    have y0 : w1.frozen? ⟨w.heap.size + 1, 0, none⟩ = false := (hb1.frozen (by simp)).trans (by simp [go_sem])
    have y1 : w1.frozen? ⟨w.heap.size + 1, 1, none⟩ = false := (hb1.frozen (by simp)).trans (by simp [go_sem])
    have hB1 := bnext hb0 hb1
    go_wp2_with fail
    refine (isNumber_no _ _ _ Ht.out).mono ?_
    rintro e w1' ⟨rfl, rfl⟩
    go_wp2
    refine bodyPost_ret (v := .tuple #[mom 0 none 0 0, .int .i64 2]) (by simp [results, Try.results23, go_sem, r0, r1]) rfl ?_
    exact ResM.nil HQ.out HV.out HC.out ((hB1.setCell (by simp) _).setCell (by simp) _)
  by_cases h24 : n = 24
  · have HC := hide (show dvmC p xs x t = 3 by simp only [dvmC, hm, if_true]; rw [if_pos ⟨hr, ht⟩, if_pos (by rw [hl.out]; exact h24)])
    have HV := hide (show dvmV p xs x t = [] by simp [dvmV, HC.out])
    have HQ := hide (show dvmP p xs x t = 0 by simp [dvmP, HC.out])
    have ob : ((n : Int) == 24) = true := by simp; omega
    clear hm hr hx h24
    go_enter Try.func23, Try.ntmps23
    go_wp2_with fail
    refine (checkMoments_any _ _ _ _ _ _ _ _ 0 _ g1 hn HR.out).mono ?_
    rintro e w1 ⟨rfl, hb1⟩
    have f0 : w1.cell? ⟨w.heap.size, 0, none⟩ = some (.int .i64 p) := cell_be hb1 (by simp [go_sem])
    have f1 : w1.cell? ⟨w.heap.size, 1, none⟩ = some (.slice a n c) := cell_be hb1 (by simp [go_sem])
    have r0 : w1.cell? ⟨w.heap.size + 1, 0, none⟩ = some (.int .i64 0) := cell_be hb1 (by simp [go_sem])
    have r1 : w1.cell? ⟨w.heap.size + 1, 1, none⟩ = some (.slice none 0 0) := cell_be hb1 (by simp [go_sem])
    have y0 : w1.frozen? ⟨w.heap.size + 1, 0, none⟩ = false := (hb1.frozen (by simp)).trans (by simp [go_sem])
    have y1 : w1.frozen? ⟨w.heap.size + 1, 1, none⟩ = false := (hb1.frozen (by simp)).trans (by simp [go_sem])
    have hB1 := bnext hb0 hb1
    go_wp2_with fail
    refine (isNumber_yes _ _ _ ht.1 ht.2).mono ?_
    rintro e w1' ⟨rfl, rfl⟩
    go_wp2
    refine bodyPost_ret (v := .tuple #[mom 0 none 0 0, .int .i64 3]) (by simp [results, Try.results23, go_sem, r0, r1]) rfl ?_
    exact ResM.nil HQ.out HV.out HC.out ((hB1.setCell (by simp) _).setCell (by simp) _)
  have HC := hide (show dvmC p xs x t = 0 by simp only [dvmC, hm, if_true]; rw [if_pos ⟨hr, ht⟩, if_neg (by rw [hl.out]; exact h24)])
  have HV := hide (show dvmV p xs x t = tab (n + 1) (dvmS p xs x t) by rw [dvmV, if_pos HC.out, hl.out])
  have HQ := hide (show dvmP p xs x t = p by rw [dvmP, if_pos HC.out])
  have ob : ((n : Int) == 24) = false := by simp; omega
  obtain ⟨x0, x1⟩ := hr
  have Hx := hide hx
  have SR := hide (fun k => dvmS_rng hp xs x ht.1 ht.2 k)
  clear hm hx hpr
  go_enter Try.func23, Try.ntmps23
  go_wp2_with fail
  refine (checkMoments_any _ _ _ _ _ _ _ _ 0 _ g1 hn HR.out).mono ?_
  rintro e w1 ⟨rfl, hb1⟩
  have f0 : w1.cell? ⟨w.heap.size, 0, none⟩ = some (.int .i64 p) := cell_be hb1 (by simp [go_sem])
  have f1 : w1.cell? ⟨w.heap.size, 1, none⟩ = some (.slice a n c) := cell_be hb1 (by simp [go_sem])
  have r0 : w1.cell? ⟨w.heap.size + 1, 0, none⟩ = some (.int .i64 0) := cell_be hb1 (by simp [go_sem])
  have r1 : w1.cell? ⟨w.heap.size + 1, 1, none⟩ = some (.slice none 0 0) := cell_be hb1 (by simp [go_sem])
  have y0 : w1.frozen? ⟨w.heap.size + 1, 0, none⟩ = false := (hb1.frozen (by simp)).trans (by simp [go_sem])
  have y1 : w1.frozen? ⟨w.heap.size + 1, 1, none⟩ = false := (hb1.frozen (by simp)).trans (by simp [go_sem])
  have hB1 := bnext hb0 hb1
  have z1 := hb1.size
  simp at z1
  have HT := hide ht
  clear ht
  go_wp2_with fail
  refine (isNumber_yes _ _ _ HT.out.1 HT.out.2).mono ?_
  rintro e w1' ⟨rfl, rfl⟩
  have hO0 : Hid (Own w1.heap.size (w1.alloc (.cells #[.int .i64 t] 2)) (some ⟨w1.heap.size, 0, none⟩) 1 (tab 1 (dvmS p xs x t))) := hide (litOwn w1 _ (Nat.le_refl _) t)
  have hb2 := bl1 w1 (.cells #[.int .i64 t] 2)
  obtain ⟨b, off, rfl, hbw, hcell⟩ := hs.at (by omega)
  have f1a := cell_al f1 (.cells #[.int .i64 t] 2)
  go_wp2
  clear f1a
  go_loopw [9, 38] (fun ov iv wr => ∃ (k : Nat) (g : Nat) (c' : Nat), k ≤ n ∧ iv = .int .i64 k ∧ ov = .slice (some ⟨g, 0, none⟩) (k + 1) c' ∧ Hid (Own w1.heap.size wr (some ⟨g, 0, none⟩) c' (tab (k + 1) (dvmS p xs x t))) ∧ Below w1.heap.size w1 wr) (fun _ iv _ => n - (intOf iv).toNat)
  case atStart => exact ⟨0, _, 1, by omega, rfl, rfl, hO0, hb2⟩
  case round =>
    obtain ⟨k, g, c', hk, rfl, rfl, hO, hBr⟩ := hrel
    clear hO0 hb2
    have hB := hB1.trans (hBr.mono (by omega))
    replace f0 := cell_be hBr f0
    have f1' := cell_be hBr f1
    by_cases hlt : k < n
    · have e1 := cell_be hB (hcell k hlt)
      have e2 := Own.cellG hO.out k (by rw [tab_len]; omega)
      rw [tab_at _ _ _ (by omega)] at e2
      have hst : Hid (tab (k + 1 + 1) (dvmS p xs x t) = tab (k + 1) (dvmS p xs x t) ++ [(xs.getD k 0 + x * dvmS p xs x t k) % p]) := hide (tab_snoc (k + 1) (dvmS p xs x t)).symm
      have rx := getD_rng Hx.out hp k
      have ry := SR.out k
      have hge := own_blk_ge hO.out
      have ek : Hid ((tab (k + 1) (dvmS p xs x t)).getD k 0 = dvmS p xs x t k) := hide (tab_at _ _ _ (by omega))
      obtain ⟨u, hu⟩ : ∃ u, xs.getD k 0 = u := ⟨_, rfl⟩
      obtain ⟨y, hy⟩ : ∃ y, dvmS p xs x t k = y := ⟨_, rfl⟩
      rw [hu] at e1 hst rx
      rw [hy] at e2 hst ry ek
      obtain ⟨v, hv⟩ : ∃ v, (u + x * y) % p = v := ⟨_, rfl⟩
      rw [hv] at hst
      have Hv := hide hv
      obtain ⟨zs, hzs⟩ : ∃ zs, tab (k + 1) (dvmS p xs x t) = zs := ⟨_, rfl⟩
      have hzl := hide (show zs.length = k + 1 by rw [← hzs, tab_len])
      rw [hzs] at hO hst ek
      clear hu hy hv hzs
      have hlt' : (k : Int) < (n : Int) := by omega
      have hbs := hBr.size
      have s0 : (0 : Int) ≤ (k : Int) := by omega
      have s00 : (k : Int) < (k : Int) + 1 := by omega
      have hbd := (Below.refl wr.heap.size wr).drew
      have hba : Below wr.heap.size wr ((wr.alloc (.cells #[.int .i64 v] 2)).drew) := (bl1 wr _).drew
      have hOa := hide (hO.out.below hba)
      have hcl : ((wr.alloc (.cells #[.int .i64 v] 2)).drew).cell? ⟨wr.heap.size, 0, none⟩ = some (.int .i64 v) := by simp [go_sem]
      have hb2' : Below w1.heap.size w1 ((wr.alloc (.cells #[.int .i64 v] 2)).drew) := (hBr.alloc (by omega) _).drew
      clear hO hcell
      go_upto_region 12 with fail
      refine region_E (fun w' => w'.cell? ⟨w.heap.size, 0, none⟩ = some (.int .i64 p) ∧ w'.cell? ⟨g, k, none⟩ = some (.int .i64 y)) 12 (by kernel_rfl) ⟨cell_be hbd f0, cell_be hbd e2⟩ ?_
      intro hS
      refine anyE_takeL 0 rfl (by kernel_rfl) (fun _ _ _ h => h) hS (by rfl) (v := ?_) ?_ ?_
      rotate_left
      · intro w' hSw; (try dsimp only at hSw); go_simp; (try with_reducible rfl)
      try simp only [Act.put, List.setIfInBounds_toArray, List.set_cons_zero, List.set_cons_succ]
      refine anyE_takeL 1 rfl (by kernel_rfl) (fun _ _ _ h => h) hS (by rfl) (v := ?_) ?_ ?_
      rotate_left
      · intro w' hSw; (try dsimp only at hSw); go_simp; (try with_reducible rfl)
      try simp only [Act.put, List.setIfInBounds_toArray, List.set_cons_zero, List.set_cons_succ]
      refine anyE_takeL 2 rfl (by kernel_rfl) (fun _ _ _ h => h) hS (by rfl) (v := ?_) ?_ ?_
      rotate_left
      · intro w' hSw; (try dsimp only at hSw); go_simp; (try with_reducible rfl)
      try simp only [Act.put, List.setIfInBounds_toArray, List.set_cons_zero, List.set_cons_succ]
      refine anyE_takeL 3 rfl (by kernel_rfl) (fun _ _ _ h => h) hS (by rfl) (v := ?_) ?_ ?_
      rotate_left
      · intro w' hSw; (try dsimp only at hSw); go_simp; (try with_reducible rfl)
      try simp only [Act.put, List.setIfInBounds_toArray, List.set_cons_zero, List.set_cons_succ]
      refine anyE_takeL 4 rfl (by kernel_rfl) (fun _ _ _ h => h) hS (by rfl) (v := ?_) ?_ ?_
      rotate_left
      · intro w' hSw; (try dsimp only at hSw); go_simp; (try with_reducible rfl)
      try simp only [Act.put, List.setIfInBounds_toArray, List.set_cons_zero, List.set_cons_succ]
      refine anyE_takeL 5 rfl (by kernel_rfl) (fun _ _ _ h => h) hS (by rfl) (v := ?_) ?_ ?_
      rotate_left
      · intro w' hSw; (try dsimp only at hSw); go_simp; (try with_reducible rfl)
      try simp only [Act.put, List.setIfInBounds_toArray, List.set_cons_zero, List.set_cons_succ]
      refine anyE_takeL 6 rfl (by kernel_rfl) (fun _ _ _ h => h) hS (by rfl) (v := ?_) ?_ ?_
      rotate_left
      · intro w' hSw; (try dsimp only at hSw); go_simp; (try with_reducible rfl)
      try simp only [Act.put, List.setIfInBounds_toArray, List.set_cons_zero, List.set_cons_succ]
      refine anyE_takeL 7 rfl (by kernel_rfl) (fun _ _ _ h => h) hS (by rfl) (v := ?_) ?_ ?_
      rotate_left
      · intro w' hSw; (try dsimp only at hSw); go_simp; (try with_reducible rfl)
      try simp only [Act.put, List.setIfInBounds_toArray, List.set_cons_zero, List.set_cons_succ]
      refine anyE_takeL 8 rfl (by kernel_rfl) (fun _ _ _ h => h) hS (by rfl) (v := ?_) ?_ ?_
      rotate_left
      · intro w' hSw; (try dsimp only at hSw); go_simp; (try with_reducible rfl)
      try simp only [Act.put, List.setIfInBounds_toArray, List.set_cons_zero, List.set_cons_succ]
      refine anyE_oneL 9 (by kernel_rfl) rfl (fun K hK => ?_)
      go_simp
      refine (addNumber_any p u x y _ hp hp2 rx.1 rx.2 x0 (by omega) ry.1 ry.2).mono ?_
      rintro e u1 ⟨rfl, rfl⟩
      rw [Hv.out]
      dsimp only
      refine hK.out _ _ hS ?_
      clear hK K
      try simp only [Act.put, List.setIfInBounds_toArray, List.set_cons_zero, List.set_cons_succ]
      refine anyE_oneL 10 (by kernel_rfl) rfl (fun K hK => ?_)
      go_simp
      have S1 := And.intro (cell_be hba f0) (cell_be hba e2)
      refine hK.out _ _ S1 ?_
      clear hK K hS
      try simp only [Act.put, List.setIfInBounds_toArray, List.set_cons_zero, List.set_cons_succ]
      refine anyE_oneL 11 (by kernel_rfl) rfl (fun K hK => ?_)
      refine step_app1K (by rfl) _ _ (by rfl) w1.heap.size g _ _ zs (by rfl) hzl.out.symm hOa.out _ _ v (by rfl) hcl (by omega) (by simp; omega) ?_
      intro ad' cap' w' hown' hgr hloc hkeep
      have hg : w1.heap.size ≤ g := hge _ rfl
      have S2 := And.intro (cell_ne hgr S1.1 (by simp; omega)) (show w'.cell? ⟨g, k, none⟩ = some (.int .i64 y) by rw [hkeep k (by rw [hzl.out]; omega), ek.out])
      refine hK.out _ _ S2 ?_
      clear hK K
      try simp only [Act.put, List.setIfInBounds_toArray, List.set_cons_zero, List.set_cons_succ]
      refine anyE_lastL (by kernel_rfl) rfl (by kernel_rfl) (fun K hK => ?_)
      go_simp
      refine hK.out _ _ ?_
      clear hK K
      try simp only [Act.put, List.setIfInBounds_toArray, List.set_cons_zero, List.set_cons_succ]
      have hbn := hb2'.grown hgr (by simp; omega) (by intro q hq; cases hq; exact hg)
      have hzl2 := hide (show (zs ++ [v]).length = k + 1 + 1 by simp [hzl.out])
      obtain ⟨g2, rfl, _, _, _⟩ := hown'.blkG (by simp)
      go_wp2
      go_roundw
      case rel => exact ⟨k + 1, g2, cap', by omega, by go_num, by rw [hzl.out], by rw [hst.out]; exact hide hown', hbn⟩
      case measure => simp [intOf]; omega
    · have hin : Hid (k = n) := hide (by omega)
      have hlt' : ¬ (k : Int) < (n : Int) := by omega
      replace y0 := (hBr.frozen (World.block_lt_of_cell? _ _ r0)).trans y0
      replace y1 := (hBr.frozen (World.block_lt_of_cell? _ _ r1)).trans y1
      replace r0 := cell_be hBr r0
      replace r1 := cell_be hBr r1
      have ho := hide hO.out
      rw [hin.out] at ho
      clear hO hcell
      go_wp2
      refine bodyPost_ret (v := .tuple #[mom p (some ⟨g, 0, none⟩) (k + 1) c', .int .i64 0]) (by simp [results, Try.results23, go_sem, r0, r1]) rfl ?_
      exact ResM.own HQ.out HC.out (by rw [HV.out, tab_len, hin.out]) (by rw [HV.out]; exact ((ho.out.setLow (by simp <;> omega) _).setLow (by simp <;> omega) _).mono (by omega)) (by rw [HV.out, tab_len]; omega) ((hB.setCell (by simp <;> omega) _).setCell (by simp <;> omega) _)
set_option maxRecDepth 100000 in
set_option maxHeartbeats 6400000 in
theorem specDivideMoments (p : Int) (a : Option Addr) (n c : Nat) (xs : List Int) (x t : Int) (w : World) (hs : SL w a n c xs) (hn : n ≤ 4000000) :
    Calls Try.prog 22 #[mom p a n c, .int .i64 x, .int .i64 t] w (ResM w (dvmP p xs x t) (dvmV p xs x t) (dvmC p xs x t)) := by
  have hl := hide hs.len
  have hb0 := bl2 w (.cells #[.int .i64 p, .slice a n c] 26) (.cells #[.int .i64 0, .slice none 0 0] 26)
  have g1 := hs.below hb0
  have hbL := bl1 ((w.alloc (.cells #[.int .i64 p, .slice a n c] 26)).alloc (.cells #[.int .i64 0, .slice none 0 0] 26)) (.cells #[.int .i64 x, .int .i64 t] 2)
  have g2 := g1.below hbL
  have hb02 := bnext hb0 hbL
  have gx : SL ((((w.alloc (.cells #[.int .i64 p, .slice a n c] 26)).alloc (.cells #[.int .i64 0, .slice none 0 0] 26)).alloc (.cells #[.int .i64 x, .int .i64 t] 2))) (some ⟨w.heap.size + 1 + 1, 0, none⟩) 2 2 [x, t] := by simpa using litSL2 ((w.alloc (.cells #[.int .i64 p, .slice a n c] 26)).alloc (.cells #[.int .i64 0, .slice none 0 0] 26)) x t
  cases hm : momB p xs
  · have HC := hide (show dvmC p xs x t = 1 by simp [dvmC, hm])
    have HV := hide (show dvmV p xs x t = [] by simp [dvmV, HC.out])
    have HQ := hide (show dvmP p xs x t = 0 by simp [dvmP, HC.out])
    have Hm := hide hm
    clear hm
    go_enter Try.func22, Try.ntmps22
    go_wp2_with fail
    refine (l08Number_any _ _ _ _ _ _ _ _ [x, t] 1 _ g2 gx hn (by omega) (by simp [mnd, Hm.out])).mono ?_
    rintro e w1 ⟨rfl, hb1⟩
    have f0 : w1.cell? ⟨w.heap.size, 0, none⟩ = some (.int .i64 p) := cell_be hb1 (by simp [go_sem])
    have f1 : w1.cell? ⟨w.heap.size, 1, none⟩ = some (.slice a n c) := cell_be hb1 (by simp [go_sem])
    have r0 : w1.cell? ⟨w.heap.size + 1, 0, none⟩ = some (.int .i64 0) := cell_be hb1 (by simp [go_sem])
    have r1 : w1.cell? ⟨w.heap.size + 1, 1, none⟩ = some (.slice none 0 0) := cell_be hb1 (by simp [go_sem])
    have y0 : w1.frozen? ⟨w.heap.size + 1, 0, none⟩ = false := (hb1.frozen (by simp)).trans (by simp [go_sem])
    have y1 : w1.frozen? ⟨w.heap.size + 1, 1, none⟩ = false := (hb1.frozen (by simp)).trans (by simp [go_sem])
    have hB1 := bnext hb02 hb1
    go_wp2
    refine bodyPost_ret (v := .tuple #[mom 0 none 0 0, .int .i64 1]) (by simp [results, Try.results22, go_sem, r0, r1]) rfl ?_
    exact ResM.nil HQ.out HV.out HC.out ((hB1.setCell (by simp) _).setCell (by simp) _)
  obtain ⟨hpr, k1, k2, hx⟩ := momB_rng hm
  obtain ⟨hp, hp2⟩ := primeB_lo hpr
  rw [hl.out] at k1 k2
  by_cases hr : (0 ≤ x ∧ x ≤ p - 1) ∧ (0 ≤ t ∧ t < p)
  rotate_left
  · have HR := hide (show mnd p xs [x, t] = 2 by simp only [mnd, hm, if_true, areB_two]; rw [if_neg (by simp only [decide_eq_true_eq]; omega)])
    have HC := hide (show dvmC p xs x t = 2 by simp only [dvmC, hm, if_true]; rw [if_neg hr])
    have HV := hide (show dvmV p xs x t = [] by simp [dvmV, HC.out])
    have HQ := hide (show dvmP p xs x t = 0 by simp [dvmP, HC.out])
    clear hm hr hx
    go_enter Try.func22, Try.ntmps22
    go_wp2_with fail
    refine (l08Number_any _ _ _ _ _ _ _ _ [x, t] 2 _ g2 gx hn (by omega) HR.out).mono ?_
    rintro e w1 ⟨rfl, hb1⟩
    have f0 : w1.cell? ⟨w.heap.size, 0, none⟩ = some (.int .i64 p) := cell_be hb1 (by simp [go_sem])
    have f1 : w1.cell? ⟨w.heap.size, 1, none⟩ = some (.slice a n c) := cell_be hb1 (by simp [go_sem])
    have r0 : w1.cell? ⟨w.heap.size + 1, 0, none⟩ = some (.int .i64 0) := cell_be hb1 (by simp [go_sem])
    have r1 : w1.cell? ⟨w.heap.size + 1, 1, none⟩ = some (.slice none 0 0) := cell_be hb1 (by simp [go_sem])
    have y0 : w1.frozen? ⟨w.heap.size + 1, 0, none⟩ = false := (hb1.frozen (by simp)).trans (by simp [go_sem])
    have y1 : w1.frozen? ⟨w.heap.size + 1, 1, none⟩ = false := (hb1.frozen (by simp)).trans (by simp [go_sem])
    have hB1 := bnext hb02 hb1
    go_wp2
    refine bodyPost_ret (v := .tuple #[mom 0 none 0 0, .int .i64 2]) (by simp [results, Try.results22, go_sem, r0, r1]) rfl ?_
    exact ResM.nil HQ.out HV.out HC.out ((hB1.setCell (by simp) _).setCell (by simp) _)
  have HR := hide (show mnd p xs [x, t] = 0 by simp only [mnd, hm, if_true, areB_two]; rw [if_pos (by simp only [decide_eq_true_eq]; omega)])
  by_cases h24 : n = 24
  · have HC := hide (show dvmC p xs x t = 3 by simp only [dvmC, hm, if_true]; rw [if_pos hr, if_pos (by rw [hl.out]; exact h24)])
    have HV := hide (show dvmV p xs x t = [] by simp [dvmV, HC.out])
    have HQ := hide (show dvmP p xs x t = 0 by simp [dvmP, HC.out])
    clear hm hr hx
    have ob : ((n : Int) == 24) = true := by simp; omega
    clear h24
    go_enter Try.func22, Try.ntmps22
    go_wp2_with fail
    refine (l08Number_any _ _ _ _ _ _ _ _ [x, t] 0 _ g2 gx hn (by omega) HR.out).mono ?_
    rintro e w1 ⟨rfl, hb1⟩
    have f0 : w1.cell? ⟨w.heap.size, 0, none⟩ = some (.int .i64 p) := cell_be hb1 (by simp [go_sem])
    have f1 : w1.cell? ⟨w.heap.size, 1, none⟩ = some (.slice a n c) := cell_be hb1 (by simp [go_sem])
    have r0 : w1.cell? ⟨w.heap.size + 1, 0, none⟩ = some (.int .i64 0) := cell_be hb1 (by simp [go_sem])
    have r1 : w1.cell? ⟨w.heap.size + 1, 1, none⟩ = some (.slice none 0 0) := cell_be hb1 (by simp [go_sem])
    have y0 : w1.frozen? ⟨w.heap.size + 1, 0, none⟩ = false := (hb1.frozen (by simp)).trans (by simp [go_sem])
    have y1 : w1.frozen? ⟨w.heap.size + 1, 1, none⟩ = false := (hb1.frozen (by simp)).trans (by simp [go_sem])
    have hB1 := bnext hb02 hb1
    go_wp2
    refine bodyPost_ret (v := .tuple #[mom 0 none 0 0, .int .i64 3]) (by simp [results, Try.results22, go_sem, r0, r1]) rfl ?_
    exact ResM.nil HQ.out HV.out HC.out ((hB1.setCell (by simp) _).setCell (by simp) _)
  have HC := hide (show dvmC p xs x t = 0 by simp only [dvmC, hm, if_true]; rw [if_pos hr, if_neg (by rw [hl.out]; exact h24)])
  have HV := hide (show dvmV p xs x t = tab (n + 1) (dvmS p xs x t) by rw [dvmV, if_pos HC.out, hl.out])
  have HQ := hide (show dvmP p xs x t = p by rw [dvmP, if_pos HC.out])
  have ob : ((n : Int) == 24) = false := by simp; omega
  obtain ⟨⟨x0, x1⟩, ht⟩ := hr
  have Hx := hide hx
  have SR := hide (fun k => dvmS_rng hp xs x ht.1 ht.2 k)
  clear hm hx hpr ht
  go_enter Try.func22, Try.ntmps22
  go_wp2_with fail
  refine (l08Number_any _ _ _ _ _ _ _ _ [x, t] 0 _ g2 gx hn (by omega) HR.out).mono ?_
  rintro e w2 ⟨rfl, hb2⟩
  have f0 : w2.cell? ⟨w.heap.size, 0, none⟩ = some (.int .i64 p) := cell_be hb2 (by simp [go_sem])
  have f1 : w2.cell? ⟨w.heap.size, 1, none⟩ = some (.slice a n c) := cell_be hb2 (by simp [go_sem])
  have r0 : w2.cell? ⟨w.heap.size + 1, 0, none⟩ = some (.int .i64 0) := cell_be hb2 (by simp [go_sem])
  have r1 : w2.cell? ⟨w.heap.size + 1, 1, none⟩ = some (.slice none 0 0) := cell_be hb2 (by simp [go_sem])
  have y0 : w2.frozen? ⟨w.heap.size + 1, 0, none⟩ = false := (hb2.frozen (by simp)).trans (by simp [go_sem])
  have y1 : w2.frozen? ⟨w.heap.size + 1, 1, none⟩ = false := (hb2.frozen (by simp)).trans (by simp [go_sem])
  have hB := bnext hb02 hb2
  have hzz : w.heap.size + 2 ≤ w2.heap.size := by have := hb2.size; simp at this; omega
  have hO0 : Hid (Own w2.heap.size ((w2.alloc (.cells #[.int .i64 t] 2)).alloc (.cells #[.int .i64 p, .slice (some ⟨w2.heap.size, 0, none⟩) 1 1] 26)) (some ⟨w2.heap.size, 0, none⟩) 1 (tab 1 (dvmS p xs x t))) := hide (Own.below (litOwn w2 _ (Nat.le_refl _) t) (bl1 _ _))
  have hB0 := bl2 w2 (.cells #[.int .i64 t] 2) (.cells #[.int .i64 p, .slice (some ⟨w2.heap.size, 0, none⟩) 1 1] 26)
  go_wp2
  go_loopw [10] (fun iv wr => ∃ (k g c' : Nat), k ≤ n ∧ iv = .int .i64 k ∧ Hid (Own w2.heap.size wr (some ⟨g, 0, none⟩) c' (tab (k + 1) (dvmS p xs x t))) ∧ Hid (g ≠ w2.heap.size + 1) ∧
    wr.cell? ⟨w2.heap.size + 1, 0, none⟩ = some (.int .i64 p) ∧ wr.cell? ⟨w2.heap.size + 1, 1, none⟩ = some (.slice (some ⟨g, 0, none⟩) (k + 1) c') ∧ wr.frozen? ⟨w2.heap.size + 1, 1, none⟩ = false ∧ Below w2.heap.size w2 wr ∧ w2.heap.size + 2 ≤ wr.heap.size) (fun iv _ => n - (intOf iv).toNat)
  case atStart => exact ⟨0, w2.heap.size, 1, by omega, rfl, hO0, hide (by omega), by simp [go_sem], by simp [go_sem], by simp [go_sem], hB0, by simp⟩
  case round =>
    obtain ⟨k, g, c', hk, rfl, hO, hne, s0, s1, sf, hbr, hsz⟩ := hrel
    clear hO0 hB0
    have hBr := hB.trans (hbr.mono (by omega))
    replace f0 := cell_be hbr f0
    replace f1 := cell_be hbr f1
    by_cases hlt : k < n
    · obtain ⟨b, off, rfl, hbw, hcell⟩ := hs.at (by omega)
      have e1 := cell_be hBr (hcell k hlt)
      have e2 := Own.cellG hO.out k (by rw [tab_len]; omega)
      rw [tab_at _ _ _ (by omega)] at e2
      have hst : Hid (tab (k + 1 + 1) (dvmS p xs x t) = tab (k + 1) (dvmS p xs x t) ++ [(xs.getD k 0 + x * dvmS p xs x t k) % p]) := hide (tab_snoc (k + 1) (dvmS p xs x t)).symm
      have rx := getD_rng Hx.out hp k
      have ry := SR.out k
      have hge := own_blk_ge hO.out
      have ek : Hid ((tab (k + 1) (dvmS p xs x t)).getD k 0 = dvmS p xs x t k) := hide (tab_at _ _ _ (by omega))
      obtain ⟨u, hu⟩ : ∃ u, xs.getD k 0 = u := ⟨_, rfl⟩
      obtain ⟨y, hy⟩ : ∃ y, dvmS p xs x t k = y := ⟨_, rfl⟩
      rw [hu] at e1 hst rx
      rw [hy] at e2 hst ry ek
      obtain ⟨m1, m2⟩ := mulb x0 (show x < p by omega) ry.1 ry.2 hp2
      have v3 : IntKind.i64.wrap (x * y) = x * y := IntWalk.i64_in _ (by omega)
      have v4 : IntKind.i64.wrap (u + x * y) = u + x * y := IntWalk.i64_in _ (by omega)
      have v6 : (u + x * y).tmod p = (u + x * y) % p := Int.tmod_eq_emod_of_nonneg (by omega)
      have v7 := modb (x := u + x * y) hp
      obtain ⟨v, hv⟩ : ∃ v, (u + x * y) % p = v := ⟨_, rfl⟩
      rw [hv] at hst v6 v7
      have v5 : IntKind.i64.wrap v = v := IntWalk.i64_in _ (by omega)
      have hp0 : ¬ p = 0 := by omega
      obtain ⟨zs, hzs⟩ : ∃ zs, tab (k + 1) (dvmS p xs x t) = zs := ⟨_, rfl⟩
      have hzl := hide (show zs.length = k + 1 by rw [← hzs, tab_len])
      rw [hzs] at hO hst ek
      clear hu hy hv hzs hcell
      have hlt' : (k : Int) < (n : Int) := by omega
      have s00 : (0 : Int) ≤ (k : Int) := by omega
      have s01 : (k : Int) < (k : Int) + 1 := by omega
      have hg : w2.heap.size ≤ g := hge _ rfl
      have s0a : ((wr.alloc (.cells #[.int .i64 v] 2)).drew).cell? ⟨w2.heap.size + 1, 0, none⟩ = some (.int .i64 p) := cell_al s0 (.cells #[.int .i64 v] 2)
      have s1a : ((wr.alloc (.cells #[.int .i64 v] 2)).drew).cell? ⟨w2.heap.size + 1, 1, none⟩ = some (.slice (some ⟨g, 0, none⟩) (k + 1) c') := cell_al s1 (.cells #[.int .i64 v] 2)
      have sfa : ((wr.alloc (.cells #[.int .i64 v] 2)).drew).frozen? ⟨w2.heap.size + 1, 1, none⟩ = false := frz_al s1 sf (.cells #[.int .i64 v] 2)
      have hba : Below wr.heap.size wr ((wr.alloc (.cells #[.int .i64 v] 2)).drew) := (bl1 wr _).drew
      have hOa := hide (hO.out.below hba)
      have hcl : ((wr.alloc (.cells #[.int .i64 v] 2)).drew).cell? ⟨wr.heap.size, 0, none⟩ = some (.int .i64 v) := by simp [go_sem]
      clear hO
      have hb2' : Below w2.heap.size w2 ((wr.alloc (.cells #[.int .i64 v] 2)).drew) := (hbr.alloc (by omega) _).drew
      have hbd := (Below.refl wr.heap.size wr).drew
      go_upto_region 10 with fail
      refine region_E (fun w' => w'.cell? ⟨w.heap.size, 0, none⟩ = some (.int .i64 p) ∧ w'.cell? ⟨w.heap.size, 1, none⟩ = some (.slice (some ⟨b, off, none⟩) n c) ∧ w'.cell? ⟨b, off + k, none⟩ = some (.int .i64 u) ∧ w'.cell? ⟨g, k, none⟩ = some (.int .i64 y) ∧ w'.cell? ⟨w2.heap.size + 1, 1, none⟩ = some (.slice (some ⟨g, 0, none⟩) (k + 1) c')) 21 (by kernel_rfl) ⟨cell_be hbd f0, cell_be hbd f1, cell_be hbd e1, cell_be hbd e2, cell_be hbd s1⟩ ?_
      intro hS
      refine anyE_takeL 0 rfl (by kernel_rfl) (fun _ _ _ h => h) hS (by rfl) (v := ?_) ?_ ?_
      rotate_left
      · intro w' hSw; (try dsimp only at hSw); go_simp; (try with_reducible rfl)
      try simp only [Act.put, List.setIfInBounds_toArray, List.set_cons_zero, List.set_cons_succ]
      refine anyE_takeL 1 rfl (by kernel_rfl) (fun _ _ _ h => h) hS (by rfl) (v := ?_) ?_ ?_
      rotate_left
      · intro w' hSw; (try dsimp only at hSw); go_simp; (try with_reducible rfl)
      try simp only [Act.put, List.setIfInBounds_toArray, List.set_cons_zero, List.set_cons_succ]
      refine anyE_takeL 2 rfl (by kernel_rfl) (fun _ _ _ h => h) hS (by rfl) (v := ?_) ?_ ?_
      rotate_left
      · intro w' hSw; (try dsimp only at hSw); go_simp; (try with_reducible rfl)
      try simp only [Act.put, List.setIfInBounds_toArray, List.set_cons_zero, List.set_cons_succ]
      refine anyE_takeL 3 rfl (by kernel_rfl) (fun _ _ _ h => h) hS (by rfl) (v := ?_) ?_ ?_
      rotate_left
      · intro w' hSw; (try dsimp only at hSw); go_simp; (try with_reducible rfl)
      try simp only [Act.put, List.setIfInBounds_toArray, List.set_cons_zero, List.set_cons_succ]
      refine anyE_takeL 4 rfl (by kernel_rfl) (fun _ _ _ h => h) hS (by rfl) (v := ?_) ?_ ?_
      rotate_left
      · intro w' hSw; (try dsimp only at hSw); go_simp; (try with_reducible rfl)
      try simp only [Act.put, List.setIfInBounds_toArray, List.set_cons_zero, List.set_cons_succ]
      refine anyE_takeL 5 rfl (by kernel_rfl) (fun _ _ _ h => h) hS (by rfl) (v := ?_) ?_ ?_
      rotate_left
      · intro w' hSw; (try dsimp only at hSw); go_simp; (try with_reducible rfl)
      try simp only [Act.put, List.setIfInBounds_toArray, List.set_cons_zero, List.set_cons_succ]
      refine anyE_takeL 6 rfl (by kernel_rfl) (fun _ _ _ h => h) hS (by rfl) (v := ?_) ?_ ?_
      rotate_left
      · intro w' hSw; (try dsimp only at hSw); go_simp; (try with_reducible rfl)
      try simp only [Act.put, List.setIfInBounds_toArray, List.set_cons_zero, List.set_cons_succ]
      refine anyE_takeL 7 rfl (by kernel_rfl) (fun _ _ _ h => h) hS (by rfl) (v := ?_) ?_ ?_
      rotate_left
      · intro w' hSw; (try dsimp only at hSw); go_simp; (try with_reducible rfl)
      try simp only [Act.put, List.setIfInBounds_toArray, List.set_cons_zero, List.set_cons_succ]
      refine anyE_takeL 8 rfl (by kernel_rfl) (fun _ _ _ h => h) hS (by rfl) (v := ?_) ?_ ?_
      rotate_left
      · intro w' hSw; (try dsimp only at hSw); go_simp; (try with_reducible rfl)
      try simp only [Act.put, List.setIfInBounds_toArray, List.set_cons_zero, List.set_cons_succ]
      refine anyE_takeL 9 rfl (by kernel_rfl) (fun _ _ _ h => h) hS (by rfl) (v := ?_) ?_ ?_
      rotate_left
      · intro w' hSw; (try dsimp only at hSw); go_simp; (try with_reducible rfl)
      try simp only [Act.put, List.setIfInBounds_toArray, List.set_cons_zero, List.set_cons_succ]
      refine anyE_takeL 10 rfl (by kernel_rfl) (fun _ _ _ h => h) hS (by rfl) (v := ?_) ?_ ?_
      rotate_left
      · intro w' hSw; (try dsimp only at hSw); go_simp; (try with_reducible rfl)
      try simp only [Act.put, List.setIfInBounds_toArray, List.set_cons_zero, List.set_cons_succ]
      refine anyE_takeL 11 rfl (by kernel_rfl) (fun _ _ _ h => h) hS (by rfl) (v := ?_) ?_ ?_
      rotate_left
      · intro w' hSw; (try dsimp only at hSw); go_simp; (try with_reducible rfl)
      try simp only [Act.put, List.setIfInBounds_toArray, List.set_cons_zero, List.set_cons_succ]
      refine anyE_takeL 12 rfl (by kernel_rfl) (fun _ _ _ h => h) hS (by rfl) (v := ?_) ?_ ?_
      rotate_left
      · intro w' hSw; (try dsimp only at hSw); go_simp; (try with_reducible rfl)
      try simp only [Act.put, List.setIfInBounds_toArray, List.set_cons_zero, List.set_cons_succ]
      refine anyE_takeL 13 rfl (by kernel_rfl) (fun _ _ _ h => h) hS (by rfl) (v := ?_) ?_ ?_
      rotate_left
      · intro w' hSw; (try dsimp only at hSw); go_simp; (try with_reducible rfl)
      try simp only [Act.put, List.setIfInBounds_toArray, List.set_cons_zero, List.set_cons_succ]
      refine anyE_takeL 14 rfl (by kernel_rfl) (fun _ _ _ h => h) hS (by rfl) (v := ?_) ?_ ?_
      rotate_left
      · intro w' hSw; (try dsimp only at hSw); go_simp; (try with_reducible rfl)
      try simp only [Act.put, List.setIfInBounds_toArray, List.set_cons_zero, List.set_cons_succ]
      refine anyE_takeL 15 rfl (by kernel_rfl) (fun _ _ _ h => h) hS (by rfl) (v := ?_) ?_ ?_
      rotate_left
      · intro w' hSw; (try dsimp only at hSw); go_simp; (try with_reducible rfl)
      try simp only [Act.put, List.setIfInBounds_toArray, List.set_cons_zero, List.set_cons_succ]
      refine anyE_takeL 16 rfl (by kernel_rfl) (fun _ _ _ h => h) hS (by rfl) (v := ?_) ?_ ?_
      rotate_left
      · intro w' hSw; (try dsimp only at hSw); go_simp; (try with_reducible rfl)
      try simp only [Act.put, List.setIfInBounds_toArray, List.set_cons_zero, List.set_cons_succ]
      refine anyE_takeL 17 rfl (by kernel_rfl) (fun _ _ _ h => h) hS (by rfl) (v := ?_) ?_ ?_
      rotate_left
      · intro w' hSw; (try dsimp only at hSw); go_simp; (try with_reducible rfl)
      try simp only [Act.put, List.setIfInBounds_toArray, List.set_cons_zero, List.set_cons_succ]
      clear hS
      refine anyE_oneL 18 (by kernel_rfl) rfl (fun K hK => ?_)
      go_simp
      have q0 := cell_be hba f0
      have q1 := cell_be hba f1
      have q2 := cell_be hba e1
      have S1 := And.intro q0 (And.intro q1 (And.intro q2 (And.intro (cell_be hba e2) s1a)))
      refine hK.out _ _ S1 ?_
      clear hK K
      try simp only [Act.put, List.setIfInBounds_toArray, List.set_cons_zero, List.set_cons_succ]
      refine anyE_oneL 19 (by kernel_rfl) rfl (fun K hK => ?_)
      refine step_app1K (by rfl) _ _ (by rfl) w2.heap.size g _ _ zs (by rfl) hzl.out.symm hOa.out _ _ v (by rfl) hcl (by omega) (by simp; omega) ?_
      intro ad' cap' w' hown' hgr hloc hkeep
      have hne1 : some g ≠ some (w2.heap.size + 1) := fun e => hne.out (Option.some.inj e)
      have s0' := cell_ne hgr s0a hne1
      have s1' := cell_ne hgr s1a hne1
      have sf' := frz_ne hgr s1a sfa hne1
      have e2' : w'.cell? ⟨g, k, none⟩ = some (.int .i64 y) := by rw [hkeep k (by rw [hzl.out]; omega), ek.out]
      have S2 := And.intro (cell_ne hgr q0 (by simp; omega)) (And.intro (cell_ne hgr q1 (by simp; omega)) (And.intro (cell_ne hgr q2 (by simp; omega)) (And.intro e2' s1')))
      refine hK.out _ _ S2 ?_
      clear hK K
      try simp only [Act.put, List.setIfInBounds_toArray, List.set_cons_zero, List.set_cons_succ]
      refine anyE_takeL 20 rfl (by kernel_rfl) (fun _ _ _ h => h) S2 (by rfl) (v := ?_) ?_ ?_
      rotate_left
      · intro w' hSw; (try dsimp only at hSw); go_simp; (try with_reducible rfl)
      try simp only [Act.put, List.setIfInBounds_toArray, List.set_cons_zero, List.set_cons_succ]
      clear S1 S2 e2' q0 q1 q2
      refine anyE_lastL (by kernel_rfl) rfl (by kernel_rfl) (fun K hK => ?_)
      go_simp
      refine hK.out _ _ ?_
      clear hK K
      try simp only [Act.put, List.setIfInBounds_toArray, List.set_cons_zero, List.set_cons_succ]
      have hbn := hb2'.grown hgr (by simp; omega) (by intro q hq; cases hq; exact hg)
      have hn2 := hide (show blk ad' ≠ some (w2.heap.size + 1) from by
        rcases hloc with h | h <;> rw [h]
        · exact hne1
        · simp; omega)
      have hzl2 := hide (show (zs ++ [v]).length = k + 1 + 1 by simp [hzl.out])
      have hgs := hgr.size
      obtain ⟨g3, rfl, _, _, _⟩ := hown'.blkG (by simp)
      go_wp2
      go_roundw
      case rel => exact ⟨k + 1, g3, cap', by omega, by go_num, by rw [hst.out]; exact hide (hown'.otherG hn2.out _), hide (fun e => hn2.out (by rw [e]; rfl)), cell_set2' s0' (by simp) _, by rw [show k + 1 + 1 = zs.length + 1 by rw [hzl.out]]; exact World.cell?_setCell_same _ _ _ s1', by simpa using sf', hbn.setCell (by simp) _, by simp at hgs ⊢; omega⟩
      case measure => simp [intOf]; omega
    · have hin : Hid (k = n) := hide (by omega)
      have hlt' : ¬ (k : Int) < (n : Int) := by omega
      replace y0 := (hbr.frozen (World.block_lt_of_cell? _ _ r0)).trans y0
      replace y1 := (hbr.frozen (World.block_lt_of_cell? _ _ r1)).trans y1
      replace r0 := cell_be hbr r0
      replace r1 := cell_be hbr r1
      have ho := hide hO.out
      rw [hin.out] at ho
      clear hO
      go_wp2
      refine bodyPost_ret (v := .tuple #[mom p (some ⟨g, 0, none⟩) (k + 1) c', .int .i64 0]) (by simp [results, Try.results22, go_sem, r0, r1]) rfl ?_
      exact ResM.own HQ.out HC.out (by rw [HV.out, tab_len, hin.out]) (by rw [HV.out]; exact ((ho.out.setLow (by simp <;> omega) _).setLow (by simp <;> omega) _).mono (by omega)) (by rw [HV.out, tab_len]; omega) ((hBr.setCell (by simp <;> omega) _).setCell (by simp <;> omega) _)
end Go.Proofs.Ytllcgoachgfpjaa
