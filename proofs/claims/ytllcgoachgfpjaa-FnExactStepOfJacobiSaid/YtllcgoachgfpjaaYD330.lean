/- Merged texts. -/
import Derived.Test.YtllcgoachgfpjaaYD329
import Derived.Test.YtllcgoachgfpjaaYD313
/- Contract: StepOfJacobi (program). -/
namespace Go.Proofs.Ytllcgoachgfpjaa
open Go.RowKit
set_option linter.unusedVariables false
set_option linter.unusedSimpArgs false

set_option maxRecDepth 100000 in
set_option maxHeartbeats 6400000 in
theorem implStepOfJacobi (p : Int) (a : Option Addr) (n c : Nat) (xs : List Int) (b : Option Addr) (m d : Nat) (ys : List Int) (x : Int) (w : World) (hs : SL w a n c xs) (ht : SL w b m d ys) (hn : n ≤ 4000000) (hm : m ≤ 4000000) :
    Calls Try.prog 29 #[jac p a n c b m d, .int .i64 x] w (ResJ w (sojP p xs ys x) (sojV p xs ys x) (sojU p xs ys x) (sojC p xs ys x)) := by
  have hl := hide hs.len
  have hl2 := hide ht.len
  have hb0 := bl2 w (.cells #[.int .i64 p, .slice a n c, .slice b m d] 38) (.cells #[.int .i64 0, .slice none 0 0, .slice none 0 0] 38)
  have g1 := hs.below hb0
  have g2 := ht.below hb0
  cases hj : jacB p xs ys
  · have HC := hide (show sojC p xs ys x = 1 by simp [sojC, hj])
    have HE := hide (soj_err HC.out (by decide))
    have Hj := hide hj
    clear hj
    go_enter Try.func29, Try.ntmps29
    go_wp2_with fail
    refine (checkJacobi_any _ _ _ _ _ _ _ _ _ _ _ _ 1 _ g1 g2 hn hm (by simp [jcd, Hj.out])).mono ?_
    rintro e w2 ⟨rfl, hb1⟩
    have f0 : w2.cell? ⟨w.heap.size, 0, none⟩ = some (.int .i64 p) := cell_be hb1 (by simp [go_sem])
    have f1 : w2.cell? ⟨w.heap.size, 1, none⟩ = some (.slice a n c) := cell_be hb1 (by simp [go_sem])
    have f2 : w2.cell? ⟨w.heap.size, 2, none⟩ = some (.slice b m d) := cell_be hb1 (by simp [go_sem])
    have r0 : w2.cell? ⟨w.heap.size + 1, 0, none⟩ = some (.int .i64 0) := cell_be hb1 (by simp [go_sem])
    have r1 : w2.cell? ⟨w.heap.size + 1, 1, none⟩ = some (.slice none 0 0) := cell_be hb1 (by simp [go_sem])
    have r2 : w2.cell? ⟨w.heap.size + 1, 2, none⟩ = some (.slice none 0 0) := cell_be hb1 (by simp [go_sem])
    have y0 : w2.frozen? ⟨w.heap.size + 1, 0, none⟩ = false := (hb1.frozen (by simp)).trans (by simp [go_sem])
    have y1 : w2.frozen? ⟨w.heap.size + 1, 1, none⟩ = false := (hb1.frozen (by simp)).trans (by simp [go_sem])
    have y2 : w2.frozen? ⟨w.heap.size + 1, 2, none⟩ = false := (hb1.frozen (by simp)).trans (by simp [go_sem])
    have hB2 := bnext hb0 hb1
    go_wp2
    refine bodyPost_ret (v := .tuple #[jac 0 none 0 0 none 0 0, .int .i64 1]) (by simp [results, Try.results29, go_sem, r0, r1, r2]) rfl ?_
    exact ResJ.nil HE.out.1 HE.out.2.1 HE.out.2.2 HC.out (((hB2.setCell (by simp) _).setCell (by simp) _).setCell (by simp) _)
  have Hj := hide hj
  obtain ⟨hpr, n1, n2, n3, hx, hy⟩ := jacB_rng hj
  obtain ⟨hp, hp2⟩ := primeB_lo hpr
  rw [hl.out] at n1 n2 n3
  rw [hl2.out] at n3
  subst n3
  have vp : IntKind.i64.wrap (p - 1) = p - 1 := IntWalk.i64_in _ (by omega)
  by_cases hr : 0 ≤ x ∧ x ≤ p - 1
  rotate_left
  · have HC := hide (show sojC p xs ys x = 2 by simp only [sojC, hj, if_true]; rw [if_neg hr])
    have HE := hide (soj_err HC.out (by decide))
    have HR := hide (show jcd p xs ys x 0 (p - 1) = 2 by simp only [jcd, hj, if_true]; rw [if_neg hr])
    clear hj hr hx hy
    go_enter Try.func29, Try.ntmps29
    go_wp2_with fail
    refine (checkJacobi_any _ _ _ _ _ _ _ _ _ _ _ _ 2 _ g1 g2 hn hm HR.out).mono ?_
    rintro e w2 ⟨rfl, hb1⟩
    have f0 : w2.cell? ⟨w.heap.size, 0, none⟩ = some (.int .i64 p) := cell_be hb1 (by simp [go_sem])
    have f1 : w2.cell? ⟨w.heap.size, 1, none⟩ = some (.slice a m c) := cell_be hb1 (by simp [go_sem])
    have f2 : w2.cell? ⟨w.heap.size, 2, none⟩ = some (.slice b m d) := cell_be hb1 (by simp [go_sem])
    have r0 : w2.cell? ⟨w.heap.size + 1, 0, none⟩ = some (.int .i64 0) := cell_be hb1 (by simp [go_sem])
    have r1 : w2.cell? ⟨w.heap.size + 1, 1, none⟩ = some (.slice none 0 0) := cell_be hb1 (by simp [go_sem])
    have r2 : w2.cell? ⟨w.heap.size + 1, 2, none⟩ = some (.slice none 0 0) := cell_be hb1 (by simp [go_sem])
    have y0 : w2.frozen? ⟨w.heap.size + 1, 0, none⟩ = false := (hb1.frozen (by simp)).trans (by simp [go_sem])
    have y1 : w2.frozen? ⟨w.heap.size + 1, 1, none⟩ = false := (hb1.frozen (by simp)).trans (by simp [go_sem])
    have y2 : w2.frozen? ⟨w.heap.size + 1, 2, none⟩ = false := (hb1.frozen (by simp)).trans (by simp [go_sem])
    have hB2 := bnext hb0 hb1
    go_wp2
    refine bodyPost_ret (v := .tuple #[jac 0 none 0 0 none 0 0, .int .i64 2]) (by simp [results, Try.results29, go_sem, r0, r1, r2]) rfl ?_
    exact ResJ.nil HE.out.1 HE.out.2.1 HE.out.2.2 HC.out (((hB2.setCell (by simp) _).setCell (by simp) _).setCell (by simp) _)
  have HR := hide (show jcd p xs ys x 0 (p - 1) = 0 by simp only [jcd, hj, if_true]; rw [if_pos hr])
  have HCC := hide (show sojC p xs ys x = if stOk p xs ys x m then 0 else 5 by simp only [sojC, hj, if_true, hl.out]; rw [if_pos hr])
  by_cases h1 : m = 1
  · have HC := hide (show sojC p xs ys x = 5 by rw [HCC.out]; simp [stOk, h1])
    have HE := hide (soj_err HC.out (by decide))
    have ob : ((m : Int) == 1) = true := by simp; omega
    clear hj hr hx hy h1
    go_enter Try.func29, Try.ntmps29
    go_wp2_with fail
    refine (checkJacobi_any _ _ _ _ _ _ _ _ _ _ _ _ 0 _ g1 g2 hn hm HR.out).mono ?_
    rintro e w2 ⟨rfl, hb1⟩
    have f0 : w2.cell? ⟨w.heap.size, 0, none⟩ = some (.int .i64 p) := cell_be hb1 (by simp [go_sem])
    have f1 : w2.cell? ⟨w.heap.size, 1, none⟩ = some (.slice a m c) := cell_be hb1 (by simp [go_sem])
    have f2 : w2.cell? ⟨w.heap.size, 2, none⟩ = some (.slice b m d) := cell_be hb1 (by simp [go_sem])
    have r0 : w2.cell? ⟨w.heap.size + 1, 0, none⟩ = some (.int .i64 0) := cell_be hb1 (by simp [go_sem])
    have r1 : w2.cell? ⟨w.heap.size + 1, 1, none⟩ = some (.slice none 0 0) := cell_be hb1 (by simp [go_sem])
    have r2 : w2.cell? ⟨w.heap.size + 1, 2, none⟩ = some (.slice none 0 0) := cell_be hb1 (by simp [go_sem])
    have y0 : w2.frozen? ⟨w.heap.size + 1, 0, none⟩ = false := (hb1.frozen (by simp)).trans (by simp [go_sem])
    have y1 : w2.frozen? ⟨w.heap.size + 1, 1, none⟩ = false := (hb1.frozen (by simp)).trans (by simp [go_sem])
    have y2 : w2.frozen? ⟨w.heap.size + 1, 2, none⟩ = false := (hb1.frozen (by simp)).trans (by simp [go_sem])
    have hB2 := bnext hb0 hb1
    go_wp2
    refine bodyPost_ret (v := .tuple #[jac 0 none 0 0 none 0 0, .int .i64 5]) (by simp [results, Try.results29, go_sem, r0, r1, r2]) rfl ?_
    exact ResJ.nil HE.out.1 HE.out.2.1 HE.out.2.2 HC.out (((hB2.setCell (by simp) _).setCell (by simp) _).setCell (by simp) _)
  have ob : ((m : Int) == 1) = false := by simp; omega
  have hm2 : 2 ≤ m := by omega
  obtain ⟨x0, x1⟩ := hr
  have DB := hide (dqB_less p xs ys x 0 m hl.out (m - 1) (by omega))
  have DV := hide (dqV_less p xs ys x 0 m hl.out (m - 1) (by omega))
  have HX := hide hx
  have HY := hide (posB_are hy)
  have HP := hide hy
  have AX := hide (show areB p (tab m (afA p 1 (opp p x) xs m)) = true from areB_mk fun j hj => by
    rw [tab_len] at hj
    rw [tab_at _ _ _ hj]
    unfold afA
    rw [if_pos hj]
    exact modb hp)
  have Hpr := hide hpr
  obtain ⟨bb, bo, rfl, hbw, hcc⟩ := ht.at (show 0 < m by omega)
  have hY0 : w.cell? ⟨bb, bo, none⟩ = some (.int .i64 (ys.getD 0 0)) := hcc 0 (by omega)
  clear hj hx hy hpr hcc h1
  go_enter Try.func29, Try.ntmps29
  go_wp2_with fail
  refine (checkJacobi_any _ _ _ _ _ _ _ _ _ _ _ _ 0 _ g1 g2 hn hm HR.out).mono ?_
  rintro e w1 ⟨rfl, hb1⟩
  have f0 : w1.cell? ⟨w.heap.size, 0, none⟩ = some (.int .i64 p) := cell_be hb1 (by simp [go_sem])
  have f1 : w1.cell? ⟨w.heap.size, 1, none⟩ = some (.slice a m c) := cell_be hb1 (by simp [go_sem])
  have f2 : w1.cell? ⟨w.heap.size, 2, none⟩ = some (.slice (some ⟨bb, bo, none⟩) m d) := cell_be hb1 (by simp [go_sem])
  have r0 : w1.cell? ⟨w.heap.size + 1, 0, none⟩ = some (.int .i64 0) := cell_be hb1 (by simp [go_sem])
  have r1 : w1.cell? ⟨w.heap.size + 1, 1, none⟩ = some (.slice none 0 0) := cell_be hb1 (by simp [go_sem])
  have r2 : w1.cell? ⟨w.heap.size + 1, 2, none⟩ = some (.slice none 0 0) := cell_be hb1 (by simp [go_sem])
  have y0 : w1.frozen? ⟨w.heap.size + 1, 0, none⟩ = false := (hb1.frozen (by simp)).trans (by simp [go_sem])
  have y1 : w1.frozen? ⟨w.heap.size + 1, 1, none⟩ = false := (hb1.frozen (by simp)).trans (by simp [go_sem])
  have y2 : w1.frozen? ⟨w.heap.size + 1, 2, none⟩ = false := (hb1.frozen (by simp)).trans (by simp [go_sem])
  have hB1 := bnext hb0 hb1
  have z1 := hb1.size
  simp at z1
  go_wp2_with fail
  refine (lessNumber_any p _ _ _ xs _ _ ys x _ (g1.below hb1) (g2.below hb1) Hj.out x0 (by omega)).mono ?_
  rintro e w2 ⟨a2, c2, b2, d2, rfl, o2, t2⟩
  replace y0 := (t2.frozen (World.block_lt_of_cell? _ _ r0)).trans y0
  replace y1 := (t2.frozen (World.block_lt_of_cell? _ _ r1)).trans y1
  replace y2 := (t2.frozen (World.block_lt_of_cell? _ _ r2)).trans y2
  replace f0 := cell_be t2 f0
  replace f1 := cell_be t2 f1
  replace f2 := cell_be t2 f2
  replace r0 := cell_be t2 r0
  replace r1 := cell_be t2 r1
  replace r2 := cell_be t2 r2
  have hB2 := bnext hB1 t2
  have z2 := t2.size
  go_wp2_with fail
  refine (diff_any p _ _ _ (tab m (afA p 1 (opp p x) xs m)) _ _ ys 0 _ o2.sl1 o2.sl2 hp hp2 AX.out HY.out n1 n2 (by omega) (by omega)).mono ?_
  rw [DB.out, DV.out]
  rintro e w3 ⟨t3, hcs⟩
  replace y0 := (t3.frozen (World.block_lt_of_cell? _ _ r0)).trans y0
  replace y1 := (t3.frozen (World.block_lt_of_cell? _ _ r1)).trans y1
  replace y2 := (t3.frozen (World.block_lt_of_cell? _ _ r2)).trans y2
  replace f0 := cell_be t3 f0
  replace f1 := cell_be t3 f1
  replace f2 := cell_be t3 f2
  replace r0 := cell_be t3 r0
  replace r1 := cell_be t3 r1
  replace r2 := cell_be t3 r2
  have hB3 := bnext hB2 t3
  have z3 := t3.size
  rcases hcs with ⟨hdq, a3, c3, rfl, o3⟩ | ⟨hdq, rfl⟩
  rotate_left
  · have HC := hide (show sojC p xs ys x = 5 by rw [HCC.out]; simp [stOk, hdq])
    have HE := hide (soj_err HC.out (by decide))
    clear hdq
    go_wp2
    refine bodyPost_ret (v := .tuple #[jac 0 none 0 0 none 0 0, .int .i64 5]) (by simp [results, Try.results29, go_sem, r0, r1, r2]) rfl ?_
    exact ResJ.nil HE.out.1 HE.out.2.1 HE.out.2.2 HC.out (((hB3.setCell (by simp) _).setCell (by simp) _).setCell (by simp) _)
  have HC := hide (show sojC p xs ys x = 0 by rw [HCC.out]; simp [stOk, hdq, hm2])
  have HV := hide (show sojV p xs ys x = tab (m - 1) (stA p xs ys x) by rw [sojV, if_pos HC.out, hl.out])
  have HU := hide (show sojU p xs ys x = tab (m - 1) (stB p xs ys x) by rw [sojU, if_pos HC.out, hl.out])
  have HQ := hide (show sojP p xs ys x = p by rw [sojP, if_pos HC.out])
  have HJ := hide (soj_dp (c := x) Hpr.out hl.out hl2.out hm2 n2 HP.out hdq)
  clear hdq
  have hTd := hide (show stT p xs ys x m = [ys.getD 0 0] ++ dqV p xs ys x 0 (m - 1) from rfl)
  have hTl := hide (stT_len p xs ys x m n1)
  have kY := cell_be hB3 hY0
  obtain ⟨y, hyy⟩ : ∃ y, ys.getD 0 0 = y := ⟨_, rfl⟩
  rw [hyy] at hTd kY
  have i0 : (0 : Int) < (m : Int) := by omega
  have i1 : 0 < m := by omega
  obtain ⟨r, hr⟩ : ∃ r, m - 1 = r := ⟨_, rfl⟩
  have lr1 : 1 ≤ r := by omega
  have lr2 : r ≤ 11 := by omega
  rw [hr] at HV HU HJ hTd hTl o3 ⊢
  obtain ⟨T, hT⟩ : ∃ T, stT p xs ys x m = T := ⟨_, rfl⟩
  rw [hT] at hTd hTl HJ
  obtain ⟨V, hV⟩ : ∃ V, dqV p xs ys x 0 r = V := ⟨_, rfl⟩
  have hVl := hide (show V.length = 2 * r by rw [← hV, dqV_len])
  rw [hV] at hTd o3
  clear hyy hT hV hY0 hr
  have t4 := bl1 w3 (.cells #[.int .i64 y] 2)
  have s4 : SL (w3.alloc (.cells #[.int .i64 y] 2)) a3 (2 * r) c3 V := by have := (o3.below t4).sl; rwa [hVl.out] at this
  go_wp2_with (at_builtin; refine wp_appG (by rfl) _ _ (by rfl) w3.heap.size _ 1 _ [y] (by rfl) rfl (litOwn w3 _ (Nat.le_refl _) y) _ (2 * r) _ V (by rfl) s4 (by omega) (by first | (simp; done) | (simp; omega)) ?_; intro ad' cap' w6 hown' hgr hloc; have t6 := t4.grown hgr (by first | (simp; done) | (simp; omega)) (own_blk_ge (litOwn w3 w3.heap.size (Nat.le_refl _) y)); have f0z := cell_be t6 f0; have f1z := cell_be t6 f1; have f2z := cell_be t6 f2)
  replace y0 := (t6.frozen (World.block_lt_of_cell? _ _ r0)).trans y0
  replace y1 := (t6.frozen (World.block_lt_of_cell? _ _ r1)).trans y1
  replace y2 := (t6.frozen (World.block_lt_of_cell? _ _ r2)).trans y2
  replace f0 := cell_be t6 f0
  replace f1 := cell_be t6 f1
  replace f2 := cell_be t6 f2
  replace r0 := cell_be t6 r0
  replace r1 := cell_be t6 r1
  replace r2 := cell_be t6 r2
  have hB6 := bnext hB3 t6
  have z6 := t6.size
  obtain ⟨g6, rfl, _, _, _⟩ := hown'.blkG (by simp)
  have sT : SL w6 (some ⟨g6, 0, none⟩) (V.length + 1) cap' T := by rw [hTd.out]; simpa using hown'.sl
  have hlT : V.length + 1 = 2 * r + 1 := by rw [hVl.out]
  have HlT := hide hlT
  clear f0z f1z f2z t4 t6 hgr hloc hown' s4 kY hlT
  refine (dataOfPairs_any p _ _ _ _ r T _ sT HlT.out lr1 (by omega) hp hp2 HJ.out.1).mono ?_
  rintro e w7 ⟨a7, c7, b7, d7, rfl, o7, t7⟩
  replace y0 := (t7.frozen (World.block_lt_of_cell? _ _ r0)).trans y0
  replace y1 := (t7.frozen (World.block_lt_of_cell? _ _ r1)).trans y1
  replace y2 := (t7.frozen (World.block_lt_of_cell? _ _ r2)).trans y2
  replace f0 := cell_be t7 f0
  replace f1 := cell_be t7 f1
  replace f2 := cell_be t7 f2
  replace r0 := cell_be t7 r0
  replace r1 := cell_be t7 r1
  replace r2 := cell_be t7 r2
  have hB7 := bnext hB6 t7
  have z7 := t7.size
  go_wp2_with fail
  refine (affine_ok p _ r _ (tab r (dpA p T)) _ _ (tab r (dpB p T)) 1 x _ o7.sl1 o7.sl2 HJ.out.2.1 (by omega) (by omega) x0 (by omega)).mono ?_
  rintro e w9 ⟨a9, c9, b9, d9, rfl, o9, t9⟩
  replace y0 := (t9.frozen (World.block_lt_of_cell? _ _ r0)).trans y0
  replace y1 := (t9.frozen (World.block_lt_of_cell? _ _ r1)).trans y1
  replace y2 := (t9.frozen (World.block_lt_of_cell? _ _ r2)).trans y2
  replace f0 := cell_be t9 f0
  replace f1 := cell_be t9 f1
  replace f2 := cell_be t9 f2
  replace r0 := cell_be t9 r0
  replace r1 := cell_be t9 r1
  replace r2 := cell_be t9 r2
  have hB9 := bnext hB7 t9
  rw [HJ.out.2.2.1, HJ.out.2.2.2] at o9
  clear f0 f1 f2 t7 t9
  go_wp2
  refine bodyPost_ret (v := .tuple #[jac p a9 r c9 b9 r d9, .int .i64 0]) (by simp [results, Try.results29, go_sem, r0, r1, r2]) rfl ?_
  have o9z := (((o9.setLow (x := ⟨w.heap.size + 1, 0, none⟩) (by simp; omega) (.int .i64 p)).setLow (x := ⟨w.heap.size + 1, 1, none⟩) (by simp; omega) (.slice a9 r c9)).setLow (x := ⟨w.heap.size + 1, 2, none⟩) (by simp; omega) (.slice b9 r d9))
  exact ResJ.mk HQ.out HC.out (by rw [HV.out, tab_len]) (by rw [HU.out, tab_len]) (by rw [HV.out, HU.out]; simpa using o9z.mono (lo' := w.heap.size) (by first | omega | (simp; omega)) (Nat.le_refl _)) (by rw [HV.out, tab_len]; omega) (by rw [HU.out, tab_len]; omega) (((hB9.setCell (by simp) _).setCell (by simp) _).setCell (by simp) _)
end Go.Proofs.Ytllcgoachgfpjaa
