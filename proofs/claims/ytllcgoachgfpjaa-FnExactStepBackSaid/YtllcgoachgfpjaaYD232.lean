/- Merged texts. -/
import Derived.Test.YtllcgoachgfpjaaYD230
import Derived.Test.YtllcgoachgfpjaaYD225
/- Contract: StepBack (model). -/
namespace Go.Proofs.Ytllcgoachgfpjaa
open Go.RowKit
set_option linter.unusedVariables false
set_option linter.unusedSimpArgs false

set_option maxRecDepth 100000 in
set_option maxHeartbeats 6400000 in
theorem specStepBack (p : Int) (a : Option Addr) (n c : Nat) (xs : List Int) (b : Option Addr) (m d : Nat) (ys : List Int) (x q : Int) (w : World) (hs : SL w a n c xs) (ht : SL w b m d ys) (hn : n ≤ 4000000) (hm : m ≤ 4000000) :
    Calls Try.prog 33 #[jac p a n c b m d, .int .i64 x, .int .i64 q] w (ResJ w (sbkP p xs ys x q) (sbkV p xs ys x q) (sbkU p xs ys x q) (sbkC p xs ys x q)) := by
  have hl := hide hs.len
  have hl2 := hide ht.len
  have hb0 := bl2 w (.cells #[.int .i64 p, .slice a n c, .slice b m d] 38) (.cells #[.int .i64 0, .slice none 0 0, .slice none 0 0] 38)
  have g1 := hs.below hb0
  have g2 := ht.below hb0
  have hbL := bl1 ((w.alloc (.cells #[.int .i64 p, .slice a n c, .slice b m d] 38)).alloc (.cells #[.int .i64 0, .slice none 0 0, .slice none 0 0] 38)) (.cells #[.int .i64 x] 2)
  have k1 := g1.below hbL
  have k2 := g2.below hbL
  have hb02 := bnext hb0 hbL
  have gx : SL (((w.alloc (.cells #[.int .i64 p, .slice a n c, .slice b m d] 38)).alloc (.cells #[.int .i64 0, .slice none 0 0, .slice none 0 0] 38)).alloc (.cells #[.int .i64 x] 2)) (some ⟨w.heap.size + 1 + 1, 0, none⟩) 1 1 [x] := by simpa using litSL ((w.alloc (.cells #[.int .i64 p, .slice a n c, .slice b m d] 38)).alloc (.cells #[.int .i64 0, .slice none 0 0, .slice none 0 0] 38)) x
  cases hj : jacB p xs ys
  · have HC := hide (show sbkC p xs ys x q = 1 by simp [sbkC, hj])
    have HE := hide (sbk_err HC.out (by decide))
    have HR := hide (show jcd p xs ys x 0 (p - 1) = 1 by simp [jcd, hj])
    clear hj
    go_enter Try.func33, Try.ntmps33
    go_wp2_with fail
    refine (l08Code_one _ _ _ _ _ _ _ _ _ _ _ 1 _ _ k1 k2 gx hn hm HR.out).mono ?_
    rintro e w2 ⟨rfl, hb1⟩
    have f0 : w2.cell? ⟨w.heap.size, 0, none⟩ = some (.int .i64 p) := cell_be hb1 (by simp [go_sem])
    have f1 : w2.cell? ⟨w.heap.size, 1, none⟩ = some (.slice a n c) := cell_be hb1 (by simp [go_sem])
    have f2 : w2.cell? ⟨w.heap.size, 2, none⟩ = some (.slice b m d) := cell_be hb1 (by simp [go_sem])
    have r0 : w2.cell? ⟨w.heap.size + 1, 0, none⟩ = some (.int .i64 0) := cell_be hb1 (by simp [go_sem])
    have r1 : w2.cell? ⟨w.heap.size + 1, 1, none⟩ = some (.slice none 0 0) := cell_be hb1 (by simp [go_sem])
    have r2 : w2.cell? ⟨w.heap.size + 1, 2, none⟩ = some (.slice none 0 0) := cell_be hb1 (by simp [go_sem])
    have y0 : w2.frozen? ⟨w.heap.size + 1, 0, none⟩ = false := (hb1.frozen (by simp)).trans (by simp [go_sem])
    have y1 : w2.frozen? ⟨w.heap.size + 1, 1, none⟩ = false := (hb1.frozen (by simp)).trans (by simp [go_sem])
    have y2 : w2.frozen? ⟨w.heap.size + 1, 2, none⟩ = false := (hb1.frozen (by simp)).trans (by simp [go_sem])
    have hB2 := bnext hb02 hb1
    go_wp2
    refine bodyPost_ret (v := .tuple #[jac 0 none 0 0 none 0 0, .int .i64 1]) (by simp [results, Try.results33, go_sem, r0, r1, r2]) rfl ?_
    exact ResJ.nil HE.out.1 HE.out.2.1 HE.out.2.2 HC.out (((hB2.setCell (by simp) _).setCell (by simp) _).setCell (by simp) _)
  obtain ⟨hpr, n1, n2, n3, hx, hy⟩ := jacB_rng hj
  obtain ⟨hp, hp2⟩ := primeB_lo hpr
  rw [hl.out] at n1 n2 n3
  rw [hl2.out] at n3
  subst n3
  by_cases hr : 0 ≤ x ∧ x ≤ p - 1
  rotate_left
  · have HC := hide (show sbkC p xs ys x q = 2 by simp only [sbkC, hj, if_true]; rw [if_neg (fun h => hr h.1)])
    have HE := hide (sbk_err HC.out (by decide))
    have HR := hide (show jcd p xs ys x 0 (p - 1) = 2 by simp only [jcd, hj, if_true]; rw [if_neg hr])
    clear hj hr hx hy
    go_enter Try.func33, Try.ntmps33
    go_wp2_with fail
    refine (l08Code_one _ _ _ _ _ _ _ _ _ _ _ 2 _ _ k1 k2 gx hn hm HR.out).mono ?_
    rintro e w2 ⟨rfl, hb1⟩
    have f0 : w2.cell? ⟨w.heap.size, 0, none⟩ = some (.int .i64 p) := cell_be hb1 (by simp [go_sem])
    have f1 : w2.cell? ⟨w.heap.size, 1, none⟩ = some (.slice a m c) := cell_be hb1 (by simp [go_sem])
    have f2 : w2.cell? ⟨w.heap.size, 2, none⟩ = some (.slice b m d) := cell_be hb1 (by simp [go_sem])
    have r0 : w2.cell? ⟨w.heap.size + 1, 0, none⟩ = some (.int .i64 0) := cell_be hb1 (by simp [go_sem])
    have r1 : w2.cell? ⟨w.heap.size + 1, 1, none⟩ = some (.slice none 0 0) := cell_be hb1 (by simp [go_sem])
    have r2 : w2.cell? ⟨w.heap.size + 1, 2, none⟩ = some (.slice none 0 0) := cell_be hb1 (by simp [go_sem])
    have y0 : w2.frozen? ⟨w.heap.size + 1, 0, none⟩ = false := (hb1.frozen (by simp)).trans (by simp [go_sem])
    have y1 : w2.frozen? ⟨w.heap.size + 1, 1, none⟩ = false := (hb1.frozen (by simp)).trans (by simp [go_sem])
    have y2 : w2.frozen? ⟨w.heap.size + 1, 2, none⟩ = false := (hb1.frozen (by simp)).trans (by simp [go_sem])
    have hB2 := bnext hb02 hb1
    go_wp2
    refine bodyPost_ret (v := .tuple #[jac 0 none 0 0 none 0 0, .int .i64 2]) (by simp [results, Try.results33, go_sem, r0, r1, r2]) rfl ?_
    exact ResJ.nil HE.out.1 HE.out.2.1 HE.out.2.2 HC.out (((hB2.setCell (by simp) _).setCell (by simp) _).setCell (by simp) _)
  have HR := hide (show jcd p xs ys x 0 (p - 1) = 0 by simp only [jcd, hj, if_true]; rw [if_pos hr])
  by_cases hq : 1 ≤ q ∧ q ≤ p - 1
  rotate_left
  · have HC := hide (show sbkC p xs ys x q = 2 by simp only [sbkC, hj, if_true]; rw [if_neg (fun h => hq h.2)])
    have HE := hide (sbk_err HC.out (by decide))
    have HR2 := hide (show jcd p xs ys q 1 (p - 1) = 2 by simp only [jcd, hj, if_true]; rw [if_neg hq])
    clear hj hr hx hy hq
    go_enter Try.func33, Try.ntmps33
    go_wp2_with fail
    refine (l08Code_one _ _ _ _ _ _ _ _ _ _ _ 0 _ _ k1 k2 gx hn hm HR.out).mono ?_
    rintro e w1 ⟨rfl, hb1⟩
    have f0 : w1.cell? ⟨w.heap.size, 0, none⟩ = some (.int .i64 p) := cell_be hb1 (by simp [go_sem])
    have f1 : w1.cell? ⟨w.heap.size, 1, none⟩ = some (.slice a m c) := cell_be hb1 (by simp [go_sem])
    have f2 : w1.cell? ⟨w.heap.size, 2, none⟩ = some (.slice b m d) := cell_be hb1 (by simp [go_sem])
    have r0 : w1.cell? ⟨w.heap.size + 1, 0, none⟩ = some (.int .i64 0) := cell_be hb1 (by simp [go_sem])
    have r1 : w1.cell? ⟨w.heap.size + 1, 1, none⟩ = some (.slice none 0 0) := cell_be hb1 (by simp [go_sem])
    have r2 : w1.cell? ⟨w.heap.size + 1, 2, none⟩ = some (.slice none 0 0) := cell_be hb1 (by simp [go_sem])
    have y0 : w1.frozen? ⟨w.heap.size + 1, 0, none⟩ = false := (hb1.frozen (by simp)).trans (by simp [go_sem])
    have y1 : w1.frozen? ⟨w.heap.size + 1, 1, none⟩ = false := (hb1.frozen (by simp)).trans (by simp [go_sem])
    have y2 : w1.frozen? ⟨w.heap.size + 1, 2, none⟩ = false := (hb1.frozen (by simp)).trans (by simp [go_sem])
    have hB1 := bnext hb02 hb1
    have t1 := bl1 w1 (.cells #[.int .i64 q] 2)
    go_wp2_with fail
    refine (l08Code_one _ _ _ _ _ _ _ _ _ _ _ 2 _ _ ((k1.below hb1).below t1) ((k2.below hb1).below t1) (litSL w1 q) hn hm HR2.out).mono ?_
    rintro e w2 ⟨rfl, hb2⟩
    replace y0 := (t1.frozen (World.block_lt_of_cell? _ _ r0)).trans y0
    replace y1 := (t1.frozen (World.block_lt_of_cell? _ _ r1)).trans y1
    replace y2 := (t1.frozen (World.block_lt_of_cell? _ _ r2)).trans y2
    replace f0 := cell_be t1 f0
    replace f1 := cell_be t1 f1
    replace f2 := cell_be t1 f2
    replace r0 := cell_be t1 r0
    replace r1 := cell_be t1 r1
    replace r2 := cell_be t1 r2
    replace y0 := (hb2.frozen (World.block_lt_of_cell? _ _ r0)).trans y0
    replace y1 := (hb2.frozen (World.block_lt_of_cell? _ _ r1)).trans y1
    replace y2 := (hb2.frozen (World.block_lt_of_cell? _ _ r2)).trans y2
    replace f0 := cell_be hb2 f0
    replace f1 := cell_be hb2 f1
    replace f2 := cell_be hb2 f2
    replace r0 := cell_be hb2 r0
    replace r1 := cell_be hb2 r1
    replace r2 := cell_be hb2 r2
    have hB2 := bnext (bnext hB1 t1) hb2
    go_wp2
    refine bodyPost_ret (v := .tuple #[jac 0 none 0 0 none 0 0, .int .i64 2]) (by simp [results, Try.results33, go_sem, r0, r1, r2]) rfl ?_
    exact ResJ.nil HE.out.1 HE.out.2.1 HE.out.2.2 HC.out (((hB2.setCell (by simp) _).setCell (by simp) _).setCell (by simp) _)
  have HR2 := hide (show jcd p xs ys q 1 (p - 1) = 0 by simp only [jcd, hj, if_true]; rw [if_pos hq])
  obtain ⟨x0, x1⟩ := hr
  obtain ⟨q0, q1⟩ := hq
  have HCC := hide (show sbkC p xs ys x q = if dqB p xs ys x q (m - 1) then 0 else 5 by simp only [sbkC, hj, if_true, hl.out]; rw [if_pos (by omega)])
  have HX := hide hx
  have HY := hide (posB_are hy)
  obtain ⟨aa, ao, rfl, haw, hca⟩ := hs.at (show 0 < m by omega)
  obtain ⟨bb, bo, rfl, hbw, hcb⟩ := ht.at (show 0 < m by omega)
  clear hj hx hy hpr
  go_enter Try.func33, Try.ntmps33
  go_wp2_with fail
  refine (l08Code_one _ _ _ _ _ _ _ _ _ _ _ 0 _ _ k1 k2 gx hn hm HR.out).mono ?_
  rintro e w1 ⟨rfl, hb1⟩
  have f0 : w1.cell? ⟨w.heap.size, 0, none⟩ = some (.int .i64 p) := cell_be hb1 (by simp [go_sem])
  have f1 : w1.cell? ⟨w.heap.size, 1, none⟩ = some (.slice (some ⟨aa, ao, none⟩) m c) := cell_be hb1 (by simp [go_sem])
  have f2 : w1.cell? ⟨w.heap.size, 2, none⟩ = some (.slice (some ⟨bb, bo, none⟩) m d) := cell_be hb1 (by simp [go_sem])
  have r0 : w1.cell? ⟨w.heap.size + 1, 0, none⟩ = some (.int .i64 0) := cell_be hb1 (by simp [go_sem])
  have r1 : w1.cell? ⟨w.heap.size + 1, 1, none⟩ = some (.slice none 0 0) := cell_be hb1 (by simp [go_sem])
  have r2 : w1.cell? ⟨w.heap.size + 1, 2, none⟩ = some (.slice none 0 0) := cell_be hb1 (by simp [go_sem])
  have y0 : w1.frozen? ⟨w.heap.size + 1, 0, none⟩ = false := (hb1.frozen (by simp)).trans (by simp [go_sem])
  have y1 : w1.frozen? ⟨w.heap.size + 1, 1, none⟩ = false := (hb1.frozen (by simp)).trans (by simp [go_sem])
  have y2 : w1.frozen? ⟨w.heap.size + 1, 2, none⟩ = false := (hb1.frozen (by simp)).trans (by simp [go_sem])
  have hB1 := bnext hb02 hb1
  have z1 := hb1.size
  simp at z1
  have t1 := bl1 w1 (.cells #[.int .i64 q] 2)
  go_wp2_with fail
  refine (l08Code_one _ _ _ _ _ _ _ _ _ _ _ 0 _ _ ((k1.below hb1).below t1) ((k2.below hb1).below t1) (litSL w1 q) hn hm HR2.out).mono ?_
  rintro e w2' ⟨rfl, hb2⟩
  replace y0 := (t1.frozen (World.block_lt_of_cell? _ _ r0)).trans y0
  replace y1 := (t1.frozen (World.block_lt_of_cell? _ _ r1)).trans y1
  replace y2 := (t1.frozen (World.block_lt_of_cell? _ _ r2)).trans y2
  replace f0 := cell_be t1 f0
  replace f1 := cell_be t1 f1
  replace f2 := cell_be t1 f2
  replace r0 := cell_be t1 r0
  replace r1 := cell_be t1 r1
  replace r2 := cell_be t1 r2
  replace y0 := (hb2.frozen (World.block_lt_of_cell? _ _ r0)).trans y0
  replace y1 := (hb2.frozen (World.block_lt_of_cell? _ _ r1)).trans y1
  replace y2 := (hb2.frozen (World.block_lt_of_cell? _ _ r2)).trans y2
  replace f0 := cell_be hb2 f0
  replace f1 := cell_be hb2 f1
  replace f2 := cell_be hb2 f2
  replace r0 := cell_be hb2 r0
  replace r1 := cell_be hb2 r1
  replace r2 := cell_be hb2 r2
  have hB2' := bnext (bnext hB1 t1) hb2
  have z2' := (bnext t1 hb2).size
  go_upto_region 6 with fail
  go_quiet (fail)
  obtain ⟨w2, hw2⟩ : ∃ w2, w2 = w2'.drewN nq := ⟨_, rfl⟩
  rw [← hw2]
  have t2 : Below w2'.heap.size w2' w2 := by rw [hw2]; exact below_drewN (Below.refl _ _) _
  clear hw2
  replace y0 := (t2.frozen (World.block_lt_of_cell? _ _ r0)).trans y0
  replace y1 := (t2.frozen (World.block_lt_of_cell? _ _ r1)).trans y1
  replace y2 := (t2.frozen (World.block_lt_of_cell? _ _ r2)).trans y2
  replace f0 := cell_be t2 f0
  replace f1 := cell_be t2 f1
  replace f2 := cell_be t2 f2
  replace r0 := cell_be t2 r0
  replace r1 := cell_be t2 r1
  replace r2 := cell_be t2 r2
  have hB2 := bnext hB2' t2
  have z2 : w.heap.size + 1 + 1 ≤ w2.heap.size := by have := t2.size; omega
  have HcA := hide (fun j (hj : j < m) => cell_be hB2 (hca j hj))
  have HcB := hide (fun j (hj : j < m) => cell_be hB2 (hcb j hj))
  have e0 : w2.cell? ⟨bb, bo, none⟩ = some (.int .i64 (ys.getD 0 0)) := HcB.out 0 (by omega)
  have rY := getD_rng HY.out hp 0
  have hB0d := hide (show tab 1 (sbB p xs ys x q) = [ys.getD 0 0 * invM p q % p] from rfl)
  obtain ⟨y, hyy⟩ : ∃ y, ys.getD 0 0 = y := ⟨_, rfl⟩
  rw [hyy] at rY hB0d e0
  have rI := invM_rng q hp
  obtain ⟨I, hI⟩ : ∃ I, invM p q = I := ⟨_, rfl⟩
  have HI := hide hI
  rw [hI] at rI hB0d
  obtain ⟨m1, m2⟩ := mulb rY.1 rY.2 rI.1 rI.2 hp2
  have v1 : IntKind.i64.wrap (y * I) = y * I := IntWalk.i64_in _ (by omega)
  have v2 : (y * I).tmod p = y * I % p := Int.tmod_eq_emod_of_nonneg m1
  have rN := modb (x := y * I) hp
  obtain ⟨N, hN⟩ : ∃ N, y * I % p = N := ⟨_, rfl⟩
  rw [hN] at v2 rN hB0d
  have v3 : IntKind.i64.wrap N = N := IntWalk.i64_in _ (by omega)
  have hp0 : ¬ p = 0 := by omega
  have i0 : (0 : Int) < (m : Int) := by omega
  have i1 : 0 < m := by omega
  have hF2 : ∀ v, Below w2.heap.size w2 v → Below w2.heap.size w2 v ∧ v.cell? ⟨w.heap.size, 2, none⟩ = some (.slice (some ⟨bb, bo, none⟩) m d) ∧ v.cell? ⟨bb, bo, none⟩ = some (.int .i64 y) := fun v h => ⟨h, cell_be h f2, cell_be h e0⟩
  clear hyy hI hN hca hcb hb1 hb2 t1 t2
  go_upto_region 7 with fail
  go_cut [11, 12] (fun sq tv wx => ∃ (qq ga gb : Nat), sq = .pointer (some ⟨qq, 0, none⟩) ∧ tv = .int .i64 0 ∧ Hid (JS w2.heap.size qq wx p (some ⟨ga, 0, none⟩) 0 [] (some ⟨gb, 0, none⟩) 1 [N]) ∧ Hid (Below w2.heap.size w2 wx))
  case first =>
    go_region_held3 (fun v => Below w2.heap.size w2 v ∧ v.cell? ⟨w.heap.size, 2, none⟩ = some (.slice (some ⟨bb, bo, none⟩) m d) ∧ v.cell? ⟨bb, bo, none⟩ = some (.int .i64 y))
      (first | exact hF2 _ (by assumption) | exact hF2 _ ((Below.refl _ _).drew) | exact hF2 _ ((bl1 _ _).drew) | exact hF2 _ ((bl2 _ _ _).drew) | exact hF2 _ ((bl3 _ _ _ _).drew) | exact hF2 _ (Below.drew (Below.setCell (Below.setCell (Below.setCell (bl3 _ _ _ _) (by first | omega | (simp; done) | (simp; omega)) _) (by first | omega | (simp; done) | (simp; omega)) _) (by first | omega | (simp; done) | (simp; omega)) _)))
      (first | (go_at_call 76; refine (l01Inverse_any p q _ hp hp2 (by omega) (by omega)).mono ?_; rintro e v' ⟨rfl, rfl⟩; rw [HI.out]))
    all_goals go_wp2_with fail
    all_goals go_meet
    all_goals first
      | exact ⟨w2.heap.size + 1 + 1, w2.heap.size, w2.heap.size + 1, rfl, rfl, hide ⟨(((own_lit0' _ _ (by first | rfl | simp) _ (by omega)).below (bl2 _ _ _)).below ((Below.refl _ _).drew)), (((own_lit1' _ _ _ (by first | rfl | simp) _ (by omega)).below (bl1 _ _)).below ((Below.refl _ _).drew)), ⟨(by first | (simp [blk]; done) | (simp [blk]; omega)), (by first | (simp [blk]; done) | (simp [blk]; omega)), fun g h1 h2 => by simp [blk] at h1 h2; omega⟩, ⟨(by first | (simp [go_sem]; done) | fail), (by first | (simp [go_sem]; done) | fail), (by first | (simp [go_sem]; done) | fail)⟩, ⟨(by first | (simp [go_sem]; done) | fail), (by first | (simp [go_sem]; done) | fail)⟩, by omega⟩, hide ((bl3 _ _ _ _).drew)⟩
      | exact ⟨w2.heap.size + 1, w2.heap.size, w2.heap.size + 1 + 1, rfl, rfl, hide ⟨(((own_lit0' _ _ (by first | rfl | simp) _ (by omega)).below (bl2 _ _ _)).below ((Below.refl _ _).drew)), ((own_lit1' _ _ _ (by first | rfl | simp) _ (by omega)).below ((Below.refl _ _).drew)), ⟨(by first | (simp [blk]; done) | (simp [blk]; omega)), (by first | (simp [blk]; done) | (simp [blk]; omega)), fun g h1 h2 => by simp [blk] at h1 h2; omega⟩, ⟨(by first | (simp [go_sem]; done) | fail), (by first | (simp [go_sem]; done) | fail), (by first | (simp [go_sem]; done) | fail)⟩, ⟨(by first | (simp [go_sem]; done) | fail), (by first | (simp [go_sem]; done) | fail)⟩, by omega⟩, hide ((bl3 _ _ _ _).drew)⟩
      | exact ⟨w2.heap.size + 1 + 1, w2.heap.size + 1, w2.heap.size, rfl, rfl, hide ⟨(((own_lit0' _ _ (by first | rfl | simp) _ (by omega)).below (bl1 _ _)).below ((Below.refl _ _).drew)), (((own_lit1' _ _ _ (by first | rfl | simp) _ (by omega)).below (bl2 _ _ _)).below ((Below.refl _ _).drew)), ⟨(by first | (simp [blk]; done) | (simp [blk]; omega)), (by first | (simp [blk]; done) | (simp [blk]; omega)), fun g h1 h2 => by simp [blk] at h1 h2; omega⟩, ⟨(by first | (simp [go_sem]; done) | fail), (by first | (simp [go_sem]; done) | fail), (by first | (simp [go_sem]; done) | fail)⟩, ⟨(by first | (simp [go_sem]; done) | fail), (by first | (simp [go_sem]; done) | fail)⟩, by omega⟩, hide ((bl3 _ _ _ _).drew)⟩
      | exact ⟨w2.heap.size + 1, w2.heap.size + 1 + 1, w2.heap.size, rfl, rfl, hide ⟨((own_lit0' _ _ (by first | rfl | simp) _ (by omega)).below ((Below.refl _ _).drew)), (((own_lit1' _ _ _ (by first | rfl | simp) _ (by omega)).below (bl2 _ _ _)).below ((Below.refl _ _).drew)), ⟨(by first | (simp [blk]; done) | (simp [blk]; omega)), (by first | (simp [blk]; done) | (simp [blk]; omega)), fun g h1 h2 => by simp [blk] at h1 h2; omega⟩, ⟨(by first | (simp [go_sem]; done) | fail), (by first | (simp [go_sem]; done) | fail), (by first | (simp [go_sem]; done) | fail)⟩, ⟨(by first | (simp [go_sem]; done) | fail), (by first | (simp [go_sem]; done) | fail)⟩, by omega⟩, hide ((bl3 _ _ _ _).drew)⟩
      | exact ⟨w2.heap.size, w2.heap.size + 1, w2.heap.size + 1 + 1, rfl, rfl, hide ⟨(((own_lit0' _ _ (by first | rfl | simp) _ (by omega)).below (bl1 _ _)).below ((Below.refl _ _).drew)), ((own_lit1' _ _ _ (by first | rfl | simp) _ (by omega)).below ((Below.refl _ _).drew)), ⟨(by first | (simp [blk]; done) | (simp [blk]; omega)), (by first | (simp [blk]; done) | (simp [blk]; omega)), fun g h1 h2 => by simp [blk] at h1 h2; omega⟩, ⟨(by first | (simp [go_sem]; done) | fail), (by first | (simp [go_sem]; done) | fail), (by first | (simp [go_sem]; done) | fail)⟩, ⟨(by first | (simp [go_sem]; done) | fail), (by first | (simp [go_sem]; done) | fail)⟩, by omega⟩, hide ((bl3 _ _ _ _).drew)⟩
      | exact ⟨w2.heap.size, w2.heap.size + 1 + 1, w2.heap.size + 1, rfl, rfl, hide ⟨((own_lit0' _ _ (by first | rfl | simp) _ (by omega)).below ((Below.refl _ _).drew)), (((own_lit1' _ _ _ (by first | rfl | simp) _ (by omega)).below (bl1 _ _)).below ((Below.refl _ _).drew)), ⟨(by first | (simp [blk]; done) | (simp [blk]; omega)), (by first | (simp [blk]; done) | (simp [blk]; omega)), fun g h1 h2 => by simp [blk] at h1 h2; omega⟩, ⟨(by first | (simp [go_sem]; done) | fail), (by first | (simp [go_sem]; done) | fail), (by first | (simp [go_sem]; done) | fail)⟩, ⟨(by first | (simp [go_sem]; done) | fail), (by first | (simp [go_sem]; done) | fail)⟩, by omega⟩, hide ((bl3 _ _ _ _).drew)⟩
  case rest =>
    obtain ⟨qq, ga, gb, rfl, rfl, hJ0, hWz⟩ := hcut
    obtain ⟨w5, hu⟩ : ∃ u, u = wc := ⟨wc, rfl⟩
    subst hu
    have ML := hide (fun k => dfL_rng hp xs ys x (show 0 ≤ q by omega) (show q < p by omega) k)
    have MD := hide (fun k => dfD_rng hp xs ys x q k)
    have ME := hide (fun k => show 0 ≤ sbE p xs ys x q k ∧ sbE p xs ys x q k < p from by
      unfold sbE
      by_cases e : k = 0
      · rw [if_pos e]; omega
      · rw [if_neg e]; exact dfD_rng hp xs ys x q _)
    have hJ1 : Hid (JS w2.heap.size qq w5 p (some ⟨ga, 0, none⟩) 0 (tab 0 (sbA p xs ys x q)) (some ⟨gb, 0, none⟩) 1 (tab (0 + 1) (sbB p xs ys x q))) := hide (by rw [hB0d.out]; exact hJ0.out)
    clear hF2 hJ0 hB0d e0 v1 v2 v3 m1 m2
    go_wp2_with fail
    go_loopw [2, 12, 13] (fun qv ev kv wr => ∃ (k ca cb : Nat) (a' b' : Option Addr), k < m ∧ qv = .int .i64 (dfL p xs ys x q k) ∧ ev = .int .i64 (sbE p xs ys x q k) ∧ kv = .int .i64 k ∧
      Hid (JS w2.heap.size qq wr p a' ca (tab k (sbA p xs ys x q)) b' cb (tab (k + 1) (sbB p xs ys x q))) ∧ Hid (Below w2.heap.size w2 wr) ∧ Hid (∀ j, j < k → dfD p xs ys x q j ≠ 0)) (fun _ _ kv _ => m - (intOf kv).toNat)
    case atStart => exact ⟨0, 0, 1, _, _, i1, rfl, rfl, rfl, hJ1, hWz, hide (fun j hj => by omega)⟩
    case round =>
      obtain ⟨k, ca, cb, a', b', hk, rfl, rfl, rfl, hJ, hW, hD⟩ := hrel
      clear hJ1 hWz
      have hlt : (k : Int) < (m : Int) := by omega
      have rL := ML.out k
      have rE := ME.out k
      have rD := MD.out k
      have hstA := hide (show tab (k + 1) (sbA p xs ys x q) = tab k (sbA p xs ys x q) ++ [(dfL p xs ys x q k + sbE p xs ys x q k + x) % p] from (tab_snoc k (sbA p xs ys x q)).symm)
      have hstB := hide (show tab (k + 1 + 1) (sbB p xs ys x q) = tab (k + 1) (sbB p xs ys x q) ++ [dfL p xs ys x q k * dfD p xs ys x q k % p] by rw [← tab_snoc]; rfl)
      have hEn := hide (show sbE p xs ys x q (k + 1) = dfD p xs ys x q k from rfl)
      have hLn := hide (show dfL p xs ys x q (k + 1) = ys.getD (k + 1) 0 * invM p (dfD p xs ys x q k) % p from rfl)
      have hDd := hide (show (xs.getD k 0 - x - dfL p xs ys x q k) % p = dfD p xs ys x q k from rfl)
      obtain ⟨L, hL⟩ : ∃ L, dfL p xs ys x q k = L := ⟨_, rfl⟩
      obtain ⟨E, hE⟩ : ∃ E, sbE p xs ys x q k = E := ⟨_, rfl⟩
      obtain ⟨D, hDD⟩ : ∃ D, dfD p xs ys x q k = D := ⟨_, rfl⟩
      have HDD := hide hDD
      rw [hL] at rL hstA hstB hDd ⊢
      rw [hE] at rE hstA ⊢
      rw [hDD] at rD hstB hEn hLn hDd
      have v1 : IntKind.i64.wrap (L + E) = L + E := IntWalk.i64_in _ (by omega)
      have v2 : IntKind.i64.wrap (L + E + x) = L + E + x := IntWalk.i64_in _ (by omega)
      have v3 : (L + E + x).tmod p = (L + E + x) % p := Int.tmod_eq_emod_of_nonneg (by omega)
      have rA := modb (x := L + E + x) hp
      obtain ⟨Z1, hZ1⟩ : ∃ Z1, (L + E + x) % p = Z1 := ⟨_, rfl⟩
      rw [hZ1] at v3 rA hstA
      have v4 : IntKind.i64.wrap Z1 = Z1 := IntWalk.i64_in _ (by omega)
      obtain ⟨zs, hzs⟩ : ∃ zs, tab k (sbA p xs ys x q) = zs := ⟨_, rfl⟩
      have hzl := hide (show zs.length = k by rw [← hzs, tab_len])
      rw [hzs] at hJ hstA
      have hzk : zs.length ≤ 12 := by have := hzl.out; omega
      obtain ⟨vs, hvs⟩ : ∃ vs, tab (k + 1) (sbB p xs ys x q) = vs := ⟨_, rfl⟩
      have hvl := hide (show vs.length = k + 1 by rw [← hvs, tab_len])
      rw [hvs] at hJ hstB
      have hvk : vs.length ≤ 13 := by have := hvl.out; omega
      have Hvs := hide hvs
      clear hL hE hDD hZ1 hzs hvs
      have J0 := hJ.out
      have hbd := (Below.refl wr.heap.size wr).drew
      have hba : Below wr.heap.size wr ((wr.alloc (.cells #[.int .i64 Z1] 2)).drew) := (bl1 wr _).drew
      have JA := J0.below hba
      have hOa := hide JA.oA
      have hcl : ((wr.alloc (.cells #[.int .i64 Z1] 2)).drew).cell? ⟨wr.heap.size, 0, none⟩ = some (.int .i64 Z1) := by simp [go_sem]
      have hsz := hW.out.size
      have hqw := J0.hi
      have hlo := J0.lo
      go_upto_region 11 with fail
      refine region_E (fun v => v.cell? ⟨qq, 1, none⟩ = some (.slice a' zs.length ca)) 12 (by kernel_rfl) (cell_be hbd J0.c1) ?_
      intro hS
      refine anyE_takeL 0 rfl (by kernel_rfl) (fun _ _ _ h => h) hS (by rfl) (v := ?_) ?_ ?_
      rotate_left
      · intro w' hSw; (try dsimp only at hSw); go_simp; (try with_reducible rfl)
      try simp only [Act.put, List.setIfInBounds_toArray, List.set_cons_zero, List.set_cons_succ]
      refine anyE_takeL 1 rfl (by kernel_rfl) (fun _ _ _ h => h) hS (by rfl) (v := ?_) ?_ ?_
      rotate_left
      · intro w' hSw; (try dsimp only at hSw); go_simp; (try with_reducible rfl)
      try simp only [Act.put, List.setIfInBounds_toArray, List.set_cons_zero, List.set_cons_succ]
      refine anyE_takeL 2 rfl (by kernel_rfl) (fun _ _ _ h => h) hS (by rfl) (v := ?_) ?_ ?_
      rotate_left
      · intro w' hSw; (try dsimp only at hSw); go_simp; (try with_reducible rfl)
      try simp only [Act.put, List.setIfInBounds_toArray, List.set_cons_zero, List.set_cons_succ]
      refine anyE_takeL 3 rfl (by kernel_rfl) (fun _ _ _ h => h) hS (by rfl) (v := ?_) ?_ ?_
      rotate_left
      · intro w' hSw; (try dsimp only at hSw); go_simp; (try with_reducible rfl)
      try simp only [Act.put, List.setIfInBounds_toArray, List.set_cons_zero, List.set_cons_succ]
      refine anyE_takeL 4 rfl (by kernel_rfl) (fun _ _ _ h => h) hS (by rfl) (v := ?_) ?_ ?_
      rotate_left
      · intro w' hSw; (try dsimp only at hSw); go_simp; (try with_reducible rfl)
      try simp only [Act.put, List.setIfInBounds_toArray, List.set_cons_zero, List.set_cons_succ]
      refine anyE_takeL 5 rfl (by kernel_rfl) (fun _ _ _ h => h) hS (by rfl) (v := ?_) ?_ ?_
      rotate_left
      · intro w' hSw; (try dsimp only at hSw); go_simp; (try with_reducible rfl)
      try simp only [Act.put, List.setIfInBounds_toArray, List.set_cons_zero, List.set_cons_succ]
      refine anyE_takeL 6 rfl (by kernel_rfl) (fun _ _ _ h => h) hS (by rfl) (v := ?_) ?_ ?_
      rotate_left
      · intro w' hSw; (try dsimp only at hSw); go_simp; (try with_reducible rfl)
      try simp only [Act.put, List.setIfInBounds_toArray, List.set_cons_zero, List.set_cons_succ]
      refine anyE_takeL 7 rfl (by kernel_rfl) (fun _ _ _ h => h) hS (by rfl) (v := ?_) ?_ ?_
      rotate_left
      · intro w' hSw; (try dsimp only at hSw); go_simp; (try with_reducible rfl)
      try simp only [Act.put, List.setIfInBounds_toArray, List.set_cons_zero, List.set_cons_succ]
      refine anyE_takeL 8 rfl (by kernel_rfl) (fun _ _ _ h => h) hS (by rfl) (v := ?_) ?_ ?_
      rotate_left
      · intro w' hSw; (try dsimp only at hSw); go_simp; (try with_reducible rfl)
      try simp only [Act.put, List.setIfInBounds_toArray, List.set_cons_zero, List.set_cons_succ]
      clear hS
      refine anyE_oneL 9 (by kernel_rfl) rfl (fun K hK => ?_)
      go_simp
      have S1 := JA.c1
      refine hK.out _ _ S1 ?_
      clear hK K
      try simp only [Act.put, List.setIfInBounds_toArray, List.set_cons_zero, List.set_cons_succ]
      refine anyE_oneL 10 (by kernel_rfl) rfl (fun K hK => ?_)
      refine step_app1 (by rfl) _ _ (by rfl) w2.heap.size _ _ _ zs (by rfl) rfl hOa.out _ _ Z1 (by rfl) hcl (by omega) (by first | omega | (simp; omega)) ?_
      intro ad' cap' v' hown' hgr hloc
      have hge := own_blk_ge hOa.out
      have s1' := cell_ne hgr JA.c1 JA.2.2.1.1
      have sf' := frz_ne hgr JA.c1 JA.z1 JA.2.2.1.1
      have S2 := s1'
      refine hK.out _ _ S2 ?_
      clear hK K
      try simp only [Act.put, List.setIfInBounds_toArray, List.set_cons_zero, List.set_cons_succ]
      refine anyE_takeL 11 rfl (by kernel_rfl) (fun _ _ _ h => h) S2 (by rfl) (v := ?_) ?_ ?_
      rotate_left
      · intro w' hSw; (try dsimp only at hSw); go_simp; (try with_reducible rfl)
      try simp only [Act.put, List.setIfInBounds_toArray, List.set_cons_zero, List.set_cons_succ]
      clear S1 S2
      refine anyE_lastL (by kernel_rfl) rfl (by kernel_rfl) (fun K hK => ?_)
      go_simp
      refine hK.out _ _ ?_
      clear hK K
      try simp only [Act.put, List.setIfInBounds_toArray, List.set_cons_zero, List.set_cons_succ]
      have J6 := hide (J0.pushA hown' hgr hloc)
      have W6 := hide (below_push hW.out (by omega) hgr (own_blk_ge hOa.out) J0.lo (k := 1) (.slice ad' (zs.length + 1) cap'))
      obtain ⟨w6, hw6⟩ : ∃ w6, w6 = v'.setCell ⟨qq, 1, none⟩ (.slice ad' (zs.length + 1) cap') := ⟨_, rfl⟩
      rw [← hw6] at J6 W6 ⊢
      clear hw6 hgr hown' hloc hOa hba hcl hbd J0 JA s1' sf' hge hsz hqw hlo
      have J7 : Hid (JS w2.heap.size qq w6 p ad' cap' (tab (k + 1) (sbA p xs ys x q)) b' cb vs) := hide (by rw [hstA.out]; exact J6.out)
      have vk : IntKind.i64.wrap ((k : Int) + 1) = (k : Int) + 1 := IntWalk.i64_in _ (by omega)
      by_cases hkm : k + 1 = m
      · have ob : ((k : Int) + 1 == (m : Int)) = true := by simp; omega
        have HC := hide (show sbkC p xs ys x q = 0 by rw [HCC.out, dqB_t (fun j hj => hD.out j (by omega))]; rfl)
        have HV := hide (show sbkV p xs ys x q = tab (k + 1) (sbA p xs ys x q) by rw [sbkV, if_pos HC.out, hl.out, hkm])
        have HU := hide (show sbkU p xs ys x q = vs by rw [sbkU, if_pos HC.out, hl.out, ← hkm]; exact Hvs.out)
        have HQ := hide (show sbkP p xs ys x q = p by rw [sbkP, if_pos HC.out])
        obtain ⟨us, hus⟩ : ∃ us, tab (k + 1) (sbA p xs ys x q) = us := ⟨_, rfl⟩
        have hul := hide (show us.length = k + 1 by rw [← hus, tab_len])
        rw [hus] at J7 HV
        clear hus hkm
        have c0 := J7.out.c0
        have c1 := J7.out.c1
        have c2 := J7.out.c2
        have r0' := cell_be W6.out r0
        have r1' := cell_be W6.out r1
        have r2' := cell_be W6.out r2
        have y0' := (W6.out.frozen (p := ⟨w.heap.size + 1, 0, none⟩) (by simp; omega)).trans y0
        have y1' := (W6.out.frozen (p := ⟨w.heap.size + 1, 1, none⟩) (by simp; omega)).trans y1
        have y2' := (W6.out.frozen (p := ⟨w.heap.size + 1, 2, none⟩) (by simp; omega)).trans y2
        have hBw := hB2.trans (W6.out.mono (by omega))
        have jz := J7.out.jz (by rw [hul.out]; omega)
        clear r0 r1 r2 y0 y1 y2 f0 f1 f2
        go_wp2
        refine bodyPost_ret (v := .tuple #[jac p ad' us.length cap' b' vs.length cb, .int .i64 0]) (by simp [results, Try.results33, go_sem, r0', r1', r2']) rfl ?_
        have jz2 := ((jz.setLow (x := ⟨w.heap.size + 1, 0, none⟩) (by simp; omega) (.int .i64 p)).setLow (x := ⟨w.heap.size + 1, 1, none⟩) (by simp; omega) (.slice ad' us.length cap')).setLow (x := ⟨w.heap.size + 1, 2, none⟩) (by simp; omega) (.slice b' vs.length cb)
        exact ResJ.mk HQ.out HC.out (by rw [HV.out]) (by rw [HU.out]) (by rw [HV.out, HU.out]; simpa using jz2.mono (lo' := w.heap.size) (by omega) (Nat.le_refl _)) (by rw [HV.out, hul.out]; omega) (by rw [HU.out, hvl.out]; omega) (((hBw.setCell (by simp) _).setCell (by simp) _).setCell (by simp) _)
      have hkm' : k + 1 < m := by omega
      have ob : ((k : Int) + 1 == (m : Int)) = false := by simp; omega
      have e1 := cell_be W6.out (HcA.out k hk)
      have e2 := cell_be W6.out (HcB.out (k + 1) hkm')
      have rx := getD_rng HX.out hp k
      have ry := getD_rng HY.out hp (k + 1)
      obtain ⟨u, hu⟩ : ∃ u, xs.getD k 0 = u := ⟨_, rfl⟩
      obtain ⟨y', hy'⟩ : ∃ y', ys.getD (k + 1) 0 = y' := ⟨_, rfl⟩
      rw [hu] at e1 rx hDd
      rw [hy'] at e2 ry hLn
      have k0 : (0 : Int) ≤ (k : Int) := by omega
      have v5 : IntKind.i64.wrap (u - x) = u - x := IntWalk.i64_in _ (by omega)
      have v6 : IntKind.i64.wrap (u - x - L) = u - x - L := IntWalk.i64_in _ (by omega)
      have f1' := cell_be W6.out f1
      have Hy' := hide hy'
      clear hu hy' hkm
      by_cases hz : D = 0
      · have HC := hide (show sbkC p xs ys x q = 5 by rw [HCC.out, dqB_f k (by omega) (by rw [HDD.out]; exact hz)]; rfl)
        have HE := hide (sbk_err HC.out (by decide))
        have ob2 : (D == 0) = true := by simp [hz]
        have r0' := cell_be W6.out r0
        have r1' := cell_be W6.out r1
        have r2' := cell_be W6.out r2
        have y0' := (W6.out.frozen (p := ⟨w.heap.size + 1, 0, none⟩) (by simp; omega)).trans y0
        have y1' := (W6.out.frozen (p := ⟨w.heap.size + 1, 1, none⟩) (by simp; omega)).trans y1
        have y2' := (W6.out.frozen (p := ⟨w.heap.size + 1, 2, none⟩) (by simp; omega)).trans y2
        have hBw := hB2.trans (W6.out.mono (by omega))
        clear hz r0 r1 r2 y0 y1 y2
        go_wp2_with (go_at_call 60; refine (l01Mod_any p (u - x - L) _ hp hp2 (by omega) (by omega)).mono ?_; rintro e v ⟨rfl, rfl⟩; rw [hDd.out])
        refine bodyPost_ret (v := .tuple #[jac 0 none 0 0 none 0 0, .int .i64 5]) (by simp [results, Try.results33, go_sem, r0', r1', r2']) rfl ?_
        exact ResJ.nil HE.out.1 HE.out.2.1 HE.out.2.2 HC.out (((hBw.setCell (by simp) _).setCell (by simp) _).setCell (by simp) _)
      have ob2 : (D == 0) = false := by simp [hz]
      have HZ := hide hz
      obtain ⟨m1, m2⟩ := mulb rL.1 rL.2 rD.1 rD.2 hp2
      have v7 : IntKind.i64.wrap (L * D) = L * D := IntWalk.i64_in _ (by omega)
      have v8 : (L * D).tmod p = L * D % p := Int.tmod_eq_emod_of_nonneg m1
      have rB := modb (x := L * D) hp
      obtain ⟨Z2, hZ2⟩ : ∃ Z2, L * D % p = Z2 := ⟨_, rfl⟩
      rw [hZ2] at v8 rB hstB
      have v9 : IntKind.i64.wrap Z2 = Z2 := IntWalk.i64_in _ (by omega)
      have rI := invM_rng D hp
      obtain ⟨I, hI⟩ : ∃ I, invM p D = I := ⟨_, rfl⟩
      have HI := hide hI
      rw [hI] at rI hLn
      obtain ⟨m3, m4⟩ := mulb ry.1 ry.2 rI.1 rI.2 hp2
      have v10 : IntKind.i64.wrap (y' * I) = y' * I := IntWalk.i64_in _ (by omega)
      have v11 : (y' * I).tmod p = y' * I % p := Int.tmod_eq_emod_of_nonneg m3
      have rN := modb (x := y' * I) hp
      obtain ⟨N', hN'⟩ : ∃ N', y' * I % p = N' := ⟨_, rfl⟩
      rw [hN'] at v11 rN hLn
      have v12 : IntKind.i64.wrap N' = N' := IntWalk.i64_in _ (by omega)
      have k2 : (k : Int) + 1 < (m : Int) := by omega
      have k3 : (0 : Int) ≤ (k : Int) + 1 := by omega
      have k4 : ((k : Int) + 1).toNat = k + 1 := by omega
      clear hz hZ2 hI hN'
      go_wp2_with (go_at_call 60; refine (l01Mod_any p (u - x - L) _ hp hp2 (by omega) (by omega)).mono ?_; rintro e v ⟨rfl, rfl⟩; rw [hDd.out])
      have J0 := J7.out
      have hbd := (Below.refl w6.heap.size w6).drew
      have hba : Below w6.heap.size w6 ((w6.alloc (.cells #[.int .i64 Z2] 2)).drew) := (bl1 w6 _).drew
      have JA := J0.below hba
      have hOa := hide JA.oB
      have hcl : ((w6.alloc (.cells #[.int .i64 Z2] 2)).drew).cell? ⟨w6.heap.size, 0, none⟩ = some (.int .i64 Z2) := by simp [go_sem]
      have hsz := W6.out.size
      have hqw := J0.hi
      have hlo := J0.lo
      go_upto_region 16 with fail
      refine region_E (fun v => v.cell? ⟨qq, 2, none⟩ = some (.slice b' vs.length cb)) 10 (by kernel_rfl) (cell_be hbd J0.c2) ?_
      intro hS
      refine anyE_takeL 0 rfl (by kernel_rfl) (fun _ _ _ h => h) hS (by rfl) (v := ?_) ?_ ?_
      rotate_left
      · intro w' hSw; (try dsimp only at hSw); go_simp; (try with_reducible rfl)
      try simp only [Act.put, List.setIfInBounds_toArray, List.set_cons_zero, List.set_cons_succ]
      refine anyE_takeL 1 rfl (by kernel_rfl) (fun _ _ _ h => h) hS (by rfl) (v := ?_) ?_ ?_
      rotate_left
      · intro w' hSw; (try dsimp only at hSw); go_simp; (try with_reducible rfl)
      try simp only [Act.put, List.setIfInBounds_toArray, List.set_cons_zero, List.set_cons_succ]
      refine anyE_takeL 2 rfl (by kernel_rfl) (fun _ _ _ h => h) hS (by rfl) (v := ?_) ?_ ?_
      rotate_left
      · intro w' hSw; (try dsimp only at hSw); go_simp; (try with_reducible rfl)
      try simp only [Act.put, List.setIfInBounds_toArray, List.set_cons_zero, List.set_cons_succ]
      refine anyE_takeL 3 rfl (by kernel_rfl) (fun _ _ _ h => h) hS (by rfl) (v := ?_) ?_ ?_
      rotate_left
      · intro w' hSw; (try dsimp only at hSw); go_simp; (try with_reducible rfl)
      try simp only [Act.put, List.setIfInBounds_toArray, List.set_cons_zero, List.set_cons_succ]
      refine anyE_takeL 4 rfl (by kernel_rfl) (fun _ _ _ h => h) hS (by rfl) (v := ?_) ?_ ?_
      rotate_left
      · intro w' hSw; (try dsimp only at hSw); go_simp; (try with_reducible rfl)
      try simp only [Act.put, List.setIfInBounds_toArray, List.set_cons_zero, List.set_cons_succ]
      refine anyE_takeL 5 rfl (by kernel_rfl) (fun _ _ _ h => h) hS (by rfl) (v := ?_) ?_ ?_
      rotate_left
      · intro w' hSw; (try dsimp only at hSw); go_simp; (try with_reducible rfl)
      try simp only [Act.put, List.setIfInBounds_toArray, List.set_cons_zero, List.set_cons_succ]
      refine anyE_takeL 6 rfl (by kernel_rfl) (fun _ _ _ h => h) hS (by rfl) (v := ?_) ?_ ?_
      rotate_left
      · intro w' hSw; (try dsimp only at hSw); go_simp; (try with_reducible rfl)
      try simp only [Act.put, List.setIfInBounds_toArray, List.set_cons_zero, List.set_cons_succ]
      clear hS
      refine anyE_oneL 7 (by kernel_rfl) rfl (fun K hK => ?_)
      go_simp
      have S1 := JA.c2
      refine hK.out _ _ S1 ?_
      clear hK K
      try simp only [Act.put, List.setIfInBounds_toArray, List.set_cons_zero, List.set_cons_succ]
      refine anyE_oneL 8 (by kernel_rfl) rfl (fun K hK => ?_)
      refine step_app1 (by rfl) _ _ (by rfl) w2.heap.size _ _ _ vs (by rfl) rfl hOa.out _ _ Z2 (by rfl) hcl (by omega) (by first | omega | (simp; omega)) ?_
      intro bd' bap' v' hown' hgr hloc
      have hge := own_blk_ge hOa.out
      have s1' := cell_ne hgr JA.c2 JA.2.2.1.2.1
      have sf' := frz_ne hgr JA.c2 JA.z2 JA.2.2.1.2.1
      have S2 := s1'
      refine hK.out _ _ S2 ?_
      clear hK K
      try simp only [Act.put, List.setIfInBounds_toArray, List.set_cons_zero, List.set_cons_succ]
      refine anyE_takeL 9 rfl (by kernel_rfl) (fun _ _ _ h => h) S2 (by rfl) (v := ?_) ?_ ?_
      rotate_left
      · intro w' hSw; (try dsimp only at hSw); go_simp; (try with_reducible rfl)
      try simp only [Act.put, List.setIfInBounds_toArray, List.set_cons_zero, List.set_cons_succ]
      clear S1 S2
      refine anyE_lastL (by kernel_rfl) rfl (by kernel_rfl) (fun K hK => ?_)
      go_simp
      refine hK.out _ _ ?_
      clear hK K
      try simp only [Act.put, List.setIfInBounds_toArray, List.set_cons_zero, List.set_cons_succ]
      have J8 := hide (J0.pushB hown' hgr hloc)
      have W7 := hide (below_push W6.out (by omega) hgr (own_blk_ge hOa.out) J0.lo (k := 2) (.slice bd' (vs.length + 1) bap'))
      obtain ⟨w7, hw6⟩ : ∃ w7, w7 = v'.setCell ⟨qq, 2, none⟩ (.slice bd' (vs.length + 1) bap') := ⟨_, rfl⟩
      rw [← hw6] at J8 W7 ⊢
      clear hw6 hgr hown' hloc hOa hba hcl hbd J0 JA s1' sf' hge hsz hqw hlo
      have J9 : Hid (JS w2.heap.size qq w7 p ad' cap' (tab (k + 1) (sbA p xs ys x q)) bd' bap' (tab (k + 1 + 1) (sbB p xs ys x q))) := hide (by rw [hstB.out]; exact J8.out)
      have f2' := cell_be W7.out f2
      have e2' := cell_be W7.out (HcB.out (k + 1) hkm')
      rw [show ys.getD (k + 1) 0 = y' from Hy'.out] at e2'
      go_upto_region 17 with fail
      go_region_held3 (fun v => v.cell? ⟨w.heap.size, 2, none⟩ = some (.slice (some ⟨bb, bo, none⟩) m d) ∧ v.cell? ⟨bb, bo + (k + 1), none⟩ = some (.int .i64 y'))
        (exact ⟨by simpa using f2', by simpa using e2'⟩)
        (first | (go_at_call 76; refine (l01Inverse_any p D _ hp hp2 rD.1 rD.2).mono ?_; rintro e v' ⟨rfl, rfl⟩; rw [HI.out]))
      go_wp2
      go_roundw
      case rel => exact ⟨k + 1, cap', bap', ad', bd', hkm', by rw [hLn.out], by rw [hEn.out], by go_num, hide (J9.out.below ((Below.refl _ _).drew)), hide (W7.out.drew), hide (fun j hj => by
        by_cases e : j = k
        · subst e; rw [HDD.out]; exact HZ.out
        · exact hD.out j (by omega))⟩
      case measure => simp [intOf]; omega
end Go.Proofs.Ytllcgoachgfpjaa
