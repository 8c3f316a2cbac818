/- Merged texts. -/
import Derived.Test.YtllcgoachgfpjaaYD327
/- Contracts: l08Step, StepOfJacobi (model). -/
namespace Go.Proofs.Ytllcgoachgfpjaa
open Go.RowKit
set_option linter.unusedVariables false
set_option linter.unusedSimpArgs false

set_option maxRecDepth 100000 in
set_option maxHeartbeats 6400000 in
theorem l08Step_any (p : Int) (a : Option Addr) (m c : Nat) (xs : List Int) (b : Option Addr) (d : Nat) (ys : List Int) (x : Int) (w : World) (hs : SL w a m c xs) (ht : SL w b m d ys) (hj : jacB p xs ys = true) (x0 : 0 ≤ x) (x1 : x ≤ p - 1) :
    Calls Try.prog 70 #[jac p a m c b m d, .int .i64 x] w fun e w' => Below w.heap.size w w' ∧ ∃ a' na c' b' nb d', e = .returned (.tuple #[jac p a' na c' b' nb d', .bool (stOk p xs ys x m)]) ∧
      (stOk p xs ys x m = true → na = m - 1 ∧ nb = m - 1 ∧ JZ w.heap.size w'.heap.size w' a' (m - 1) c' (tab (m - 1) (stA p xs ys x)) b' (m - 1) d' (tab (m - 1) (stB p xs ys x))) := by
  have hl := hide hs.len
  have hl2 := hide ht.len
  obtain ⟨hpr, n1, n2, n3, hx, hy⟩ := jacB_rng hj
  obtain ⟨hp, hp2⟩ := primeB_lo hpr
  rw [hl.out] at n1 n2
  have HX := hide hx
  have HY := hide (posB_are hy)
  have hb0 := bl2 w (.cells #[.int .i64 p, .slice a m c, .slice b m d] 38) (.cells #[.int .i64 0, .slice none 0 0, .slice none 0 0] 38)
  obtain ⟨aa, ao, rfl, haw, hca⟩ := hs.at (show 0 < m by omega)
  obtain ⟨bb, bo, rfl, hbw, hcb⟩ := ht.at (show 0 < m by omega)
  clear hj hx hy hpr n3
  go_enter Try.func70, Try.ntmps70
  go_upto_region 1 with fail
  go_quiet (fail)
  obtain ⟨w2, hw2⟩ : ∃ w2, w2 = ((w.alloc (.cells #[.int .i64 p, .slice (some ⟨aa, ao, none⟩) m c, .slice (some ⟨bb, bo, none⟩) m d] 38)).alloc (.cells #[.int .i64 0, .slice none 0 0, .slice none 0 0] 38)).drewN nq := ⟨_, rfl⟩
  rw [← hw2]
  have hB2 : Below w.heap.size w w2 := by rw [hw2]; exact below_drewN hb0 _
  have f0 : w2.cell? ⟨w.heap.size, 0, none⟩ = some (.int .i64 p) := by rw [hw2]; simp [go_sem]
  have f1 : w2.cell? ⟨w.heap.size, 1, none⟩ = some (.slice (some ⟨aa, ao, none⟩) m c) := by rw [hw2]; simp [go_sem]
  have f2 : w2.cell? ⟨w.heap.size, 2, none⟩ = some (.slice (some ⟨bb, bo, none⟩) m d) := by rw [hw2]; simp [go_sem]
  have r0 : w2.cell? ⟨w.heap.size + 1, 0, none⟩ = some (.int .i64 0) := by rw [hw2]; simp [go_sem]
  have r1 : w2.cell? ⟨w.heap.size + 1, 1, none⟩ = some (.slice none 0 0) := by rw [hw2]; simp [go_sem]
  have r2 : w2.cell? ⟨w.heap.size + 1, 2, none⟩ = some (.slice none 0 0) := by rw [hw2]; simp [go_sem]
  have y0 : w2.frozen? ⟨w.heap.size + 1, 0, none⟩ = false := by rw [hw2]; simp [go_sem]
  have y1 : w2.frozen? ⟨w.heap.size + 1, 1, none⟩ = false := by rw [hw2]; simp [go_sem]
  have y2 : w2.frozen? ⟨w.heap.size + 1, 2, none⟩ = false := by rw [hw2]; simp [go_sem]
  have z2 : w.heap.size + 1 + 1 ≤ w2.heap.size := by rw [hw2]; simp
  clear hw2
  have HcA := hide (fun j (hj : j < m) => cell_be hB2 (hca j hj))
  have HcB := hide (fun j (hj : j < m) => cell_be hB2 (hcb j hj))
  clear hca hcb hs ht hb0
  have hLit : JS w2.heap.size (w2.heap.size + 1 + 1) (((w2.alloc (.cells #[] 2)).alloc (.cells #[] 2)).alloc (.cells #[.int .i64 p, .slice (some ⟨w2.heap.size, 0, none⟩) 0 0, .slice (some ⟨w2.heap.size + 1, 0, none⟩) 0 0] 38)) p (some ⟨w2.heap.size, 0, none⟩) 0 [] (some ⟨w2.heap.size + 1, 0, none⟩) 0 [] :=
    ⟨(own_lit0' _ _ rfl _ (Nat.le_refl _)).below (bl2 _ _ _), (own_lit0' _ _ (by simp) _ (by omega)).below (bl1 _ _), ⟨by simp [blk]; omega, by simp [blk], fun g h1 h2 => by simp [blk] at h1 h2; omega⟩, ⟨by simp [go_sem], by simp [go_sem], by simp [go_sem]⟩, ⟨by simp [go_sem], by simp [go_sem]⟩, by omega⟩
  have hWl := bl3 w2 (.cells #[] 2) (.cells #[] 2) (.cells #[.int .i64 p, .slice (some ⟨w2.heap.size, 0, none⟩) 0 0, .slice (some ⟨w2.heap.size + 1, 0, none⟩) 0 0] 38)
  go_upto_region 3 with fail
  obtain ⟨w5, hw5⟩ : ∃ w5, w5 = (((w2.alloc (.cells #[] 2)).alloc (.cells #[] 2)).alloc (.cells #[.int .i64 p, .slice (some ⟨w2.heap.size, 0, none⟩) 0 0, .slice (some ⟨w2.heap.size + 1, 0, none⟩) 0 0] 38)) := ⟨_, rfl⟩
  rw [← hw5] at hLit hWl ⊢
  clear hw5
  obtain ⟨qq, hqq⟩ : ∃ qq, qq = w2.heap.size + 1 + 1 := ⟨_, rfl⟩
  rw [← hqq] at hLit ⊢
  clear hqq
  have HWl := hide hWl
  have HLit := hide hLit
  clear hWl hLit
  by_cases h2 : m < 2
  · have HO := hide (show stOk p xs ys x m = false by simp [stOk]; omega)
    have h2' : (m : Int) < 2 := by omega
    obtain ⟨us, hus⟩ : ∃ us : List Int, us = [] := ⟨_, rfl⟩
    have Hus := hide (show us.length = 0 by rw [hus]; rfl)
    rw [← hus] at HLit
    clear hus h2
    have c0 := HLit.out.c0
    have c1 := HLit.out.c1
    have c2 := HLit.out.c2
    have r0' := cell_be HWl.out r0
    have r1' := cell_be HWl.out r1
    have r2' := cell_be HWl.out r2
    have y0' := (HWl.out.frozen (p := ⟨w.heap.size + 1, 0, none⟩) (by simp; omega)).trans y0
    have y1' := (HWl.out.frozen (p := ⟨w.heap.size + 1, 1, none⟩) (by simp; omega)).trans y1
    have y2' := (HWl.out.frozen (p := ⟨w.heap.size + 1, 2, none⟩) (by simp; omega)).trans y2
    have hBw := hB2.trans (HWl.out.mono (by omega))
    clear r0 r1 r2 y0 y1 y2
    go_wp2
    refine bodyPost_ret (v := .tuple #[jac p (some ⟨w2.heap.size, 0, none⟩) us.length 0 (some ⟨w2.heap.size + 1, 0, none⟩) us.length 0, .bool false]) (by simp [results, Try.results70, go_sem, r0', r1', r2']) rfl ?_
    exact ⟨((hBw.setCell (by simp) _).setCell (by simp) _).setCell (by simp) _, _, _, _, _, _, _, by rw [HO.out], fun h => by rw [HO.out] at h; cases h⟩
  have h2' : ¬ (m : Int) < 2 := by omega
  have ML := hide (fun k => dfL_rng hp xs ys x (l0 := 0) (by omega) (by omega) k)
  have MD := hide (fun k => dfD_rng hp xs ys x 0 k)
  have e0 := cell_be HWl.out (HcA.out 0 (by omega))
  have e0' : w5.cell? ⟨aa, ao, none⟩ = some (.int .i64 (xs.getD 0 0)) := e0
  clear e0
  have f1a := cell_be HWl.out f1
  have rx0 := getD_rng HX.out hp 0
  have hD0 := hide (show (xs.getD 0 0 - x) % p = dfD p xs ys x 0 0 by unfold dfD dfL; rw [Int.sub_zero])
  obtain ⟨u0, hu0⟩ : ∃ u0, xs.getD 0 0 = u0 := ⟨_, rfl⟩
  rw [hu0] at e0' rx0 hD0
  have v0 : IntKind.i64.wrap (u0 - x) = u0 - x := IntWalk.i64_in _ (by omega)
  have i0 : (0 : Int) < (m : Int) := by omega
  have i1 : 0 < m := by omega
  clear hu0
  go_wp2_with (go_at_call 60; refine (l01Mod_any p (u0 - x) _ hp hp2 (by omega) (by omega)).mono ?_; rintro e v ⟨rfl, rfl⟩; rw [hD0.out])
  clear e0' f1a v0
  go_loopw [9, 10, 11] (fun qv ev kv wr => ∃ (k ca cb : Nat) (a' b' : Option Addr), k ≤ m - 1 ∧ qv = .int .i64 (dfD p xs ys x 0 k) ∧ ev = .int .i64 (dfL p xs ys x 0 k) ∧ kv = .int .i64 k ∧
    Hid (JS w2.heap.size qq wr p a' ca (tab k (stA p xs ys x)) b' cb (tab k (stB p xs ys x))) ∧ Hid (Below w2.heap.size w2 wr) ∧ Hid (∀ j, j < k → dfD p xs ys x 0 j ≠ 0)) (fun _ _ kv _ => m - (intOf kv).toNat)
  case atStart => exact ⟨0, 0, 0, _, _, by omega, rfl, rfl, rfl, HLit, HWl, hide (fun j hj => by omega)⟩
  case round =>
    obtain ⟨k, ca, cb, a', b', hk, rfl, rfl, rfl, hJ, hW, hD⟩ := hrel
    clear HLit HWl
    have vk : IntKind.i64.wrap ((k : Int) + 1) = (k : Int) + 1 := IntWalk.i64_in _ (by omega)
    by_cases hkm : k = m - 1
    · have hlt : ¬ (k : Int) + 1 < (m : Int) := by omega
      have HO := hide (show stOk p xs ys x m = true by
        unfold stOk
        rw [dqB_t (fun j hj => hD.out j (by omega))]
        simp
        omega)
      obtain ⟨us, hus⟩ : ∃ us, tab k (stA p xs ys x) = us := ⟨_, rfl⟩
      obtain ⟨vs, hvs⟩ : ∃ vs, tab k (stB p xs ys x) = vs := ⟨_, rfl⟩
      have hul := hide (show us.length = m - 1 by rw [← hus, tab_len, hkm])
      have hvl := hide (show vs.length = m - 1 by rw [← hvs, tab_len, hkm])
      have HA := hide (show tab (m - 1) (stA p xs ys x) = us by rw [← hus, hkm])
      have HB := hide (show tab (m - 1) (stB p xs ys x) = vs by rw [← hvs, hkm])
      rw [hus, hvs] at hJ
      have jz := hJ.out.jz (by rw [hul.out]; omega)
      clear hus hvs hkm
      have c0 := hJ.out.c0
      have c1 := hJ.out.c1
      have c2 := hJ.out.c2
      have r0' := cell_be hW.out r0
      have r1' := cell_be hW.out r1
      have r2' := cell_be hW.out r2
      have y0' := (hW.out.frozen (p := ⟨w.heap.size + 1, 0, none⟩) (by simp; omega)).trans y0
      have y1' := (hW.out.frozen (p := ⟨w.heap.size + 1, 1, none⟩) (by simp; omega)).trans y1
      have y2' := (hW.out.frozen (p := ⟨w.heap.size + 1, 2, none⟩) (by simp; omega)).trans y2
      have hBw := hB2.trans (hW.out.mono (by omega))
      clear r0 r1 r2 y0 y1 y2
      go_wp2
      refine bodyPost_ret (v := .tuple #[jac p a' us.length ca b' vs.length cb, .bool true]) (by simp [results, Try.results70, go_sem, r0', r1', r2']) rfl ?_
      have jz2 := ((jz.setLow (x := ⟨w.heap.size + 1, 0, none⟩) (by simp; omega) (.int .i64 p)).setLow (x := ⟨w.heap.size + 1, 1, none⟩) (by simp; omega) (.slice a' us.length ca)).setLow (x := ⟨w.heap.size + 1, 2, none⟩) (by simp; omega) (.slice b' vs.length cb)
      refine ⟨((hBw.setCell (by simp) _).setCell (by simp) _).setCell (by simp) _, _, _, _, _, _, _, by rw [HO.out], fun _ => ⟨hul.out, hvl.out, ?_⟩⟩
      rw [HA.out, HB.out]
      have jz3 := jz2.mono (lo' := w.heap.size) (hi' := wr.heap.size) (by omega) (Nat.le_refl _)
      rw [hul.out, hvl.out] at jz3 ⊢
      simpa using jz3
    have hkm' : k + 1 < m := by omega
    have hlt : (k : Int) + 1 < (m : Int) := by omega
    have rL := ML.out k
    have rL2 := ML.out (k + 1)
    have rD := MD.out k
    have hstA := hide (show tab (k + 1) (stA p xs ys x) = tab k (stA p xs ys x) ++ [(dfD p xs ys x 0 k + dfL p xs ys x 0 (k + 1) + x) % p] from (tab_snoc k (stA p xs ys x)).symm)
    have hstB := hide (show tab (k + 1) (stB p xs ys x) = tab k (stB p xs ys x) ++ [if k = 0 then ys.getD 0 0 * dfD p xs ys x 0 k % p else dfD p xs ys x 0 k * dfL p xs ys x 0 k % p] by
      rw [← tab_snoc]
      congr 2
      unfold stB
      by_cases e : k = 0
      · subst e; rfl
      · rw [if_neg e, if_neg e])
    have hLn := hide (show ys.getD (k + 1) 0 * invM p (dfD p xs ys x 0 k) % p = dfL p xs ys x 0 (k + 1) from rfl)
    have hDn := hide (show (xs.getD (k + 1) 0 - x - dfL p xs ys x 0 (k + 1)) % p = dfD p xs ys x 0 (k + 1) from rfl)
    obtain ⟨L, hL⟩ : ∃ L, dfL p xs ys x 0 k = L := ⟨_, rfl⟩
    obtain ⟨D, hDD⟩ : ∃ D, dfD p xs ys x 0 k = D := ⟨_, rfl⟩
    have HDD := hide hDD
    rw [hL] at rL hstB ⊢
    rw [hDD] at rD hstA hstB hLn ⊢
    obtain ⟨zs, hzs⟩ : ∃ zs, tab k (stA p xs ys x) = zs := ⟨_, rfl⟩
    obtain ⟨vs, hvs⟩ : ∃ vs, tab k (stB p xs ys x) = vs := ⟨_, rfl⟩
    have hzl := hide (show zs.length = k by rw [← hzs, tab_len])
    have hvl := hide (show vs.length = k by rw [← hvs, tab_len])
    rw [hzs] at hJ hstA
    rw [hvs] at hJ hstB
    have hzk : zs.length ≤ 12 := by have := hzl.out; omega
    have hvk : vs.length ≤ 12 := by have := hvl.out; omega
    clear hL hDD hzs hvs hkm
    by_cases hz : D = 0
    · have HO := hide (show stOk p xs ys x m = false by
        unfold stOk
        rw [dqB_f k (by omega) (by rw [HDD.out]; exact hz)]
        simp)
      have ob2 : (D == 0) = true := by simp [hz]
      clear hz
      have c0 := hJ.out.c0
      have c1 := hJ.out.c1
      have c2 := hJ.out.c2
      have r0' := cell_be hW.out r0
      have r1' := cell_be hW.out r1
      have r2' := cell_be hW.out r2
      have y0' := (hW.out.frozen (p := ⟨w.heap.size + 1, 0, none⟩) (by simp; omega)).trans y0
      have y1' := (hW.out.frozen (p := ⟨w.heap.size + 1, 1, none⟩) (by simp; omega)).trans y1
      have y2' := (hW.out.frozen (p := ⟨w.heap.size + 1, 2, none⟩) (by simp; omega)).trans y2
      have hBw := hB2.trans (hW.out.mono (by omega))
      clear r0 r1 r2 y0 y1 y2
      go_wp2
      refine bodyPost_ret (v := .tuple #[jac p a' zs.length ca b' vs.length cb, .bool false]) (by simp [results, Try.results70, go_sem, r0', r1', r2']) rfl ?_
      exact ⟨((hBw.setCell (by simp) _).setCell (by simp) _).setCell (by simp) _, _, _, _, _, _, _, by rw [HO.out], fun h => by rw [HO.out] at h; cases h⟩
    have ob2 : (D == 0) = false := by simp [hz]
    have HZ := hide hz
    have ry := getD_rng HY.out hp (k + 1)
    have rx := getD_rng HX.out hp (k + 1)
    have e2 := HcB.out (k + 1) hkm'
    have e3 := HcA.out (k + 1) hkm'
    obtain ⟨u, hu⟩ : ∃ u, xs.getD (k + 1) 0 = u := ⟨_, rfl⟩
    obtain ⟨y', hy'⟩ : ∃ y', ys.getD (k + 1) 0 = y' := ⟨_, rfl⟩
    rw [hu] at e3 rx hDn
    rw [hy'] at e2 ry hLn
    have rI := invM_rng D hp
    obtain ⟨I, hI⟩ : ∃ I, invM p D = I := ⟨_, rfl⟩
    have HI := hide hI
    rw [hI] at rI hLn
    obtain ⟨m3, m4⟩ := mulb ry.1 ry.2 rI.1 rI.2 hp2
    have v1 : IntKind.i64.wrap (y' * I) = y' * I := IntWalk.i64_in _ (by omega)
    have v2 : (y' * I).tmod p = y' * I % p := Int.tmod_eq_emod_of_nonneg m3
    rw [hLn.out] at v2
    obtain ⟨N, hN⟩ : ∃ N, dfL p xs ys x 0 (k + 1) = N := ⟨_, rfl⟩
    have HN := hide hN
    rw [hN] at v2 rL2 hstA hDn
    have v3 : IntKind.i64.wrap N = N := IntWalk.i64_in _ (by omega)
    have hp0 : ¬ p = 0 := by omega
    have v4 : IntKind.i64.wrap (D + N) = D + N := IntWalk.i64_in _ (by omega)
    have v5 : IntKind.i64.wrap (D + N + x) = D + N + x := IntWalk.i64_in _ (by omega)
    have v6 : (D + N + x).tmod p = (D + N + x) % p := Int.tmod_eq_emod_of_nonneg (by omega)
    have rA := modb (x := D + N + x) hp
    obtain ⟨Z1, hZ1⟩ : ∃ Z1, (D + N + x) % p = Z1 := ⟨_, rfl⟩
    rw [hZ1] at v6 rA hstA
    have v7 : IntKind.i64.wrap Z1 = Z1 := IntWalk.i64_in _ (by omega)
    have v8 : IntKind.i64.wrap (u - x) = u - x := IntWalk.i64_in _ (by omega)
    have v9 : IntKind.i64.wrap (u - x - N) = u - x - N := IntWalk.i64_in _ (by omega)
    have k0 : (0 : Int) ≤ (k : Int) := by omega
    have k3 : (0 : Int) ≤ (k : Int) + 1 := by omega
    have k4 : ((k : Int) + 1).toNat = k + 1 := by omega
    have f2' := cell_be hW.out f2
    have e2' := cell_be hW.out e2
    clear hz hu hy' hI hN hZ1
    go_upto_region 11 with fail
    go_region_held3 (fun v => v.cell? ⟨w.heap.size, 2, none⟩ = some (.slice (some ⟨bb, bo, none⟩) m d) ∧ v.cell? ⟨bb, bo + (k + 1), none⟩ = some (.int .i64 y'))
      (exact ⟨by simpa using f2', by simpa using e2'⟩)
      (first | (go_at_call 76; refine (l01Inverse_any p D _ hp hp2 rD.1 rD.2).mono ?_; rintro e v' ⟨rfl, rfl⟩; rw [HI.out]))
    obtain ⟨wd, hwd⟩ : ∃ wd, wd = wr.drew := ⟨_, rfl⟩
    have HWd : Hid (Below w2.heap.size w2 wd) := hide (by rw [hwd]; exact hW.out.drew)
    have HJd : Hid (JS w2.heap.size qq wd p a' ca zs b' cb vs) := hide (by rw [hwd]; exact hJ.out.below ((Below.refl _ _).drew))
    rw [← hwd]
    clear hwd hJ hW f2' e2'
    go_upto_region 12 with fail
    have J0 := HJd.out
    have hbd := (Below.refl wd.heap.size wd).drew
    have hba : Below wd.heap.size wd ((wd.alloc (.cells #[.int .i64 Z1] 2)).drew) := (bl1 wd _).drew
    have JA := J0.below hba
    have hOa := hide JA.oA
    have hcl : ((wd.alloc (.cells #[.int .i64 Z1] 2)).drew).cell? ⟨wd.heap.size, 0, none⟩ = some (.int .i64 Z1) := by simp [go_sem]
    have hsz := HWd.out.size
    have hqw := J0.hi
    have hlo := J0.lo
    refine region_E (fun v => v.cell? ⟨qq, 1, none⟩ = some (.slice a' zs.length ca)) 12 (by kernel_rfl) (cell_be hbd J0.c1) ?_
    intro hS
    refine anyE_takeL 0 rfl (by kernel_rfl) (fun _ _ _ h => h) hS (by rfl) (v := ?_) ?_ ?_
    rotate_left
    · intro w' hSw; (try dsimp only at hSw); go_simp; (try with_reducible rfl)
    try simp only [Act.put, List.setIfInBounds_toArray, List.set_cons_zero, List.set_cons_succ]
    refine anyE_takeL 1 rfl (by kernel_rfl) (fun _ _ _ h => h) hS (by rfl) (v := ?_) ?_ ?_
    rotate_left
    · intro w' hSw; (try dsimp only at hSw); go_simp; (try with_reducible rfl)
    try simp only [Act.put, List.setIfInBounds_toArray, List.set_cons_zero, List.set_cons_succ]
    refine anyE_takeL 2 rfl (by kernel_rfl) (fun _ _ _ h => h) hS (by rfl) (v := ?_) ?_ ?_
    rotate_left
    · intro w' hSw; (try dsimp only at hSw); go_simp; (try with_reducible rfl)
    try simp only [Act.put, List.setIfInBounds_toArray, List.set_cons_zero, List.set_cons_succ]
    refine anyE_takeL 3 rfl (by kernel_rfl) (fun _ _ _ h => h) hS (by rfl) (v := ?_) ?_ ?_
    rotate_left
    · intro w' hSw; (try dsimp only at hSw); go_simp; (try with_reducible rfl)
    try simp only [Act.put, List.setIfInBounds_toArray, List.set_cons_zero, List.set_cons_succ]
    refine anyE_takeL 4 rfl (by kernel_rfl) (fun _ _ _ h => h) hS (by rfl) (v := ?_) ?_ ?_
    rotate_left
    · intro w' hSw; (try dsimp only at hSw); go_simp; (try with_reducible rfl)
    try simp only [Act.put, List.setIfInBounds_toArray, List.set_cons_zero, List.set_cons_succ]
    refine anyE_takeL 5 rfl (by kernel_rfl) (fun _ _ _ h => h) hS (by rfl) (v := ?_) ?_ ?_
    rotate_left
    · intro w' hSw; (try dsimp only at hSw); go_simp; (try with_reducible rfl)
    try simp only [Act.put, List.setIfInBounds_toArray, List.set_cons_zero, List.set_cons_succ]
    refine anyE_takeL 6 rfl (by kernel_rfl) (fun _ _ _ h => h) hS (by rfl) (v := ?_) ?_ ?_
    rotate_left
    · intro w' hSw; (try dsimp only at hSw); go_simp; (try with_reducible rfl)
    try simp only [Act.put, List.setIfInBounds_toArray, List.set_cons_zero, List.set_cons_succ]
    refine anyE_takeL 7 rfl (by kernel_rfl) (fun _ _ _ h => h) hS (by rfl) (v := ?_) ?_ ?_
    rotate_left
    · intro w' hSw; (try dsimp only at hSw); go_simp; (try with_reducible rfl)
    try simp only [Act.put, List.setIfInBounds_toArray, List.set_cons_zero, List.set_cons_succ]
    refine anyE_takeL 8 rfl (by kernel_rfl) (fun _ _ _ h => h) hS (by rfl) (v := ?_) ?_ ?_
    rotate_left
    · intro w' hSw; (try dsimp only at hSw); go_simp; (try with_reducible rfl)
    try simp only [Act.put, List.setIfInBounds_toArray, List.set_cons_zero, List.set_cons_succ]
    clear hS
    refine anyE_oneL 9 (by kernel_rfl) rfl (fun K hK => ?_)
    go_simp
    have S1 := JA.c1
    refine hK.out _ _ S1 ?_
    clear hK K
    try simp only [Act.put, List.setIfInBounds_toArray, List.set_cons_zero, List.set_cons_succ]
    refine anyE_oneL 10 (by kernel_rfl) rfl (fun K hK => ?_)
    refine step_app1 (by rfl) _ _ (by rfl) w2.heap.size _ _ _ zs (by rfl) rfl hOa.out _ _ Z1 (by rfl) hcl (by omega) (by first | omega | (simp; omega)) ?_
    intro ad' cap' v' hown' hgr hloc
    have hge := own_blk_ge hOa.out
    have s1' := cell_ne hgr JA.c1 JA.2.2.1.1
    have sf' := frz_ne hgr JA.c1 JA.z1 JA.2.2.1.1
    have S2 := s1'
    refine hK.out _ _ S2 ?_
    clear hK K
    try simp only [Act.put, List.setIfInBounds_toArray, List.set_cons_zero, List.set_cons_succ]
    refine anyE_takeL 11 rfl (by kernel_rfl) (fun _ _ _ h => h) S2 (by rfl) (v := ?_) ?_ ?_
    rotate_left
    · intro w' hSw; (try dsimp only at hSw); go_simp; (try with_reducible rfl)
    try simp only [Act.put, List.setIfInBounds_toArray, List.set_cons_zero, List.set_cons_succ]
    clear S1 S2
    refine anyE_lastL (by kernel_rfl) rfl (by kernel_rfl) (fun K hK => ?_)
    go_simp
    refine hK.out _ _ ?_
    clear hK K
    try simp only [Act.put, List.setIfInBounds_toArray, List.set_cons_zero, List.set_cons_succ]
    have J6 := hide (J0.pushA hown' hgr hloc)
    have W6 := hide (below_push HWd.out (by omega) hgr (own_blk_ge hOa.out) J0.lo (k := 1) (.slice ad' (zs.length + 1) cap'))
    obtain ⟨w6, hw6⟩ : ∃ w6, w6 = v'.setCell ⟨qq, 1, none⟩ (.slice ad' (zs.length + 1) cap') := ⟨_, rfl⟩
    rw [← hw6] at J6 W6 ⊢
    clear hw6 hgr hown' hloc hOa hba hcl hbd J0 JA s1' sf' hge hsz hqw hlo
    have J7 : Hid (JS w2.heap.size qq w6 p ad' cap' (tab (k + 1) (stA p xs ys x)) b' cb vs) := hide (by rw [hstA.out]; exact J6.out)
    by_cases hk0 : k = 0
    · have ob3 : ((k : Int) == 0) = true := by simp [hk0]
      have e4 : w6.cell? ⟨bb, bo, none⟩ = some (.int .i64 (ys.getD 0 0)) := cell_be W6.out (HcB.out 0 i1)
      have fb := cell_be W6.out f2
      have ry0 := getD_rng HY.out hp 0
      rw [if_pos hk0] at hstB
      obtain ⟨y, hyy⟩ : ∃ y, ys.getD 0 0 = y := ⟨_, rfl⟩
      rw [hyy] at e4 ry0 hstB
      obtain ⟨m1, m2⟩ := mulb ry0.1 ry0.2 rD.1 rD.2 hp2
      have w1' : IntKind.i64.wrap (y * D) = y * D := IntWalk.i64_in _ (by omega)
      have w2' : (y * D).tmod p = y * D % p := Int.tmod_eq_emod_of_nonneg m1
      have rB := modb (x := y * D) hp
      obtain ⟨Z2, hZ2⟩ : ∃ Z2, y * D % p = Z2 := ⟨_, rfl⟩
      rw [hZ2] at w2' rB hstB
      have w3' : IntKind.i64.wrap Z2 = Z2 := IntWalk.i64_in _ (by omega)
      clear hyy hZ2 hk0
      go_upto_region 14 with fail
      have J0 := J7.out
      have hbd := (Below.refl w6.heap.size w6).drew
      have hba : Below w6.heap.size w6 ((w6.alloc (.cells #[.int .i64 Z2] 2)).drew) := (bl1 w6 _).drew
      have JA := J0.below hba
      have hOa := hide JA.oB
      have hcl : ((w6.alloc (.cells #[.int .i64 Z2] 2)).drew).cell? ⟨w6.heap.size, 0, none⟩ = some (.int .i64 Z2) := by simp [go_sem]
      have hsz := W6.out.size
      have hqw := J0.hi
      have hlo := J0.lo
      refine region_E (fun v => v.cell? ⟨qq, 2, none⟩ = some (.slice b' vs.length cb) ∧ v.cell? ⟨w.heap.size, 2, none⟩ = some (.slice (some ⟨bb, bo, none⟩) m d) ∧ v.cell? ⟨bb, bo, none⟩ = some (.int .i64 y)) 13 (by kernel_rfl) ⟨cell_be hbd J0.c2, cell_be hbd fb, cell_be hbd e4⟩ ?_
      intro hS
      refine anyE_takeL 0 rfl (by kernel_rfl) (fun _ _ _ h => h) hS (by rfl) (v := ?_) ?_ ?_
      rotate_left
      · intro w' hSw; (try dsimp only at hSw); go_simp; (try with_reducible rfl)
      try simp only [Act.put, List.setIfInBounds_toArray, List.set_cons_zero, List.set_cons_succ]
      refine anyE_takeL 1 rfl (by kernel_rfl) (fun _ _ _ h => h) hS (by rfl) (v := ?_) ?_ ?_
      rotate_left
      · intro w' hSw; (try dsimp only at hSw); go_simp; (try with_reducible rfl)
      try simp only [Act.put, List.setIfInBounds_toArray, List.set_cons_zero, List.set_cons_succ]
      refine anyE_takeL 2 rfl (by kernel_rfl) (fun _ _ _ h => h) hS (by rfl) (v := ?_) ?_ ?_
      rotate_left
      · intro w' hSw; (try dsimp only at hSw); go_simp; (try with_reducible rfl)
      try simp only [Act.put, List.setIfInBounds_toArray, List.set_cons_zero, List.set_cons_succ]
      refine anyE_takeL 3 rfl (by kernel_rfl) (fun _ _ _ h => h) hS (by rfl) (v := ?_) ?_ ?_
      rotate_left
      · intro w' hSw; (try dsimp only at hSw); go_simp; (try with_reducible rfl)
      try simp only [Act.put, List.setIfInBounds_toArray, List.set_cons_zero, List.set_cons_succ]
      refine anyE_takeL 4 rfl (by kernel_rfl) (fun _ _ _ h => h) hS (by rfl) (v := ?_) ?_ ?_
      rotate_left
      · intro w' hSw; (try dsimp only at hSw); go_simp; (try with_reducible rfl)
      try simp only [Act.put, List.setIfInBounds_toArray, List.set_cons_zero, List.set_cons_succ]
      refine anyE_takeL 5 rfl (by kernel_rfl) (fun _ _ _ h => h) hS (by rfl) (v := ?_) ?_ ?_
      rotate_left
      · intro w' hSw; (try dsimp only at hSw); go_simp; (try with_reducible rfl)
      try simp only [Act.put, List.setIfInBounds_toArray, List.set_cons_zero, List.set_cons_succ]
      refine anyE_takeL 6 rfl (by kernel_rfl) (fun _ _ _ h => h) hS (by rfl) (v := ?_) ?_ ?_
      rotate_left
      · intro w' hSw; (try dsimp only at hSw); go_simp; (try with_reducible rfl)
      try simp only [Act.put, List.setIfInBounds_toArray, List.set_cons_zero, List.set_cons_succ]
      refine anyE_takeL 7 rfl (by kernel_rfl) (fun _ _ _ h => h) hS (by rfl) (v := ?_) ?_ ?_
      rotate_left
      · intro w' hSw; (try dsimp only at hSw); go_simp; (try with_reducible rfl)
      try simp only [Act.put, List.setIfInBounds_toArray, List.set_cons_zero, List.set_cons_succ]
      refine anyE_takeL 8 rfl (by kernel_rfl) (fun _ _ _ h => h) hS (by rfl) (v := ?_) ?_ ?_
      rotate_left
      · intro w' hSw; (try dsimp only at hSw); go_simp; (try with_reducible rfl)
      try simp only [Act.put, List.setIfInBounds_toArray, List.set_cons_zero, List.set_cons_succ]
      refine anyE_takeL 9 rfl (by kernel_rfl) (fun _ _ _ h => h) hS (by rfl) (v := ?_) ?_ ?_
      rotate_left
      · intro w' hSw; (try dsimp only at hSw); go_simp; (try with_reducible rfl)
      try simp only [Act.put, List.setIfInBounds_toArray, List.set_cons_zero, List.set_cons_succ]
      clear hS
      refine anyE_oneL 10 (by kernel_rfl) rfl (fun K hK => ?_)
      go_simp
      have S1 := And.intro (JA.c2) (And.intro (cell_be hba fb) (cell_be hba e4))
      refine hK.out _ _ S1 ?_
      clear hK K
      try simp only [Act.put, List.setIfInBounds_toArray, List.set_cons_zero, List.set_cons_succ]
      refine anyE_oneL 11 (by kernel_rfl) rfl (fun K hK => ?_)
      refine step_app1 (by rfl) _ _ (by rfl) w2.heap.size _ _ _ vs (by rfl) rfl hOa.out _ _ Z2 (by rfl) hcl (by omega) (by first | omega | (simp; omega)) ?_
      intro bd' bap' v' hown' hgr hloc
      have hge := own_blk_ge hOa.out
      have s1' := cell_ne hgr JA.c2 JA.2.2.1.2.1
      have sf' := frz_ne hgr JA.c2 JA.z2 JA.2.2.1.2.1
      have S2 := And.intro (s1') (And.intro (cell_ne hgr S1.2.1 (fun e => by have := hge _ e; omega)) (cell_ne hgr S1.2.2 (fun e => by have := hge _ e; omega)))
      refine hK.out _ _ S2 ?_
      clear hK K
      try simp only [Act.put, List.setIfInBounds_toArray, List.set_cons_zero, List.set_cons_succ]
      refine anyE_takeL 12 rfl (by kernel_rfl) (fun _ _ _ h => h) S2 (by rfl) (v := ?_) ?_ ?_
      rotate_left
      · intro w' hSw; (try dsimp only at hSw); go_simp; (try with_reducible rfl)
      try simp only [Act.put, List.setIfInBounds_toArray, List.set_cons_zero, List.set_cons_succ]
      clear S1 S2
      refine anyE_lastL (by kernel_rfl) rfl (by kernel_rfl) (fun K hK => ?_)
      go_simp
      refine hK.out _ _ ?_
      clear hK K
      try simp only [Act.put, List.setIfInBounds_toArray, List.set_cons_zero, List.set_cons_succ]
      have J8 := hide (J0.pushB hown' hgr hloc)
      have W7 := hide (below_push W6.out (by omega) hgr (own_blk_ge hOa.out) J0.lo (k := 2) (.slice bd' (vs.length + 1) bap'))
      obtain ⟨w7, hw6⟩ : ∃ w7, w7 = v'.setCell ⟨qq, 2, none⟩ (.slice bd' (vs.length + 1) bap') := ⟨_, rfl⟩
      rw [← hw6] at J8 W7 ⊢
      clear hw6 hgr hown' hloc hOa hba hcl hbd J0 JA s1' sf' hge hsz hqw hlo
      have J9 : Hid (JS w2.heap.size qq w7 p ad' cap' (tab (k + 1) (stA p xs ys x)) bd' bap' (tab (k + 1) (stB p xs ys x))) := hide (by rw [hstB.out]; exact J8.out)
      have f1' := cell_be W7.out f1
      have e3' := cell_be W7.out e3
      go_wp2_with (go_at_call 60; refine (l01Mod_any p (u - x - N) _ hp hp2 (by omega) (by omega)).mono ?_; rintro e v ⟨rfl, rfl⟩; rw [hDn.out])
      go_roundw
      case rel => exact ⟨k + 1, cap', bap', ad', bd', by omega, rfl, by rw [HN.out], by go_num, J9, W7, hide (fun j hj => by
        by_cases e : j = k
        · subst e; rw [HDD.out]; exact HZ.out
        · exact hD.out j (by omega))⟩
      case measure => simp [intOf]; omega
    · have ob3 : ((k : Int) == 0) = false := by simp; omega
      rw [if_neg hk0] at hstB
      obtain ⟨m1, m2⟩ := mulb rD.1 rD.2 rL.1 rL.2 hp2
      have w1' : IntKind.i64.wrap (D * L) = D * L := IntWalk.i64_in _ (by omega)
      have w2' : (D * L).tmod p = D * L % p := Int.tmod_eq_emod_of_nonneg m1
      have rB := modb (x := D * L) hp
      obtain ⟨Z2, hZ2⟩ : ∃ Z2, D * L % p = Z2 := ⟨_, rfl⟩
      rw [hZ2] at w2' rB hstB
      have w3' : IntKind.i64.wrap Z2 = Z2 := IntWalk.i64_in _ (by omega)
      clear hZ2 hk0
      go_upto_region 15 with fail
      have J0 := J7.out
      have hbd := (Below.refl w6.heap.size w6).drew
      have hba : Below w6.heap.size w6 ((w6.alloc (.cells #[.int .i64 Z2] 2)).drew) := (bl1 w6 _).drew
      have JA := J0.below hba
      have hOa := hide JA.oB
      have hcl : ((w6.alloc (.cells #[.int .i64 Z2] 2)).drew).cell? ⟨w6.heap.size, 0, none⟩ = some (.int .i64 Z2) := by simp [go_sem]
      have hsz := W6.out.size
      have hqw := J0.hi
      have hlo := J0.lo
      refine region_E (fun v => v.cell? ⟨qq, 2, none⟩ = some (.slice b' vs.length cb)) 10 (by kernel_rfl) (cell_be hbd J0.c2) ?_
      intro hS
      refine anyE_takeL 0 rfl (by kernel_rfl) (fun _ _ _ h => h) hS (by rfl) (v := ?_) ?_ ?_
      rotate_left
      · intro w' hSw; (try dsimp only at hSw); go_simp; (try with_reducible rfl)
      try simp only [Act.put, List.setIfInBounds_toArray, List.set_cons_zero, List.set_cons_succ]
      refine anyE_takeL 1 rfl (by kernel_rfl) (fun _ _ _ h => h) hS (by rfl) (v := ?_) ?_ ?_
      rotate_left
      · intro w' hSw; (try dsimp only at hSw); go_simp; (try with_reducible rfl)
      try simp only [Act.put, List.setIfInBounds_toArray, List.set_cons_zero, List.set_cons_succ]
      refine anyE_takeL 2 rfl (by kernel_rfl) (fun _ _ _ h => h) hS (by rfl) (v := ?_) ?_ ?_
      rotate_left
      · intro w' hSw; (try dsimp only at hSw); go_simp; (try with_reducible rfl)
      try simp only [Act.put, List.setIfInBounds_toArray, List.set_cons_zero, List.set_cons_succ]
      refine anyE_takeL 3 rfl (by kernel_rfl) (fun _ _ _ h => h) hS (by rfl) (v := ?_) ?_ ?_
      rotate_left
      · intro w' hSw; (try dsimp only at hSw); go_simp; (try with_reducible rfl)
      try simp only [Act.put, List.setIfInBounds_toArray, List.set_cons_zero, List.set_cons_succ]
      refine anyE_takeL 4 rfl (by kernel_rfl) (fun _ _ _ h => h) hS (by rfl) (v := ?_) ?_ ?_
      rotate_left
      · intro w' hSw; (try dsimp only at hSw); go_simp; (try with_reducible rfl)
      try simp only [Act.put, List.setIfInBounds_toArray, List.set_cons_zero, List.set_cons_succ]
      refine anyE_takeL 5 rfl (by kernel_rfl) (fun _ _ _ h => h) hS (by rfl) (v := ?_) ?_ ?_
      rotate_left
      · intro w' hSw; (try dsimp only at hSw); go_simp; (try with_reducible rfl)
      try simp only [Act.put, List.setIfInBounds_toArray, List.set_cons_zero, List.set_cons_succ]
      refine anyE_takeL 6 rfl (by kernel_rfl) (fun _ _ _ h => h) hS (by rfl) (v := ?_) ?_ ?_
      rotate_left
      · intro w' hSw; (try dsimp only at hSw); go_simp; (try with_reducible rfl)
      try simp only [Act.put, List.setIfInBounds_toArray, List.set_cons_zero, List.set_cons_succ]
      clear hS
      refine anyE_oneL 7 (by kernel_rfl) rfl (fun K hK => ?_)
      go_simp
      have S1 := JA.c2
      refine hK.out _ _ S1 ?_
      clear hK K
      try simp only [Act.put, List.setIfInBounds_toArray, List.set_cons_zero, List.set_cons_succ]
      refine anyE_oneL 8 (by kernel_rfl) rfl (fun K hK => ?_)
      refine step_app1 (by rfl) _ _ (by rfl) w2.heap.size _ _ _ vs (by rfl) rfl hOa.out _ _ Z2 (by rfl) hcl (by omega) (by first | omega | (simp; omega)) ?_
      intro bd' bap' v' hown' hgr hloc
      have hge := own_blk_ge hOa.out
      have s1' := cell_ne hgr JA.c2 JA.2.2.1.2.1
      have sf' := frz_ne hgr JA.c2 JA.z2 JA.2.2.1.2.1
      have S2 := s1'
      refine hK.out _ _ S2 ?_
      clear hK K
      try simp only [Act.put, List.setIfInBounds_toArray, List.set_cons_zero, List.set_cons_succ]
      refine anyE_takeL 9 rfl (by kernel_rfl) (fun _ _ _ h => h) S2 (by rfl) (v := ?_) ?_ ?_
      rotate_left
      · intro w' hSw; (try dsimp only at hSw); go_simp; (try with_reducible rfl)
      try simp only [Act.put, List.setIfInBounds_toArray, List.set_cons_zero, List.set_cons_succ]
      clear S1 S2
      refine anyE_lastL (by kernel_rfl) rfl (by kernel_rfl) (fun K hK => ?_)
      go_simp
      refine hK.out _ _ ?_
      clear hK K
      try simp only [Act.put, List.setIfInBounds_toArray, List.set_cons_zero, List.set_cons_succ]
      have J8 := hide (J0.pushB hown' hgr hloc)
      have W7 := hide (below_push W6.out (by omega) hgr (own_blk_ge hOa.out) J0.lo (k := 2) (.slice bd' (vs.length + 1) bap'))
      obtain ⟨w7, hw6⟩ : ∃ w7, w7 = v'.setCell ⟨qq, 2, none⟩ (.slice bd' (vs.length + 1) bap') := ⟨_, rfl⟩
      rw [← hw6] at J8 W7 ⊢
      clear hw6 hgr hown' hloc hOa hba hcl hbd J0 JA s1' sf' hge hsz hqw hlo
      have J9 : Hid (JS w2.heap.size qq w7 p ad' cap' (tab (k + 1) (stA p xs ys x)) bd' bap' (tab (k + 1) (stB p xs ys x))) := hide (by rw [hstB.out]; exact J8.out)
      have f1' := cell_be W7.out f1
      have e3' := cell_be W7.out e3
      go_wp2_with (go_at_call 60; refine (l01Mod_any p (u - x - N) _ hp hp2 (by omega) (by omega)).mono ?_; rintro e v ⟨rfl, rfl⟩; rw [hDn.out])
      go_roundw
      case rel => exact ⟨k + 1, cap', bap', ad', bd', by omega, rfl, by rw [HN.out], by go_num, J9, W7, hide (fun j hj => by
        by_cases e : j = k
        · subst e; rw [HDD.out]; exact HZ.out
        · exact hD.out j (by omega))⟩
      case measure => simp [intOf]; omega
end Go.Proofs.Ytllcgoachgfpjaa
/- Contract: StepOfJacobi (model). -/
namespace Go.Proofs.Ytllcgoachgfpjaa
open Go.RowKit
set_option linter.unusedVariables false
set_option linter.unusedSimpArgs false

set_option maxRecDepth 100000 in
set_option maxHeartbeats 3200000 in
theorem specStepOfJacobi (p : Int) (a : Option Addr) (n c : Nat) (xs : List Int) (b : Option Addr) (m d : Nat) (ys : List Int) (x : Int) (w : World) (hs : SL w a n c xs) (ht : SL w b m d ys) (hn : n ≤ 4000000) (hm : m ≤ 4000000) :
    Calls Try.prog 27 #[jac p a n c b m d, .int .i64 x] w (ResJ w (sojP p xs ys x) (sojV p xs ys x) (sojU p xs ys x) (sojC p xs ys x)) := by
  have hl := hide hs.len
  have hl2 := hide ht.len
  have hb0 := bl2 w (.cells #[.int .i64 p, .slice a n c, .slice b m d] 38) (.cells #[.int .i64 0, .slice none 0 0, .slice none 0 0] 38)
  have g1 := hs.below hb0
  have g2 := ht.below hb0
  have hbL := bl1 ((w.alloc (.cells #[.int .i64 p, .slice a n c, .slice b m d] 38)).alloc (.cells #[.int .i64 0, .slice none 0 0, .slice none 0 0] 38)) (.cells #[.int .i64 x] 2)
  have k1 := g1.below hbL
  have k2 := g2.below hbL
  have hb02 := bnext hb0 hbL
  have gx : SL (((w.alloc (.cells #[.int .i64 p, .slice a n c, .slice b m d] 38)).alloc (.cells #[.int .i64 0, .slice none 0 0, .slice none 0 0] 38)).alloc (.cells #[.int .i64 x] 2)) (some ⟨w.heap.size + 1 + 1, 0, none⟩) 1 1 [x] := by simpa using litSL ((w.alloc (.cells #[.int .i64 p, .slice a n c, .slice b m d] 38)).alloc (.cells #[.int .i64 0, .slice none 0 0, .slice none 0 0] 38)) x
  cases hj : jacB p xs ys
  · have HC := hide (show sojC p xs ys x = 1 by simp [sojC, hj])
    have HE := hide (soj_err HC.out (by decide))
    have HR := hide (show jcd p xs ys x 0 (p - 1) = 1 by simp [jcd, hj])
    clear hj
    go_enter Try.func27, Try.ntmps27
    go_wp2_with fail
    refine (l08Code_one _ _ _ _ _ _ _ _ _ _ _ 1 _ _ k1 k2 gx hn hm HR.out).mono ?_
    rintro e w2 ⟨rfl, hb1⟩
    have f0 : w2.cell? ⟨w.heap.size, 0, none⟩ = some (.int .i64 p) := cell_be hb1 (by simp [go_sem])
    have f1 : w2.cell? ⟨w.heap.size, 1, none⟩ = some (.slice a n c) := cell_be hb1 (by simp [go_sem])
    have f2 : w2.cell? ⟨w.heap.size, 2, none⟩ = some (.slice b m d) := cell_be hb1 (by simp [go_sem])
    have r0 : w2.cell? ⟨w.heap.size + 1, 0, none⟩ = some (.int .i64 0) := cell_be hb1 (by simp [go_sem])
    have r1 : w2.cell? ⟨w.heap.size + 1, 1, none⟩ = some (.slice none 0 0) := cell_be hb1 (by simp [go_sem])
    have r2 : w2.cell? ⟨w.heap.size + 1, 2, none⟩ = some (.slice none 0 0) := cell_be hb1 (by simp [go_sem])
    have y0 : w2.frozen? ⟨w.heap.size + 1, 0, none⟩ = false := (hb1.frozen (by simp)).trans (by simp [go_sem])
    have y1 : w2.frozen? ⟨w.heap.size + 1, 1, none⟩ = false := (hb1.frozen (by simp)).trans (by simp [go_sem])
    have y2 : w2.frozen? ⟨w.heap.size + 1, 2, none⟩ = false := (hb1.frozen (by simp)).trans (by simp [go_sem])
    have hB2 := bnext hb02 hb1
    go_wp2
    refine bodyPost_ret (v := .tuple #[jac 0 none 0 0 none 0 0, .int .i64 1]) (by simp [results, Try.results27, go_sem, r0, r1, r2]) rfl ?_
    exact ResJ.nil HE.out.1 HE.out.2.1 HE.out.2.2 HC.out (((hB2.setCell (by simp) _).setCell (by simp) _).setCell (by simp) _)
  have Hj := hide hj
  obtain ⟨hpr, n1, n2, n3, hx, hy⟩ := jacB_rng hj
  obtain ⟨hp, hp2⟩ := primeB_lo hpr
  rw [hl.out] at n1 n2 n3
  rw [hl2.out] at n3
  subst n3
  by_cases hr : 0 ≤ x ∧ x ≤ p - 1
  rotate_left
  · have HC := hide (show sojC p xs ys x = 2 by simp only [sojC, hj, if_true]; rw [if_neg hr])
    have HE := hide (soj_err HC.out (by decide))
    have HR := hide (show jcd p xs ys x 0 (p - 1) = 2 by simp only [jcd, hj, if_true]; rw [if_neg hr])
    clear hj hr hx hy
    go_enter Try.func27, Try.ntmps27
    go_wp2_with fail
    refine (l08Code_one _ _ _ _ _ _ _ _ _ _ _ 2 _ _ k1 k2 gx hn hm HR.out).mono ?_
    rintro e w2 ⟨rfl, hb1⟩
    have f0 : w2.cell? ⟨w.heap.size, 0, none⟩ = some (.int .i64 p) := cell_be hb1 (by simp [go_sem])
    have f1 : w2.cell? ⟨w.heap.size, 1, none⟩ = some (.slice a m c) := cell_be hb1 (by simp [go_sem])
    have f2 : w2.cell? ⟨w.heap.size, 2, none⟩ = some (.slice b m d) := cell_be hb1 (by simp [go_sem])
    have r0 : w2.cell? ⟨w.heap.size + 1, 0, none⟩ = some (.int .i64 0) := cell_be hb1 (by simp [go_sem])
    have r1 : w2.cell? ⟨w.heap.size + 1, 1, none⟩ = some (.slice none 0 0) := cell_be hb1 (by simp [go_sem])
    have r2 : w2.cell? ⟨w.heap.size + 1, 2, none⟩ = some (.slice none 0 0) := cell_be hb1 (by simp [go_sem])
    have y0 : w2.frozen? ⟨w.heap.size + 1, 0, none⟩ = false := (hb1.frozen (by simp)).trans (by simp [go_sem])
    have y1 : w2.frozen? ⟨w.heap.size + 1, 1, none⟩ = false := (hb1.frozen (by simp)).trans (by simp [go_sem])
    have y2 : w2.frozen? ⟨w.heap.size + 1, 2, none⟩ = false := (hb1.frozen (by simp)).trans (by simp [go_sem])
    have hB2 := bnext hb02 hb1
    go_wp2
    refine bodyPost_ret (v := .tuple #[jac 0 none 0 0 none 0 0, .int .i64 2]) (by simp [results, Try.results27, go_sem, r0, r1, r2]) rfl ?_
    exact ResJ.nil HE.out.1 HE.out.2.1 HE.out.2.2 HC.out (((hB2.setCell (by simp) _).setCell (by simp) _).setCell (by simp) _)
  have HR := hide (show jcd p xs ys x 0 (p - 1) = 0 by simp only [jcd, hj, if_true]; rw [if_pos hr])
  have HCC := hide (show sojC p xs ys x = if stOk p xs ys x m then 0 else 5 by simp only [sojC, hj, if_true, hl.out]; rw [if_pos hr])
  obtain ⟨x0, x1⟩ := hr
  clear hj hx hy hpr
  go_enter Try.func27, Try.ntmps27
  go_wp2_with fail
  refine (l08Code_one _ _ _ _ _ _ _ _ _ _ _ 0 _ _ k1 k2 gx hn hm HR.out).mono ?_
  rintro e w1 ⟨rfl, hb1⟩
  have f0 : w1.cell? ⟨w.heap.size, 0, none⟩ = some (.int .i64 p) := cell_be hb1 (by simp [go_sem])
  have f1 : w1.cell? ⟨w.heap.size, 1, none⟩ = some (.slice a m c) := cell_be hb1 (by simp [go_sem])
  have f2 : w1.cell? ⟨w.heap.size, 2, none⟩ = some (.slice b m d) := cell_be hb1 (by simp [go_sem])
  have r0 : w1.cell? ⟨w.heap.size + 1, 0, none⟩ = some (.int .i64 0) := cell_be hb1 (by simp [go_sem])
  have r1 : w1.cell? ⟨w.heap.size + 1, 1, none⟩ = some (.slice none 0 0) := cell_be hb1 (by simp [go_sem])
  have r2 : w1.cell? ⟨w.heap.size + 1, 2, none⟩ = some (.slice none 0 0) := cell_be hb1 (by simp [go_sem])
  have y0 : w1.frozen? ⟨w.heap.size + 1, 0, none⟩ = false := (hb1.frozen (by simp)).trans (by simp [go_sem])
  have y1 : w1.frozen? ⟨w.heap.size + 1, 1, none⟩ = false := (hb1.frozen (by simp)).trans (by simp [go_sem])
  have y2 : w1.frozen? ⟨w.heap.size + 1, 2, none⟩ = false := (hb1.frozen (by simp)).trans (by simp [go_sem])
  have hB1 := bnext hb02 hb1
  have z1 := hb1.size
  simp at z1
  go_wp2_with fail
  refine (l08Step_any p _ _ _ xs _ _ ys x _ (k1.below hb1) (k2.below hb1) Hj.out x0 x1).mono ?_
  rintro e w2 ⟨hb2, a', na, c', b', nb, d', rfl, hok⟩
  have hB2 := bnext hB1 hb2
  replace y0 := (hb2.frozen (World.block_lt_of_cell? _ _ r0)).trans y0
  replace y1 := (hb2.frozen (World.block_lt_of_cell? _ _ r1)).trans y1
  replace y2 := (hb2.frozen (World.block_lt_of_cell? _ _ r2)).trans y2
  replace f0 := cell_be hb2 f0
  replace f1 := cell_be hb2 f1
  replace f2 := cell_be hb2 f2
  replace r0 := cell_be hb2 r0
  replace r1 := cell_be hb2 r1
  replace r2 := cell_be hb2 r2
  have z2 := hb2.size
  have t3 := bl1 w2 (.cells #[.int .i64 p, .slice a' na c', .slice b' nb d'] 38)
  replace y0 := (t3.frozen (World.block_lt_of_cell? _ _ r0)).trans y0
  replace y1 := (t3.frozen (World.block_lt_of_cell? _ _ r1)).trans y1
  replace y2 := (t3.frozen (World.block_lt_of_cell? _ _ r2)).trans y2
  replace f0 := cell_be t3 f0
  replace f1 := cell_be t3 f1
  replace f2 := cell_be t3 f2
  replace r0 := cell_be t3 r0
  replace r1 := cell_be t3 r1
  replace r2 := cell_be t3 r2
  have hB3 := bnext hB2 t3
  have q0 : (w2.alloc (.cells #[.int .i64 p, .slice a' na c', .slice b' nb d'] 38)).cell? ⟨w2.heap.size, 0, none⟩ = some (.int .i64 p) := by simp [go_sem]
  have q1 : (w2.alloc (.cells #[.int .i64 p, .slice a' na c', .slice b' nb d'] 38)).cell? ⟨w2.heap.size, 1, none⟩ = some (.slice a' na c') := by simp [go_sem]
  have q2 : (w2.alloc (.cells #[.int .i64 p, .slice a' na c', .slice b' nb d'] 38)).cell? ⟨w2.heap.size, 2, none⟩ = some (.slice b' nb d') := by simp [go_sem]
  cases ho : stOk p xs ys x m
  · have HC := hide (show sojC p xs ys x = 5 by rw [HCC.out, ho]; rfl)
    have HE := hide (soj_err HC.out (by decide))
    clear hok ho
    go_wp2
    refine bodyPost_ret (v := .tuple #[jac 0 none 0 0 none 0 0, .int .i64 5]) (by simp [results, Try.results27, go_sem, r0, r1, r2]) rfl ?_
    exact ResJ.nil HE.out.1 HE.out.2.1 HE.out.2.2 HC.out (((hB3.setCell (by simp) _).setCell (by simp) _).setCell (by simp) _)
  have HC := hide (show sojC p xs ys x = 0 by rw [HCC.out, ho]; rfl)
  have HV := hide (show sojV p xs ys x = tab (m - 1) (stA p xs ys x) by rw [sojV, if_pos HC.out, hl.out])
  have HU := hide (show sojU p xs ys x = tab (m - 1) (stB p xs ys x) by rw [sojU, if_pos HC.out, hl.out])
  have HQ := hide (show sojP p xs ys x = p by rw [sojP, if_pos HC.out])
  obtain ⟨rfl, rfl, jz⟩ := hok ho
  clear ho hok
  have jzb := jz.below t3
  obtain ⟨r, hr⟩ : ∃ r, m - 1 = r := ⟨_, rfl⟩
  have hrl : r ≤ 12 := by omega
  rw [hr] at jzb HV HU t3 r0 r1 r2 y0 y1 y2 q0 q1 q2 hB3 ⊢
  clear hr jz f0 f1 f2
  go_wp2
  refine bodyPost_ret (v := .tuple #[jac p a' r c' b' r d', .int .i64 0]) (by simp [results, Try.results27, go_sem, r0, r1, r2]) rfl ?_
  have jz2 := ((jzb.setLow (x := ⟨w.heap.size + 1, 0, none⟩) (by simp; omega) (.int .i64 p)).setLow (x := ⟨w.heap.size + 1, 1, none⟩) (by simp; omega) (.slice a' r c')).setLow (x := ⟨w.heap.size + 1, 2, none⟩) (by simp; omega) (.slice b' r d')
  exact ResJ.mk HQ.out HC.out (by rw [HV.out, tab_len]) (by rw [HU.out, tab_len]) (by rw [HV.out, HU.out]; simpa using jz2.mono (lo' := w.heap.size) (hi' := w2.heap.size + 1) (by omega) (by omega)) (by rw [HV.out, tab_len]; omega) (by rw [HU.out, tab_len]; omega) (((hB3.setCell (by simp) _).setCell (by simp) _).setCell (by simp) _)
end Go.Proofs.Ytllcgoachgfpjaa
