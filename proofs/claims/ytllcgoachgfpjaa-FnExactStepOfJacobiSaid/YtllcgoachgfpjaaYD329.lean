/- Merged texts. -/
import Derived.Test.YtllcgoachgfpjaaYD327
import Derived.Deep.MidRow
import Derived.Laws.Cover3
import Derived.Test.YtllcgoachgfpjaaYD322
import Derived.Test.YtllcgoachgfpjaaYD320
/- Contracts: pairAt, dataOfPairs (program). -/
namespace Go.Proofs.Ytllcgoachgfpjaa
open Go.RowKit
set_option linter.unusedVariables false
set_option linter.unusedSimpArgs false

set_option maxRecDepth 100000 in
set_option maxHeartbeats 1600000 in
theorem pairAt_any (b off n c : Nat) (T : List Int) (k : Nat) (x y : Int) (w : World) (hs : SL w (some ⟨b, off, none⟩) n c T) (hk : k + 2 ≤ n) (hn : n ≤ 100) (hx : T.getD k 0 = x) (hy : T.getD (k + 1) 0 = y) :
    Calls Try.prog 104 #[.slice (some ⟨b, off, none⟩) n c, .int .i64 k] w fun e w' => e = .returned (.agg #[.int .i64 x, .int .i64 y]) ∧ Below w.heap.size w w' := by
  have hcap := hs.le
  have hb0 := bl1 w (.cells #[.int .i64 0, .int .i64 0] 110)
  obtain ⟨b', off', he, hbw, hcc⟩ := hs.at (show 0 < n by omega)
  cases he
  have e1 := cell_be hb0 (hcc k (by omega))
  have e2 := cell_be hb0 (hcc (k + 1) (by omega))
  rw [hx] at e1
  rw [hy] at e2
  have vk : IntKind.i64.wrap ((k : Int) + 2) = (k : Int) + 2 := IntWalk.i64_in _ (by omega)
  have k0 : (0 : Int) ≤ (k : Int) := by omega
  have k1 : (k : Int) ≤ (k : Int) + 2 := by omega
  have k2 : (k : Int) + 2 ≤ (c : Int) := by omega
  have k3 : ((k : Int) + 2).toNat = k + 2 := by omega
  have k4 : ¬ c = k := by omega
  have hA : ∀ W : World, (Instr.arrayAt 110 (.slice (some ⟨b, off + k, none⟩) 2 (c - k))).run Try.prog W = .ok (.pointer (some ⟨b, off + k, none⟩)) W := fun W => by simp [Instr.arrayAt, run_underlying Try.underlying110]
  have e3 : (w.alloc (.cells #[.int .i64 0, .int .i64 0] 110)).cell? ⟨b, off + k + 1, none⟩ = some (.int .i64 y) := e2
  clear hs hx hy hcc
  go_enter Try.func104, Try.ntmps104
  go_wp2
  refine bodyPost_ret (v := .agg #[.int .i64 x, .int .i64 y]) (by simp [results, Try.results104, go_sem]) rfl ?_
  exact ⟨rfl, bl1 _ _⟩
theorem pairAt_v (kk : Int) (k : Nat) (hkk : kk = (k : Int)) (b off n c : Nat) (T : List Int) (x y : Int) (w : World) (hs : SL w (some ⟨b, off, none⟩) n c T) (hk : k + 2 ≤ n) (hn : n ≤ 100) (hx : T.getD k 0 = x) (hy : T.getD (k + 1) 0 = y) :
    Calls Try.prog 104 #[.slice (some ⟨b, off, none⟩) n c, .int .i64 kk] w fun e w' => e = .returned (.agg #[.int .i64 x, .int .i64 y]) ∧ Below w.heap.size w w' := by
  subst hkk
  exact pairAt_any b off n c T k x y w hs hk hn hx hy
set_option maxRecDepth 100000 in
set_option maxHeartbeats 6400000 in
theorem dataOfPairs_any (p : Int) (b off n c r : Nat) (T : List Int) (w : World) (hs : SL w (some ⟨b, off, none⟩) n c T) (hr : n = 2 * r + 1) (r1 : 1 ≤ r) (r2 : r ≤ 12) (hp : 2 ≤ p) (hp2 : p ≤ 10007) (hT : areB p T = true) :
    Calls Try.prog 75 #[.int .i64 p, .slice (some ⟨b, off, none⟩) n c] w fun e w' => ∃ a' c' b' d', e = .returned (jac p a' r c' b' r d') ∧ JZ w.heap.size w'.heap.size w' a' r c' (tab r (dpA p T)) b' r d' (tab r (dpB p T)) ∧ Below w.heap.size w w' := by
  have HT := hide hT
  have Hr := hide hr
  have hb0 := bl2 w (.cells #[.int .i64 0, .slice none 0 0, .slice none 0 0] 38) (.cells #[.int .i64 p, .slice none 0 0, .slice none 0 0] 38)
  obtain ⟨w2, hw2⟩ : ∃ w2, w2 = (w.alloc (.cells #[.int .i64 0, .slice none 0 0, .slice none 0 0] 38)).alloc (.cells #[.int .i64 p, .slice none 0 0, .slice none 0 0] 38) := ⟨_, rfl⟩
  have r0 : w2.cell? ⟨w.heap.size, 0, none⟩ = some (.int .i64 0) := by rw [hw2]; simp [go_sem]
  have r1' : w2.cell? ⟨w.heap.size, 1, none⟩ = some (.slice none 0 0) := by rw [hw2]; simp [go_sem]
  have r2' : w2.cell? ⟨w.heap.size, 2, none⟩ = some (.slice none 0 0) := by rw [hw2]; simp [go_sem]
  have y0 : w2.frozen? ⟨w.heap.size, 0, none⟩ = false := by rw [hw2]; simp [go_sem]
  have y1 : w2.frozen? ⟨w.heap.size, 1, none⟩ = false := by rw [hw2]; simp [go_sem]
  have y2 : w2.frozen? ⟨w.heap.size, 2, none⟩ = false := by rw [hw2]; simp [go_sem]
  have hJ0 : Hid (JS (w.heap.size + 1) (w.heap.size + 1) w2 p none 0 (tab 0 (dpA p T)) none 0 (tab 0 (dpB p T))) := hide ⟨Own.nil _ _, Own.nil _ _, ⟨by simp [blk], by simp [blk], fun g h => by cases h⟩, ⟨by rw [hw2]; simp [go_sem], by rw [hw2]; simp [go_sem]; rfl, by rw [hw2]; simp [go_sem]; rfl⟩, ⟨by rw [hw2]; simp [go_sem], by rw [hw2]; simp [go_sem]⟩, by omega⟩
  have z2 : w.heap.size + 1 + 1 ≤ w2.heap.size := by rw [hw2]; simp
  have hW0 : Hid (Below (w.heap.size + 1) w2 w2) := hide (Below.refl _ _)
  rw [← hw2] at hb0
  obtain ⟨qq, hqq⟩ : ∃ qq, qq = w.heap.size + 1 := ⟨_, rfl⟩
  clear hT hr
  go_enter Try.func75, Try.ntmps75
  go_wp2
  rw [← hw2]
  clear hw2
  rw [← hqq] at hJ0 hW0 ⊢
  have zq : w.heap.size < qq := by omega
  have zq2 : qq < w2.heap.size := by omega
  clear hqq
  go_loopw [6] (fun kv wr => ∃ (i ca cb : Nat) (a' b' : Option Addr), i ≤ r ∧ kv = .int .i64 (2 * (i : Int)) ∧ Hid (JS qq qq wr p a' ca (tab i (dpA p T)) b' cb (tab i (dpB p T))) ∧ Hid (Below qq w2 wr)) (fun kv _ => 2 * r + 2 - (intOf kv).toNat)
  case atStart => exact ⟨0, 0, 0, none, none, by omega, rfl, hJ0, hW0⟩
  case round =>
    obtain ⟨i, ca, cb, a', b', hi, rfl, hJ, hW⟩ := hrel
    clear hJ0 hW0
    have zw := hW.out.size
    have v0 : IntKind.i64.wrap (2 * (i : Int) + 2) = 2 * (i : Int) + 2 := IntWalk.i64_in _ (by omega)
    have v1 : IntKind.i64.wrap (2 * (i : Int) + 1) = 2 * (i : Int) + 1 := IntWalk.i64_in _ (by omega)
    by_cases hir : i = r
    · have hge : ¬ 2 * (i : Int) + 2 < (n : Int) := by have := Hr.out; omega
      obtain ⟨us, hus⟩ : ∃ us, tab i (dpA p T) = us := ⟨_, rfl⟩
      obtain ⟨vs, hvs⟩ : ∃ vs, tab i (dpB p T) = vs := ⟨_, rfl⟩
      have hul := hide (show us.length = r by rw [← hus, tab_len, hir])
      have hvl := hide (show vs.length = r by rw [← hvs, tab_len, hir])
      have HA := hide (show tab r (dpA p T) = us by rw [← hus, hir])
      have HB := hide (show tab r (dpB p T) = vs by rw [← hvs, hir])
      rw [hus, hvs] at hJ
      have jz := hJ.out.jz (by rw [hul.out]; omega)
      have c0 := hJ.out.c0
      have c1 := hJ.out.c1
      have c2 := hJ.out.c2
      replace r0 := (hW.out.cell (p := ⟨w.heap.size, 0, none⟩) zq).trans r0
      replace r1' := (hW.out.cell (p := ⟨w.heap.size, 1, none⟩) zq).trans r1'
      replace r2' := (hW.out.cell (p := ⟨w.heap.size, 2, none⟩) zq).trans r2'
      replace y0 := (hW.out.frozen (p := ⟨w.heap.size, 0, none⟩) zq).trans y0
      replace y1 := (hW.out.frozen (p := ⟨w.heap.size, 1, none⟩) zq).trans y1
      replace y2 := (hW.out.frozen (p := ⟨w.heap.size, 2, none⟩) zq).trans y2
      have hBw := hb0.trans (hW.out.mono (by omega))
      clear hus hvs hir v1
      go_wp2
      refine bodyPost_ret (v := jac p a' us.length ca b' vs.length cb) (by simp [results, Try.results75, go_sem, r0, r1', r2']) rfl ?_
      have jz2 := ((jz.setLow (x := ⟨w.heap.size, 0, none⟩) zq (.int .i64 p)).setLow (x := ⟨w.heap.size, 1, none⟩) zq (.slice a' us.length ca)).setLow (x := ⟨w.heap.size, 2, none⟩) zq (.slice b' vs.length cb)
      have jz3 := jz2.mono (lo' := w.heap.size) (hi' := wr.heap.size) (by omega) (Nat.le_refl _)
      refine ⟨a', ca, b', cb, by rw [hul.out, hvl.out], ?_, ((hBw.setCell (by simp) _).setCell (by simp) _).setCell (by simp) _⟩
      rw [HA.out, HB.out]
      rw [hul.out, hvl.out] at jz3 ⊢
      simpa using jz3
    have hir' : i < r := by omega
    have hlt : 2 * (i : Int) + 2 < (n : Int) := by have := Hr.out; omega
    have hstA := hide (show tab (i + 1) (dpA p T) = tab i (dpA p T) ++ [(T.getD (2 * i + 1) 0 + T.getD (2 * i + 2) 0) % p] from (tab_snoc i (dpA p T)).symm)
    have hstB := hide (show tab (i + 1) (dpB p T) = tab i (dpB p T) ++ [T.getD (2 * i) 0 * T.getD (2 * i + 1) 0 % p] from (tab_snoc i (dpB p T)).symm)
    have g0 := getD_rng HT.out hp (2 * i)
    have g1 := getD_rng HT.out hp (2 * i + 1)
    have g2 := getD_rng HT.out hp (2 * i + 2)
    obtain ⟨X, hX⟩ : ∃ X, T.getD (2 * i) 0 = X := ⟨_, rfl⟩
    obtain ⟨Y, hY⟩ : ∃ Y, T.getD (2 * i + 1) 0 = Y := ⟨_, rfl⟩
    obtain ⟨Z, hZ⟩ : ∃ Z, T.getD (2 * i + 2) 0 = Z := ⟨_, rfl⟩
    have HX := hide hX
    have HY := hide hY
    have HZ := hide hZ
    rw [hX] at g0 hstB
    rw [hY] at g1 hstA hstB
    rw [hZ] at g2 hstA
    obtain ⟨m1, m2⟩ := mulb g0.1 g0.2 g1.1 g1.2 hp2
    have v2 : IntKind.i64.wrap (X * Y) = X * Y := IntWalk.i64_in _ (by omega)
    have v3 : (X * Y).tmod p = X * Y % p := Int.tmod_eq_emod_of_nonneg m1
    have rB := modb (x := X * Y) hp
    obtain ⟨Z2, hZ2⟩ : ∃ Z2, X * Y % p = Z2 := ⟨_, rfl⟩
    rw [hZ2] at v3 rB hstB
    have v4 : IntKind.i64.wrap Z2 = Z2 := IntWalk.i64_in _ (by omega)
    have v5 : IntKind.i64.wrap (Y + Z) = Y + Z := IntWalk.i64_in _ (by omega)
    have v6 : (Y + Z).tmod p = (Y + Z) % p := Int.tmod_eq_emod_of_nonneg (by omega)
    have rA := modb (x := Y + Z) hp
    obtain ⟨Z1, hZ1⟩ : ∃ Z1, (Y + Z) % p = Z1 := ⟨_, rfl⟩
    rw [hZ1] at v6 rA hstA
    have v7 : IntKind.i64.wrap Z1 = Z1 := IntWalk.i64_in _ (by omega)
    have hp0 : ¬ p = 0 := by omega
    obtain ⟨us, hus⟩ : ∃ us, tab i (dpA p T) = us := ⟨_, rfl⟩
    obtain ⟨vs, hvs⟩ : ∃ vs, tab i (dpB p T) = vs := ⟨_, rfl⟩
    have hul := hide (show us.length = i by rw [← hus, tab_len])
    have hvl := hide (show vs.length = i by rw [← hvs, tab_len])
    have huk : us.length ≤ 12 := by have := hul.out; omega
    have hvk : vs.length ≤ 12 := by have := hvl.out; omega
    rw [hus] at hJ hstA
    rw [hvs] at hJ hstB
    have hsr := hs.below (hb0.trans (hW.out.mono (by omega)))
    have hn13 : n ≤ 100 := by have := Hr.out; omega
    have hq1 : 2 * i + 2 ≤ n := by have := Hr.out; omega
    have hq2 : 2 * i + 1 + 2 ≤ n := by have := Hr.out; omega
    clear hX hY hZ hZ1 hZ2 hus hvs hir
    go_wp2_with fail
    refine (pairAt_v (2 * (i : Int)) (2 * i) (by omega) b off n c T X Y _ hsr hq1 hn13 HX.out HY.out).mono ?_
    rintro e w3 ⟨rfl, t3⟩
    go_wp2_with fail
    refine (pairAt_v (2 * (i : Int) + 1) (2 * i + 1) (by omega) b off n c T Y Z _ (hsr.below t3) hq2 hn13 HY.out HZ.out).mono ?_
    rintro e w4 ⟨rfl, t4⟩
    have t5 := bl2 w4 (.cells #[.int .i64 X, .int .i64 Y] 110) (.cells #[.int .i64 Y, .int .i64 Z] 110)
    have hB34 := bnext t3 t4
    have hB5 := bnext hB34 t5
    have hJ4 := hJ.out.below hB34
    have z4 := hB34.size
    have ltA := own_blk_lt hJ4.oA
    have ltB := own_blk_lt hJ4.oB
    have hqw' := hJ.out.hi
    go_upto_region 6 with fail
    obtain ⟨w5, hw5⟩ : ∃ w5, w5 = (w4.alloc (.cells #[.int .i64 X, .int .i64 Y] 110)).alloc (.cells #[.int .i64 Y, .int .i64 Z] 110) := ⟨_, rfl⟩
    have a0 : w5.cell? ⟨w4.heap.size, 0, none⟩ = some (.int .i64 X) := by rw [hw5]; simp [go_sem]
    have a1 : w5.cell? ⟨w4.heap.size, 1, none⟩ = some (.int .i64 Y) := by rw [hw5]; simp [go_sem]
    have a2 : w5.cell? ⟨w4.heap.size + 1, 0, none⟩ = some (.int .i64 Y) := by rw [hw5]; simp [go_sem]
    have a3 : w5.cell? ⟨w4.heap.size + 1, 1, none⟩ = some (.int .i64 Z) := by rw [hw5]; simp [go_sem]
    have z5 : w4.heap.size + 1 + 1 = w5.heap.size := by rw [hw5]; simp
    rw [← hw5] at t5 hB5 ⊢
    have HJ5 : Hid (JS qq qq w5 p a' ca us b' cb vs) := hide (hJ4.below t5)
    have HW5 : Hid (Below qq w2 w5) := hide (hW.out.trans (hB5.mono (by omega)))
    obtain ⟨g7, hg7⟩ : ∃ g7, g7 = w4.heap.size := ⟨_, rfl⟩
    obtain ⟨g8, hg8⟩ : ∃ g8, g8 = w4.heap.size + 1 := ⟨_, rfl⟩
    rw [← hg8] at a2 a3 ⊢
    rw [← hg7] at a0 a1 ⊢
    have ltA7 : ∀ g, blk a' = some g → g < g7 := by rw [hg7]; exact ltA
    have ltB7 : ∀ g, blk b' = some g → g < g7 := by rw [hg7]; exact ltB
    have h78 : g7 < g8 := by omega
    have h8q : qq < g7 := by omega
    clear hw5 hg7 hg8 hJ hW hJ4 ltA ltB z5 hB34 t3 t4 t5 hsr hB5
    have J0 := HJ5.out
    have hbd := (Below.refl w5.heap.size w5).drew
    have hba : Below w5.heap.size w5 ((w5.alloc (.cells #[.int .i64 Z2] 2)).drew) := (bl1 w5 _).drew
    have JA := J0.below hba
    have hOa := hide JA.oB
    have hcl : ((w5.alloc (.cells #[.int .i64 Z2] 2)).drew).cell? ⟨w5.heap.size, 0, none⟩ = some (.int .i64 Z2) := by simp [go_sem]
    have hsz := HW5.out.size
    have hqw := J0.hi
    have hlo := J0.lo
    refine region_E (fun v => v.cell? ⟨qq, 2, none⟩ = some (.slice b' vs.length cb) ∧ v.cell? ⟨g7, 0, none⟩ = some (.int .i64 X) ∧ v.cell? ⟨g7, 1, none⟩ = some (.int .i64 Y) ∧ v.cell? ⟨g8, 0, none⟩ = some (.int .i64 Y) ∧ v.cell? ⟨g8, 1, none⟩ = some (.int .i64 Z)) 12 (by kernel_rfl) ⟨cell_be hbd J0.c2, cell_be hbd a0, cell_be hbd a1, cell_be hbd a2, cell_be hbd a3⟩ ?_
    intro hS
    refine anyE_takeL 0 rfl (by kernel_rfl) (fun _ _ _ h => h) hS (by rfl) (v := ?_) ?_ ?_
    rotate_left
    · intro w' hSw; (try dsimp only at hSw); go_simp; (try with_reducible rfl)
    try simp only [Act.put, List.setIfInBounds_toArray, List.set_cons_zero, List.set_cons_succ]
    refine anyE_takeL 1 rfl (by kernel_rfl) (fun _ _ _ h => h) hS (by rfl) (v := ?_) ?_ ?_
    rotate_left
    · intro w' hSw; (try dsimp only at hSw); go_simp; (try with_reducible rfl)
    try simp only [Act.put, List.setIfInBounds_toArray, List.set_cons_zero, List.set_cons_succ]
    refine anyE_takeL 2 rfl (by kernel_rfl) (fun _ _ _ h => h) hS (by rfl) (v := ?_) ?_ ?_
    rotate_left
    · intro w' hSw; (try dsimp only at hSw); go_simp; (try with_reducible rfl)
    try simp only [Act.put, List.setIfInBounds_toArray, List.set_cons_zero, List.set_cons_succ]
    refine anyE_takeL 3 rfl (by kernel_rfl) (fun _ _ _ h => h) hS (by rfl) (v := ?_) ?_ ?_
    rotate_left
    · intro w' hSw; (try dsimp only at hSw); go_simp; (try with_reducible rfl)
    try simp only [Act.put, List.setIfInBounds_toArray, List.set_cons_zero, List.set_cons_succ]
    refine anyE_takeL 4 rfl (by kernel_rfl) (fun _ _ _ h => h) hS (by rfl) (v := ?_) ?_ ?_
    rotate_left
    · intro w' hSw; (try dsimp only at hSw); go_simp; (try with_reducible rfl)
    try simp only [Act.put, List.setIfInBounds_toArray, List.set_cons_zero, List.set_cons_succ]
    refine anyE_takeL 5 rfl (by kernel_rfl) (fun _ _ _ h => h) hS (by rfl) (v := ?_) ?_ ?_
    rotate_left
    · intro w' hSw; (try dsimp only at hSw); go_simp; (try with_reducible rfl)
    try simp only [Act.put, List.setIfInBounds_toArray, List.set_cons_zero, List.set_cons_succ]
    refine anyE_takeL 6 rfl (by kernel_rfl) (fun _ _ _ h => h) hS (by rfl) (v := ?_) ?_ ?_
    rotate_left
    · intro w' hSw; (try dsimp only at hSw); go_simp; (try with_reducible rfl)
    try simp only [Act.put, List.setIfInBounds_toArray, List.set_cons_zero, List.set_cons_succ]
    refine anyE_takeL 7 rfl (by kernel_rfl) (fun _ _ _ h => h) hS (by rfl) (v := ?_) ?_ ?_
    rotate_left
    · intro w' hSw; (try dsimp only at hSw); go_simp; (try with_reducible rfl)
    try simp only [Act.put, List.setIfInBounds_toArray, List.set_cons_zero, List.set_cons_succ]
    refine anyE_takeL 8 rfl (by kernel_rfl) (fun _ _ _ h => h) hS (by rfl) (v := ?_) ?_ ?_
    rotate_left
    · intro w' hSw; (try dsimp only at hSw); go_simp; (try with_reducible rfl)
    try simp only [Act.put, List.setIfInBounds_toArray, List.set_cons_zero, List.set_cons_succ]
    clear hS
    refine anyE_oneL 9 (by kernel_rfl) rfl (fun K hK => ?_)
    go_simp
    have S1 := And.intro (JA.c2) (And.intro (cell_be hba a0) (And.intro (cell_be hba a1) (And.intro (cell_be hba a2) (cell_be hba a3))))
    refine hK.out _ _ S1 ?_
    clear hK K
    try simp only [Act.put, List.setIfInBounds_toArray, List.set_cons_zero, List.set_cons_succ]
    refine anyE_oneL 10 (by kernel_rfl) rfl (fun K hK => ?_)
    refine step_app1 (by rfl) _ _ (by rfl) qq _ _ _ vs (by rfl) rfl hOa.out _ _ Z2 (by rfl) hcl (by omega) (by first | omega | (simp; omega)) ?_
    intro ad' cap' v' hown' hgr hloc
    have hge := own_blk_ge hOa.out
    have s1' := cell_ne hgr JA.c2 JA.2.2.1.2.1
    have sf' := frz_ne hgr JA.c2 JA.z2 JA.2.2.1.2.1
    have S2 := And.intro (s1') (And.intro (cell_ne hgr S1.2.1 (fun e => by have := hge _ e; have := ltB7 _ e; omega)) (And.intro (cell_ne hgr S1.2.2.1 (fun e => by have := hge _ e; have := ltB7 _ e; omega)) (And.intro (cell_ne hgr S1.2.2.2.1 (fun e => by have := hge _ e; have := ltB7 _ e; omega)) (cell_ne hgr S1.2.2.2.2 (fun e => by have := hge _ e; have := ltB7 _ e; omega)))))
    refine hK.out _ _ S2 ?_
    clear hK K
    try simp only [Act.put, List.setIfInBounds_toArray, List.set_cons_zero, List.set_cons_succ]
    refine anyE_takeL 11 rfl (by kernel_rfl) (fun _ _ _ h => h) S2 (by rfl) (v := ?_) ?_ ?_
    rotate_left
    · intro w' hSw; (try dsimp only at hSw); go_simp; (try with_reducible rfl)
    try simp only [Act.put, List.setIfInBounds_toArray, List.set_cons_zero, List.set_cons_succ]
    have b20 := S2.2.2.2.1
    have b30 := S2.2.2.2.2
    clear S1 S2
    refine anyE_lastL (by kernel_rfl) rfl (by kernel_rfl) (fun K hK => ?_)
    go_simp
    refine hK.out _ _ ?_
    clear hK K
    try simp only [Act.put, List.setIfInBounds_toArray, List.set_cons_zero, List.set_cons_succ]
    have J6 := hide (J0.pushB hown' hgr hloc)
    have W6 := hide (below_push HW5.out (by omega) hgr (own_blk_ge hOa.out) J0.lo (k := 2) (.slice ad' (vs.length + 1) cap'))
    obtain ⟨w6, hw6⟩ : ∃ w6, w6 = v'.setCell ⟨qq, 2, none⟩ (.slice ad' (vs.length + 1) cap') := ⟨_, rfl⟩
    have b2 := cell_set2 b20 (show qq ≠ g8 by omega) (.slice ad' (vs.length + 1) cap') (a := ⟨qq, 2, none⟩)
    have b3 := cell_set2 b30 (show qq ≠ g8 by omega) (.slice ad' (vs.length + 1) cap') (a := ⟨qq, 2, none⟩)
    rw [← hw6] at J6 W6 b2 b3 ⊢
    clear hw6 hgr hown' hloc hOa hba hcl hbd J0 JA s1' sf' hge hsz hqw hlo
    have J7 : Hid (JS qq qq w6 p a' ca us ad' cap' (tab (i + 1) (dpB p T))) := hide (by rw [hstB.out]; exact J6.out)
    obtain ⟨vs2, hvs2⟩ : ∃ vs2, tab (i + 1) (dpB p T) = vs2 := ⟨_, rfl⟩
    have HV2 := hide hvs2
    rw [hvs2] at J7
    clear hvs2
    go_upto_region 7 with fail
    have J0 := J7.out
    have hbd := (Below.refl w6.heap.size w6).drew
    have hba : Below w6.heap.size w6 ((w6.alloc (.cells #[.int .i64 Z1] 2)).drew) := (bl1 w6 _).drew
    have JA := J0.below hba
    have hOa := hide JA.oA
    have hcl : ((w6.alloc (.cells #[.int .i64 Z1] 2)).drew).cell? ⟨w6.heap.size, 0, none⟩ = some (.int .i64 Z1) := by simp [go_sem]
    have hsz := W6.out.size
    have hqw := J0.hi
    have hlo := J0.lo
    refine region_E (fun v => v.cell? ⟨qq, 1, none⟩ = some (.slice a' us.length ca) ∧ v.cell? ⟨g8, 0, none⟩ = some (.int .i64 Y) ∧ v.cell? ⟨g8, 1, none⟩ = some (.int .i64 Z)) 12 (by kernel_rfl) ⟨cell_be hbd J0.c1, cell_be hbd b2, cell_be hbd b3⟩ ?_
    intro hS
    refine anyE_takeL 0 rfl (by kernel_rfl) (fun _ _ _ h => h) hS (by rfl) (v := ?_) ?_ ?_
    rotate_left
    · intro w' hSw; (try dsimp only at hSw); go_simp; (try with_reducible rfl)
    try simp only [Act.put, List.setIfInBounds_toArray, List.set_cons_zero, List.set_cons_succ]
    refine anyE_takeL 1 rfl (by kernel_rfl) (fun _ _ _ h => h) hS (by rfl) (v := ?_) ?_ ?_
    rotate_left
    · intro w' hSw; (try dsimp only at hSw); go_simp; (try with_reducible rfl)
    try simp only [Act.put, List.setIfInBounds_toArray, List.set_cons_zero, List.set_cons_succ]
    refine anyE_takeL 2 rfl (by kernel_rfl) (fun _ _ _ h => h) hS (by rfl) (v := ?_) ?_ ?_
    rotate_left
    · intro w' hSw; (try dsimp only at hSw); go_simp; (try with_reducible rfl)
    try simp only [Act.put, List.setIfInBounds_toArray, List.set_cons_zero, List.set_cons_succ]
    refine anyE_takeL 3 rfl (by kernel_rfl) (fun _ _ _ h => h) hS (by rfl) (v := ?_) ?_ ?_
    rotate_left
    · intro w' hSw; (try dsimp only at hSw); go_simp; (try with_reducible rfl)
    try simp only [Act.put, List.setIfInBounds_toArray, List.set_cons_zero, List.set_cons_succ]
    refine anyE_takeL 4 rfl (by kernel_rfl) (fun _ _ _ h => h) hS (by rfl) (v := ?_) ?_ ?_
    rotate_left
    · intro w' hSw; (try dsimp only at hSw); go_simp; (try with_reducible rfl)
    try simp only [Act.put, List.setIfInBounds_toArray, List.set_cons_zero, List.set_cons_succ]
    refine anyE_takeL 5 rfl (by kernel_rfl) (fun _ _ _ h => h) hS (by rfl) (v := ?_) ?_ ?_
    rotate_left
    · intro w' hSw; (try dsimp only at hSw); go_simp; (try with_reducible rfl)
    try simp only [Act.put, List.setIfInBounds_toArray, List.set_cons_zero, List.set_cons_succ]
    refine anyE_takeL 6 rfl (by kernel_rfl) (fun _ _ _ h => h) hS (by rfl) (v := ?_) ?_ ?_
    rotate_left
    · intro w' hSw; (try dsimp only at hSw); go_simp; (try with_reducible rfl)
    try simp only [Act.put, List.setIfInBounds_toArray, List.set_cons_zero, List.set_cons_succ]
    refine anyE_takeL 7 rfl (by kernel_rfl) (fun _ _ _ h => h) hS (by rfl) (v := ?_) ?_ ?_
    rotate_left
    · intro w' hSw; (try dsimp only at hSw); go_simp; (try with_reducible rfl)
    try simp only [Act.put, List.setIfInBounds_toArray, List.set_cons_zero, List.set_cons_succ]
    refine anyE_takeL 8 rfl (by kernel_rfl) (fun _ _ _ h => h) hS (by rfl) (v := ?_) ?_ ?_
    rotate_left
    · intro w' hSw; (try dsimp only at hSw); go_simp; (try with_reducible rfl)
    try simp only [Act.put, List.setIfInBounds_toArray, List.set_cons_zero, List.set_cons_succ]
    clear hS
    refine anyE_oneL 9 (by kernel_rfl) rfl (fun K hK => ?_)
    go_simp
    have S1 := And.intro (JA.c1) (And.intro (cell_be hba b2) (cell_be hba b3))
    refine hK.out _ _ S1 ?_
    clear hK K
    try simp only [Act.put, List.setIfInBounds_toArray, List.set_cons_zero, List.set_cons_succ]
    refine anyE_oneL 10 (by kernel_rfl) rfl (fun K hK => ?_)
    refine step_app1 (by rfl) _ _ (by rfl) qq _ _ _ us (by rfl) rfl hOa.out _ _ Z1 (by rfl) hcl (by omega) (by first | omega | (simp; omega)) ?_
    intro bd' bap' v' hown' hgr hloc
    have hge := own_blk_ge hOa.out
    have s1' := cell_ne hgr JA.c1 JA.2.2.1.1
    have sf' := frz_ne hgr JA.c1 JA.z1 JA.2.2.1.1
    have S2 := And.intro (s1') (And.intro (cell_ne hgr S1.2.1 (fun e => by have := hge _ e; have := ltA7 _ e; omega)) (cell_ne hgr S1.2.2 (fun e => by have := hge _ e; have := ltA7 _ e; omega)))
    refine hK.out _ _ S2 ?_
    clear hK K
    try simp only [Act.put, List.setIfInBounds_toArray, List.set_cons_zero, List.set_cons_succ]
    refine anyE_takeL 11 rfl (by kernel_rfl) (fun _ _ _ h => h) S2 (by rfl) (v := ?_) ?_ ?_
    rotate_left
    · intro w' hSw; (try dsimp only at hSw); go_simp; (try with_reducible rfl)
    try simp only [Act.put, List.setIfInBounds_toArray, List.set_cons_zero, List.set_cons_succ]
    clear S1 S2
    refine anyE_lastL (by kernel_rfl) rfl (by kernel_rfl) (fun K hK => ?_)
    go_simp
    refine hK.out _ _ ?_
    clear hK K
    try simp only [Act.put, List.setIfInBounds_toArray, List.set_cons_zero, List.set_cons_succ]
    have J8 := hide (J0.pushA hown' hgr hloc)
    have W7 := hide (below_push W6.out (by omega) hgr (own_blk_ge hOa.out) J0.lo (k := 1) (.slice bd' (us.length + 1) bap'))
    obtain ⟨w7, hw6⟩ : ∃ w7, w7 = v'.setCell ⟨qq, 1, none⟩ (.slice bd' (us.length + 1) bap') := ⟨_, rfl⟩
    rw [← hw6] at J8 W7 ⊢
    clear hw6 hgr hown' hloc hOa hba hcl hbd J0 JA s1' sf' hge hsz hqw hlo
    have J9 : Hid (JS qq qq w7 p bd' bap' (tab (i + 1) (dpA p T)) ad' cap' (tab (i + 1) (dpB p T))) := hide (by rw [hstA.out, HV2.out]; exact J8.out)
    go_wp2
    go_roundw
    case rel => exact ⟨i + 1, bap', cap', bd', ad', by omega, by go_num, J9, W7⟩
    case measure => simp [intOf]; omega
end Go.Proofs.Ytllcgoachgfpjaa
/- An append of many numbers onto an owned list, with what stays; regions in which two or three operations may come up. -/
namespace Go.Proofs.Ytllcgoachgfpjaa
open Go.RowKit
set_option linter.unusedVariables false
set_option linter.unusedSimpArgs false

set_option maxRecDepth 100000 in
theorem op_appG {w : World} {o : Oper} {a : Act} {K : Act → World → Prop} {Q : Exit → Act → World → Prop}
    (s x : Operand) (ho : o.op = .call { callee := .builtin .append, args := #[s, x], argTypes := #[22, 22] })
    (B : Nat) (ad : Option Addr) (n cap : Nat) (ys : List Int) (hs : a.eval s = .slice ad n cap) (hn : n = ys.length) (hown : Own B w ad cap ys)
    (ax : Option Addr) (m c : Nat) (zs : List Int) (hx : a.eval x = .slice ax m c) (hz : SL w ax m c zs) (hmax : n + m ≤ 4000000) (hB : B ≤ w.heap.size)
    (hK : ∀ ad' cap' w', Own B w' ad' cap' (ys ++ zs) → w.grownBy w' (blk ad) → (blk ad' = blk ad ∨ blk ad' = some w.heap.size) → K (a.put o.dst (.slice ad' (ys ++ zs).length cap')) w') :
    o.wp Try.prog a w K Q := by
  subst hn
  obtain ⟨i0, hi, hz0, hz1, hz2⟩ := info_parts infoI
  obtain ⟨hl, ⟨hle, hax⟩, hcs⟩ := hz
  cases ax with
  | none =>
    obtain rfl := hax rfl
    obtain rfl : m = 0 := by omega
    obtain rfl : zs = [] := List.eq_nil_of_length_eq_zero hl
    have hrun := run_append_owned_none (P := Try.prog) w B 22 o.type 2 i0 1 Try.underlying22 hi _ _ _ hown
    have hk := hK ad cap w (by simpa using hown) ⟨rfl, rfl, rfl, Nat.le_refl _, fun _ _ _ => rfl⟩ (.inl rfl)
    rw [List.append_nil] at hk
    unfold Oper.wp
    simp only [execOp, ho, resolve, invoke, builtin, Sem.run_bind, Sem.run_pure, Result.andThen_ok, List.map_toArray, List.map_cons, List.map_nil, hs, hx, hrun]
    exact hk
  | some p =>
    have hnews : ∀ j u, (zs.map (Value.int .i64))[j]? = some u → w.cell? (p.add j) = some u := by
      intro j u hj
      have hjz : j < zs.length := by
        have := (List.getElem?_eq_some_iff.1 hj).1
        simpa using this
      rcases hcs with h0 | ⟨b, off, hpe, hcell⟩
      · omega
      · obtain rfl := Option.some.inj hpe
        rw [Addr.add_lit, hcell j (by omega)]
        simpa [hjz] using hj
    have h1 : ∀ u ∈ zs.map (Value.int .i64), u.oneCell' = true := by
      intro u hu
      obtain ⟨_, _, rfl⟩ := List.mem_map.1 hu
      rfl
    obtain ⟨v', w1, hr, hown', hgrow, _, hloc⟩ := run_append_own_at (P := Try.prog) w B 22 o.type 2 i0 (.int .i64 0) 1 8 Try.underlying22 hi hz0 hz1 hz2 rfl (by decide) _ _ _ hown p m c (zs.map (Value.int .i64)) (by simpa using hl) hnews h1 (by unfold maxLen; omega) (by omega) hB
    have hb1 : ∀ (ad : Option Addr) (n c : Nat), (Value.slice ad n c).ownBlock = blk ad := fun ad n c => by cases ad <;> rfl
    rw [hb1] at hgrow hloc
    have hv : ∃ ad' cap', v' = .slice ad' (ys ++ zs).length cap' := by
      rcases hown'.2 with ⟨h1, h2⟩ | ⟨g, c', cur, h1, h2⟩
      · exact ⟨none, 0, by rw [h1]; congr 1; simp; omega⟩
      · exact ⟨_, c', by rw [h1]; congr 1; simp; omega⟩
    obtain ⟨ad', cap', rfl⟩ := hv
    rw [hb1] at hloc
    unfold Oper.wp execOp
    simp only [ho, resolve, invoke, builtin, Sem.run_bind, Sem.run_pure, Result.andThen_ok, List.map_toArray, List.map_cons, List.map_nil, hs, hx, hr]
    refine hK ad' cap' w1 ?_ hgrow hloc
    unfold Own
    have e : (ys ++ zs).length = ys.length + m := by simp; omega
    rw [List.map_append]
    rw [e] at hown' ⊢
    exact hown'
theorem wp_appG {w : World} {ops : Array Oper} {rest : List Oper} {o : Oper} {a : Act} {Q : Exit → Act → World → Prop}
    (hgd : o.guard = none) (s x : Operand) (ho : o.op = .call { callee := .builtin .append, args := #[s, x], argTypes := #[22, 22] })
    (B : Nat) (ad : Option Addr) (n cap : Nat) (ys : List Int) (hs : a.eval s = .slice ad n cap) (hn : n = ys.length) (hown : Own B w ad cap ys)
    (ax : Option Addr) (m c : Nat) (zs : List Int) (hx : a.eval x = .slice ax m c) (hz : SL w ax m c zs) (hmax : n + m ≤ 4000000) (hB : B ≤ w.heap.size)
    (hK : ∀ ad' cap' w', Own B w' ad' cap' (ys ++ zs) → w.grownBy w' (blk ad) → (blk ad' = blk ad ∨ blk ad' = some w.heap.size) → wpList Try.prog ops Q rest (a.put o.dst (.slice ad' (ys ++ zs).length cap')) w') :
    wpList Try.prog ops Q (o :: rest) a w :=
  wpList_plain hgd fun K hK' => op_appG s x ho B ad n cap ys hs hn hown ax m c zs hx hz hmax hB fun ad' cap' w' h1 h2 h3 => hK' _ _ (hK ad' cap' w' h1 h2 h3)
section
variable {P : Program} {Q : Exit → Act → World → Prop} {md : Region.Mode} {S : World → Prop} {L : Nat}
/-- What an operation that comes next owes. -/
def Next (P : Program) (md : Region.Mode) (l : List Oper) (Q : Exit → Act → World → Prop) (S : World → Prop) (L n : Nat) (done : Array Bool) (a : Act) (w : World) (i : Nat) (o : Oper) : Prop :=
  ∀ K : Act → World → Prop, Shut (∀ a w, S w → anyE P md l.toArray Q S L n (done.setIfInBounds i true) a w → K a w) → if Region.wanted o (yielded l.toArray a.tmps) = true then Oper.wp P o a w K Q else K (a.put o.dst undef) w
theorem Next.step {l : List Oper} {n : Nat} {done : Array Bool} {a : Act} {w : World} {i : Nat} {o : Oper} (hi : l[i]? = some o) (h : Next P md l Q S L n done a w i o) :
    wpOp P l.toArray Q i (fun a' w' => (i ≠ L → S w') ∧ anyE P md l.toArray Q S L n (done.setIfInBounds i true) a' w') a w :=
  wpOp_step (by rw [List.getElem?_toArray]; exact hi) fun K hK => h K (fun a w k1 k2 => hK a w ⟨fun _ => k1, k2⟩)
theorem anyE_2L (i j : Nat) {l : List Oper} {oi oj : Oper} {n : Nat} {done : Array Bool} {a : Act} {w : World} (hr : Region.ready md l.toArray done = [i, j]) (hoi : l[i]? = some oi) (hoj : l[j]? = some oj)
    (hi : ∀ K : Act → World → Prop, Shut (∀ a w, S w → anyE P md l.toArray Q S L n (done.setIfInBounds i true) a w → K a w) → if Region.wanted oi (yielded l.toArray a.tmps) = true then Oper.wp P oi a w K Q else K (a.put oi.dst undef) w)
    (hj : ∀ K : Act → World → Prop, Shut (∀ a w, S w → anyE P md l.toArray Q S L n (done.setIfInBounds j true) a w → K a w) → if Region.wanted oj (yielded l.toArray a.tmps) = true then Oper.wp P oj a w K Q else K (a.put oj.dst undef) w) :
    anyE P md l.toArray Q S L (n + 1) done a w := by
  refine ⟨fun h0 => (by rw [h0] at hr; cases hr), fun k hk => ?_⟩
  rw [hr] at hk
  rw [List.mem_cons, List.mem_singleton] at hk
  rcases hk with rfl | rfl
  · exact Next.step hoi hi
  · exact Next.step hoj hj
theorem anyE_3L (i j k : Nat) {l : List Oper} {oi oj ok : Oper} {n : Nat} {done : Array Bool} {a : Act} {w : World} (hr : Region.ready md l.toArray done = [i, j, k]) (hoi : l[i]? = some oi) (hoj : l[j]? = some oj) (hok : l[k]? = some ok)
    (hi : ∀ K : Act → World → Prop, Shut (∀ a w, S w → anyE P md l.toArray Q S L n (done.setIfInBounds i true) a w → K a w) → if Region.wanted oi (yielded l.toArray a.tmps) = true then Oper.wp P oi a w K Q else K (a.put oi.dst undef) w)
    (hj : ∀ K : Act → World → Prop, Shut (∀ a w, S w → anyE P md l.toArray Q S L n (done.setIfInBounds j true) a w → K a w) → if Region.wanted oj (yielded l.toArray a.tmps) = true then Oper.wp P oj a w K Q else K (a.put oj.dst undef) w)
    (hk : ∀ K : Act → World → Prop, Shut (∀ a w, S w → anyE P md l.toArray Q S L n (done.setIfInBounds k true) a w → K a w) → if Region.wanted ok (yielded l.toArray a.tmps) = true then Oper.wp P ok a w K Q else K (a.put ok.dst undef) w) :
    anyE P md l.toArray Q S L (n + 1) done a w := by
  refine ⟨fun h0 => (by rw [h0] at hr; cases hr), fun q hq => ?_⟩
  rw [hr] at hq
  rw [List.mem_cons, List.mem_cons, List.mem_singleton] at hq
  rcases hq with rfl | rfl | rfl
  · exact Next.step hoi hi
  · exact Next.step hoj hj
  · exact Next.step hok hk
end
end Go.Proofs.Ytllcgoachgfpjaa
