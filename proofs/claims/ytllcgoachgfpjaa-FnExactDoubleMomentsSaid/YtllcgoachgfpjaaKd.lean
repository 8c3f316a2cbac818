/- Contracts: DoubleMoments (program and model). -/
import Derived.Test.YtllcgoachgfpjaaSm
import Derived.Test.YtllcgoachgfpjaaAx
import Derived.Test.YtllcgoachgfpjaaRx
import Derived.Test.YtllcgoachgfpjaaDs
import Derived.Test.YtllcgoachgfpjaaFk
namespace Go.Proofs.Ytllcgoachgfpjaa
open Go.RowKit
set_option linter.unusedVariables false
set_option linter.unusedSimpArgs false

def dbmC (p : Int) (xs : List Int) : Int := if momB p xs then (if 24 < 2 * (xs.length : Int) - 1 then 3 else 0) else 1
/-- Every other number is 0, as far as i numbers have been put. -/
def dbmF (xs : List Int) (i : Nat) (k : Nat) : Int := if k % 2 = 0 ∧ k / 2 < i then xs.getD (k / 2) 0 else 0
def dbmV (p : Int) (xs : List Int) : List Int := if dbmC p xs = 0 then tab (2 * xs.length - 1) (dbmF xs xs.length) else []
def dbmP (p : Int) (xs : List Int) : Int := if dbmC p xs = 0 then p else 0
theorem dbm_step (xs : List Int) (N i : Nat) : (tab N (dbmF xs i)).set (2 * i) (xs.getD i 0) = tab N (dbmF xs (i + 1)) := by
  rw [tab_set]
  apply tab_congr
  intro k _
  unfold dbmF
  by_cases e : k = 2 * i
  · subst e
    rw [if_pos rfl, if_pos (by omega), show 2 * i / 2 = i by omega]
  · rw [if_neg e]
    by_cases h : k % 2 = 0 ∧ k / 2 < i
    · rw [if_pos h, if_pos (by omega)]
    · rw [if_neg h, if_neg (by omega)]
theorem dbm_zero (xs : List Int) (N : Nat) : tab N (dbmF xs 0) = tab N (fun _ => 0) := tab_congr fun j _ => by
  unfold dbmF
  rw [if_neg (by omega)]
set_option maxRecDepth 100000 in
set_option maxHeartbeats 1600000 in
theorem implDoubleMoments (p : Int) (a : Option Addr) (n c : Nat) (xs : List Int) (w : World) (hs : SL w a n c xs) (hn : n ≤ 4000000) :
    Calls Try.prog 42 #[mom p a n c] w (ResM w (dbmP p xs) (dbmV p xs) (dbmC p xs)) := by
  have hl := hide hs.len
  have hb0 := bl2 w (.cells #[.int .i64 p, .slice a n c] 26) (.cells #[.int .i64 0, .slice none 0 0] 26)
  have g1 := hs.below hb0
  cases hm : momB p xs
  · have HC := hide (show dbmC p xs = 1 by simp [dbmC, hm])
    have HV := hide (show dbmV p xs = [] by simp [dbmV, HC.out])
    have HQ := hide (show dbmP p xs = 0 by simp [dbmP, HC.out])
    have Hm := hide hm
    clear hm
    go_enter Try.func42, Try.ntmps42
    go_wp2_with fail
    refine (areMoments_any _ _ _ _ _ _ g1 hn).mono ?_
    rintro e w1 ⟨rfl, hb1⟩
    rw [Hm.out]
    have f0 : w1.cell? ⟨w.heap.size, 0, none⟩ = some (.int .i64 p) := cell_be hb1 (by simp [go_sem])
    have f1 : w1.cell? ⟨w.heap.size, 1, none⟩ = some (.slice a n c) := cell_be hb1 (by simp [go_sem])
    have r0 : w1.cell? ⟨w.heap.size + 1, 0, none⟩ = some (.int .i64 0) := cell_be hb1 (by simp [go_sem])
    have r1 : w1.cell? ⟨w.heap.size + 1, 1, none⟩ = some (.slice none 0 0) := cell_be hb1 (by simp [go_sem])
    have y0 : w1.frozen? ⟨w.heap.size + 1, 0, none⟩ = false := (hb1.frozen (by simp)).trans (by simp [go_sem])
    have y1 : w1.frozen? ⟨w.heap.size + 1, 1, none⟩ = false := (hb1.frozen (by simp)).trans (by simp [go_sem])
    have hB1 := bnext hb0 hb1
    go_wp2
    refine bodyPost_ret (v := .tuple #[mom 0 none 0 0, .int .i64 1]) (by simp [results, Try.results42, go_sem, r0, r1]) rfl ?_
    exact ResM.nil HQ.out HV.out HC.out ((hB1.setCell (by simp) _).setCell (by simp) _)
  obtain ⟨_, k1, k2, _⟩ := momB_rng hm
  rw [hl.out] at k1 k2
  have Hm := hide hm
  have v1 : IntKind.i64.wrap (2 * (n : Int)) = 2 * (n : Int) := IntWalk.i64_in _ (by omega)
  have v2 : IntKind.i64.wrap (2 * (n : Int) - 1) = 2 * (n : Int) - 1 := IntWalk.i64_in _ (by omega)
  by_cases h24 : (24 : Int) < 2 * (n : Int) - 1
  · have HC := hide (show dbmC p xs = 3 by simp only [dbmC, hm, if_true, hl.out, if_pos h24])
    have HV := hide (show dbmV p xs = [] by simp [dbmV, HC.out])
    have HQ := hide (show dbmP p xs = 0 by simp [dbmP, HC.out])
    clear hm
    go_enter Try.func42, Try.ntmps42
    go_wp2_with fail
    refine (areMoments_any _ _ _ _ _ _ g1 hn).mono ?_
    rintro e w1 ⟨rfl, hb1⟩
    rw [Hm.out]
    have f0 : w1.cell? ⟨w.heap.size, 0, none⟩ = some (.int .i64 p) := cell_be hb1 (by simp [go_sem])
    have f1 : w1.cell? ⟨w.heap.size, 1, none⟩ = some (.slice a n c) := cell_be hb1 (by simp [go_sem])
    have r0 : w1.cell? ⟨w.heap.size + 1, 0, none⟩ = some (.int .i64 0) := cell_be hb1 (by simp [go_sem])
    have r1 : w1.cell? ⟨w.heap.size + 1, 1, none⟩ = some (.slice none 0 0) := cell_be hb1 (by simp [go_sem])
    have y0 : w1.frozen? ⟨w.heap.size + 1, 0, none⟩ = false := (hb1.frozen (by simp)).trans (by simp [go_sem])
    have y1 : w1.frozen? ⟨w.heap.size + 1, 1, none⟩ = false := (hb1.frozen (by simp)).trans (by simp [go_sem])
    have hB1 := bnext hb0 hb1
    go_wp2
    refine bodyPost_ret (v := .tuple #[mom 0 none 0 0, .int .i64 3]) (by simp [results, Try.results42, go_sem, r0, r1]) rfl ?_
    exact ResM.nil HQ.out HV.out HC.out ((hB1.setCell (by simp) _).setCell (by simp) _)
  have HC := hide (show dbmC p xs = 0 by simp only [dbmC, hm, if_true, hl.out, if_neg h24])
  obtain ⟨N, hN⟩ : ∃ N, 2 * n - 1 = N := ⟨_, rfl⟩
  have HV := hide (show dbmV p xs = tab N (dbmF xs n) by simp only [dbmV, HC.out, if_true, hl.out, hN])
  have HQ := hide (show dbmP p xs = p by simp [dbmP, HC.out])
  have vN : 2 * (n : Int) - 1 = (N : Int) := by omega
  have vN1 : 1 ≤ N := by omega
  have vN2 : N ≤ 24 := by omega
  rw [vN] at v2
  clear hm
  go_enter Try.func42, Try.ntmps42
  go_wp2_with fail
  refine (areMoments_any _ _ _ _ _ _ g1 hn).mono ?_
  rintro e w1 ⟨rfl, hb1⟩
  rw [Hm.out]
  have f0 : w1.cell? ⟨w.heap.size, 0, none⟩ = some (.int .i64 p) := cell_be hb1 (by simp [go_sem])
  have f1 : w1.cell? ⟨w.heap.size, 1, none⟩ = some (.slice a n c) := cell_be hb1 (by simp [go_sem])
  have r0 : w1.cell? ⟨w.heap.size + 1, 0, none⟩ = some (.int .i64 0) := cell_be hb1 (by simp [go_sem])
  have r1 : w1.cell? ⟨w.heap.size + 1, 1, none⟩ = some (.slice none 0 0) := cell_be hb1 (by simp [go_sem])
  have y0 : w1.frozen? ⟨w.heap.size + 1, 0, none⟩ = false := (hb1.frozen (by simp)).trans (by simp [go_sem])
  have y1 : w1.frozen? ⟨w.heap.size + 1, 1, none⟩ = false := (hb1.frozen (by simp)).trans (by simp [go_sem])
  have hB1 := bnext hb0 hb1
  have z1 := hb1.size
  simp at z1
  obtain ⟨b, off, rfl, hbw, hcell⟩ := hs.at (by omega)
  go_wp2_with (at_make; refine wp_make rfl _ _ rfl _ _ N rfl rfl rfl rfl (by omega) ?_; intro w2 hrow hb hsz; have f1b := cell_be hb f1)
  clear f1b
  have hR0 : Hid (RowI w2 w1.heap.size (tab N (dbmF xs 0))) := hide (by rw [dbm_zero]; have := hrow.out; rwa [tab_zero] at this)
  clear hrow
  have hB2 := bnext hB1 hb
  have f0' := f0
  have f1' := f1
  replace f0 := cell_be hb f0
  replace f1 := cell_be hb f1
  have z2 := hb.size
  clear vN v1 v2 h24
  go_wp2
  go_loopw [25] (fun iv wr => ∃ i : Nat, i ≤ n ∧ iv = .int .i64 i ∧ Hid (RowI wr w1.heap.size (tab N (dbmF xs i))) ∧ Below w1.heap.size w1 wr ∧ w1.heap.size < wr.heap.size) (fun iv _ => n - (intOf iv).toNat)
  case atStart => exact ⟨0, by omega, rfl, hR0, hb, hsz⟩
  case round =>
    obtain ⟨i, hi, rfl, hR, hbr, hsr⟩ := hrel
    clear hR0 hb hsz hB2
    have hBr := hB1.trans (hbr.mono (by omega))
    replace f0 := cell_be hbr f0'
    replace f1 := cell_be hbr f1'
    have v1 : IntKind.i64.wrap (2 * (i : Int)) = 2 * (i : Int) := IntWalk.i64_in _ (by omega)
    by_cases hlt : i < n
    · have e1 := cell_be hBr (hcell i hlt)
      have e3 := hR.out.cell (2 * i) (by rw [tab_len]; omega)
      have hfr := hR.out.free (2 * i)
      have hset := hR.out.set (2 * i) (xs.getD i 0)
      rw [dbm_step] at hset
      obtain ⟨x, hx⟩ : ∃ x, xs.getD i 0 = x := ⟨_, rfl⟩
      rw [hx] at e1 hset
      have Hset := hide hset
      have j1 : (0 : Int) ≤ 2 * (i : Int) := by omega
      have j2 : 2 * (i : Int) < (N : Int) := by omega
      have j3 : (2 * (i : Int)).toNat = 2 * i := by omega
      have hlt' : (i : Int) < (n : Int) := by omega
      clear hset hcell hx
      go_wp2
      go_roundw
      case rel => exact ⟨i + 1, by omega, by go_num, Hset, hbr.setCell (by simp) _, by simpa using hsr⟩
      case measure => simp [intOf]; omega
    · have hin : Hid (i = n) := hide (by omega)
      have hlt' : ¬ (i : Int) < (n : Int) := by omega
      replace y0 := (hbr.frozen (World.block_lt_of_cell? _ _ r0)).trans y0
      replace y1 := (hbr.frozen (World.block_lt_of_cell? _ _ r1)).trans y1
      replace r0 := cell_be hbr r0
      replace r1 := cell_be hbr r1
      have ho : Hid (Own w1.heap.size wr (some ⟨w1.heap.size, 0, none⟩) N (tab N (dbmF xs n))) := hide (by
        have h2 := hR.out
        rw [hin.out] at h2
        have h3 := h2.own' (Nat.le_refl _) (by rw [tab_len]; unfold maxLen; omega)
        rwa [tab_len] at h3)
      clear hcell hR
      go_wp2
      refine bodyPost_ret (v := .tuple #[mom p (some ⟨w1.heap.size, 0, none⟩) N N, .int .i64 0]) (by simp [results, Try.results42, go_sem, r0, r1]) rfl ?_
      exact ResM.own HQ.out HC.out (by rw [HV.out, tab_len]) (by rw [HV.out]; exact ((ho.out.setLow (by simp <;> omega) _).setLow (by simp <;> omega) _).mono (by omega)) (by rw [HV.out, tab_len]; omega) ((hBr.setCell (by simp <;> omega) _).setCell (by simp <;> omega) _)
set_option maxRecDepth 100000 in
set_option maxHeartbeats 3200000 in
theorem specDoubleMoments (p : Int) (a : Option Addr) (n c : Nat) (xs : List Int) (w : World) (hs : SL w a n c xs) (hn : n ≤ 4000000) :
    Calls Try.prog 41 #[mom p a n c] w (ResM w (dbmP p xs) (dbmV p xs) (dbmC p xs)) := by
  have hl := hide hs.len
  have hb0 := bl2 w (.cells #[.int .i64 p, .slice a n c] 26) (.cells #[.int .i64 0, .slice none 0 0] 26)
  have g1 := hs.below hb0
  cases hm : momB p xs
  · have HC := hide (show dbmC p xs = 1 by simp [dbmC, hm])
    have HV := hide (show dbmV p xs = [] by simp [dbmV, HC.out])
    have HQ := hide (show dbmP p xs = 0 by simp [dbmP, HC.out])
    have Hm := hide hm
    clear hm
    go_enter Try.func41, Try.ntmps41
    go_wp2_with fail
    refine (l02Are_any _ _ _ _ _ _ g1 hn).mono ?_
    rintro e w1 ⟨rfl, hb1⟩
    rw [Hm.out]
    have f0 : w1.cell? ⟨w.heap.size, 0, none⟩ = some (.int .i64 p) := cell_be hb1 (by simp [go_sem])
    have f1 : w1.cell? ⟨w.heap.size, 1, none⟩ = some (.slice a n c) := cell_be hb1 (by simp [go_sem])
    have r0 : w1.cell? ⟨w.heap.size + 1, 0, none⟩ = some (.int .i64 0) := cell_be hb1 (by simp [go_sem])
    have r1 : w1.cell? ⟨w.heap.size + 1, 1, none⟩ = some (.slice none 0 0) := cell_be hb1 (by simp [go_sem])
    have y0 : w1.frozen? ⟨w.heap.size + 1, 0, none⟩ = false := (hb1.frozen (by simp)).trans (by simp [go_sem])
    have y1 : w1.frozen? ⟨w.heap.size + 1, 1, none⟩ = false := (hb1.frozen (by simp)).trans (by simp [go_sem])
    have hB1 := bnext hb0 hb1
    go_wp2
    refine bodyPost_ret (v := .tuple #[mom 0 none 0 0, .int .i64 1]) (by simp [results, Try.results41, go_sem, r0, r1]) rfl ?_
    exact ResM.nil HQ.out HV.out HC.out ((hB1.setCell (by simp) _).setCell (by simp) _)
  obtain ⟨_, k1, k2, _⟩ := momB_rng hm
  rw [hl.out] at k1 k2
  have Hm := hide hm
  have v1 : IntKind.i64.wrap (2 * (n : Int)) = 2 * (n : Int) := IntWalk.i64_in _ (by omega)
  have v2 : IntKind.i64.wrap (2 * (n : Int) - 1) = 2 * (n : Int) - 1 := IntWalk.i64_in _ (by omega)
  by_cases h24 : (24 : Int) < 2 * (n : Int) - 1
  · have HC := hide (show dbmC p xs = 3 by simp only [dbmC, hm, if_true, hl.out, if_pos h24])
    have HV := hide (show dbmV p xs = [] by simp [dbmV, HC.out])
    have HQ := hide (show dbmP p xs = 0 by simp [dbmP, HC.out])
    clear hm
    go_enter Try.func41, Try.ntmps41
    go_wp2_with fail
    refine (l02Are_any _ _ _ _ _ _ g1 hn).mono ?_
    rintro e w1 ⟨rfl, hb1⟩
    rw [Hm.out]
    have f0 : w1.cell? ⟨w.heap.size, 0, none⟩ = some (.int .i64 p) := cell_be hb1 (by simp [go_sem])
    have f1 : w1.cell? ⟨w.heap.size, 1, none⟩ = some (.slice a n c) := cell_be hb1 (by simp [go_sem])
    have r0 : w1.cell? ⟨w.heap.size + 1, 0, none⟩ = some (.int .i64 0) := cell_be hb1 (by simp [go_sem])
    have r1 : w1.cell? ⟨w.heap.size + 1, 1, none⟩ = some (.slice none 0 0) := cell_be hb1 (by simp [go_sem])
    have y0 : w1.frozen? ⟨w.heap.size + 1, 0, none⟩ = false := (hb1.frozen (by simp)).trans (by simp [go_sem])
    have y1 : w1.frozen? ⟨w.heap.size + 1, 1, none⟩ = false := (hb1.frozen (by simp)).trans (by simp [go_sem])
    have hB1 := bnext hb0 hb1
    go_wp2
    refine bodyPost_ret (v := .tuple #[mom 0 none 0 0, .int .i64 3]) (by simp [results, Try.results41, go_sem, r0, r1]) rfl ?_
    exact ResM.nil HQ.out HV.out HC.out ((hB1.setCell (by simp) _).setCell (by simp) _)
  have HC := hide (show dbmC p xs = 0 by simp only [dbmC, hm, if_true, hl.out, if_neg h24])
  obtain ⟨N, hN⟩ : ∃ N, 2 * n - 1 = N := ⟨_, rfl⟩
  have HV := hide (show dbmV p xs = tab N (dbmF xs n) by simp only [dbmV, HC.out, if_true, hl.out, hN])
  have HQ := hide (show dbmP p xs = p by simp [dbmP, HC.out])
  have vN : 2 * (n : Int) - 1 = (N : Int) := by omega
  have vN1 : 1 ≤ N := by omega
  have vN2 : N ≤ 24 := by omega
  rw [vN] at v2
  clear hm
  go_enter Try.func41, Try.ntmps41
  go_wp2_with fail
  refine (l02Are_any _ _ _ _ _ _ g1 hn).mono ?_
  rintro e w1 ⟨rfl, hb1⟩
  rw [Hm.out]
  have f0 : w1.cell? ⟨w.heap.size, 0, none⟩ = some (.int .i64 p) := cell_be hb1 (by simp [go_sem])
  have f1 : w1.cell? ⟨w.heap.size, 1, none⟩ = some (.slice a n c) := cell_be hb1 (by simp [go_sem])
  have r0 : w1.cell? ⟨w.heap.size + 1, 0, none⟩ = some (.int .i64 0) := cell_be hb1 (by simp [go_sem])
  have r1 : w1.cell? ⟨w.heap.size + 1, 1, none⟩ = some (.slice none 0 0) := cell_be hb1 (by simp [go_sem])
  have y0 : w1.frozen? ⟨w.heap.size + 1, 0, none⟩ = false := (hb1.frozen (by simp)).trans (by simp [go_sem])
  have y1 : w1.frozen? ⟨w.heap.size + 1, 1, none⟩ = false := (hb1.frozen (by simp)).trans (by simp [go_sem])
  have hB1 := bnext hb0 hb1
  have z1 := hb1.size
  simp at z1
  obtain ⟨b, off, rfl, hbw, hcell⟩ := hs.at (by omega)
  have z1' : w.heap.size + 2 ≤ w1.heap.size := by omega
  clear hn h24 hN
  have hmk := run_mk N (by omega)
  have hbd := (Below.refl w1.heap.size w1).drew
  have F : ∀ w', Below w1.heap.size w1 w' → w'.cell? ⟨w.heap.size, 0, none⟩ = some (.int .i64 p) ∧ w'.cell? ⟨w.heap.size, 1, none⟩ = some (.slice (some ⟨b, off, none⟩) n c) := fun w' hb => ⟨cell_be hb f0, cell_be hb f1⟩
  go_upto_region 5 with fail
  go_cut [4] (fun sq wx => ∃ q g : Nat, sq = .pointer (some ⟨q, 0, none⟩) ∧ wx.cell? ⟨q, 0, none⟩ = some (.int .i64 p) ∧ wx.cell? ⟨q, 1, none⟩ = some (.slice (some ⟨g, 0, none⟩) N N) ∧ Hid (RowI wx g (tab N (dbmF xs 0))) ∧ Hid (g ≠ q ∧ w1.heap.size ≤ g ∧ w1.heap.size ≤ q) ∧ Below w1.heap.size w1 wx)
  case first =>
    go_region_held3 (fun w' => w'.cell? ⟨w.heap.size, 0, none⟩ = some (.int .i64 p) ∧ w'.cell? ⟨w.heap.size, 1, none⟩ = some (.slice (some ⟨b, off, none⟩) n c))
      (first | exact F _ (by assumption) | exact F _ ((bl1 _ _).drew) | exact F _ ((bl2 _ _ _).drew) | exact F _ (hbd.alloc (by simp) _) | exact F _ ((hbd.alloc (by simp) _).alloc (by simp; omega) _))
      (fail)
    all_goals go_wp2_with fail
    all_goals go_meet
    all_goals first
      | exact ⟨w1.heap.size + 1, w1.heap.size, rfl, (by first | (simp [go_sem]; done) | fail), (by first | (simp [go_sem]; done) | fail), hide (by rw [dbm_zero, ← tab_zero]; exact ((zrow_at _ N _ (by first | rfl | simp)).next (bl1 _ _)).next ((Below.refl _ _).drew)), hide ⟨by omega, by omega, by omega⟩, (bl2 _ _ _).drew⟩
      | exact ⟨w1.heap.size, w1.heap.size + 1, rfl, (by first | (simp [go_sem]; done) | fail), (by first | (simp [go_sem]; done) | fail), hide (by rw [dbm_zero, ← tab_zero]; exact (zrow_at _ N _ (by first | rfl | simp)).next ((Below.refl _ _).drew)), hide ⟨by omega, by omega, by omega⟩, (bl2 _ _ _).drew⟩
  case rest =>
    obtain ⟨q, g, rfl, q0, q1, hR0, hd, hW⟩ := hcut
    obtain ⟨w2, hu⟩ : ∃ u, u = wc := ⟨wc, rfl⟩
    subst hu
    obtain ⟨d1, d2, d3⟩ := hd.out
    have hqs : q < w2.heap.size := World.block_lt_of_cell? _ _ q0
    clear F hbd hmk
    go_wp2_with fail
    go_loopw [5] (fun iv wr => ∃ i : Nat, i ≤ n ∧ iv = .int .i64 i ∧ Hid (RowI wr g (tab N (dbmF xs i))) ∧ wr.cell? ⟨q, 0, none⟩ = some (.int .i64 p) ∧ wr.cell? ⟨q, 1, none⟩ = some (.slice (some ⟨g, 0, none⟩) N N) ∧ Below w1.heap.size w1 wr) (fun iv _ => n - (intOf iv).toNat)
    case atStart => exact ⟨0, by omega, rfl, hR0, q0, q1, hW⟩
    case round =>
      obtain ⟨i, hi, rfl, hR, q0', q1', hbr⟩ := hrel
      clear hR0 hW q0 q1
      have hBr := hB1.trans (hbr.mono (by omega))
      replace f0 := cell_be hbr f0
      replace f1 := cell_be hbr f1
      have v3 : IntKind.i64.wrap (2 * (i : Int)) = 2 * (i : Int) := IntWalk.i64_in _ (by omega)
      by_cases hlt : i < n
      · have e1 := cell_be hBr (hcell i hlt)
        have e3 := hR.out.cell (2 * i) (by rw [tab_len]; omega)
        have hfr := hR.out.free (2 * i)
        have hset := hR.out.set (2 * i) (xs.getD i 0)
        rw [dbm_step] at hset
        obtain ⟨x, hx⟩ : ∃ x, xs.getD i 0 = x := ⟨_, rfl⟩
        rw [hx] at e1 hset
        have Hset := hide hset
        have j1 : (0 : Int) ≤ 2 * (i : Int) := by omega
        have j2 : 2 * (i : Int) < (N : Int) := by omega
        have j3 : (2 * (i : Int)).toNat = 2 * i := by omega
        have j4 : (0 : Int) ≤ (i : Int) := by omega
        have hlt' : (i : Int) < (n : Int) := by omega
        clear hset hcell hx vN v1 v2
        have hbd := (Below.refl wr.heap.size wr).drew
        go_upto_region 9 with fail
        refine region_E (fun w' => w'.cell? ⟨w.heap.size, 1, none⟩ = some (.slice (some ⟨b, off, none⟩) n c) ∧ w'.cell? ⟨b, off + i, none⟩ = some (.int .i64 x) ∧ w'.cell? ⟨q, 1, none⟩ = some (.slice (some ⟨g, 0, none⟩) N N)) 10 (by kernel_rfl) ⟨cell_be hbd f1, cell_be hbd e1, cell_be hbd q1'⟩ ?_
        intro hS
        refine anyE_takeL 0 rfl (by kernel_rfl) (fun _ _ _ h => h) hS (by rfl) (v := ?_) ?_ ?_
        rotate_left
        · intro w' hSw; (try dsimp only at hSw); go_simp; (try with_reducible rfl)
        try simp only [Act.put, List.setIfInBounds_toArray, List.set_cons_zero, List.set_cons_succ]
        refine anyE_takeL 1 rfl (by kernel_rfl) (fun _ _ _ h => h) hS (by rfl) (v := ?_) ?_ ?_
        rotate_left
        · intro w' hSw; (try dsimp only at hSw); go_simp; (try with_reducible rfl)
        try simp only [Act.put, List.setIfInBounds_toArray, List.set_cons_zero, List.set_cons_succ]
        refine anyE_takeL 2 rfl (by kernel_rfl) (fun _ _ _ h => h) hS (by rfl) (v := ?_) ?_ ?_
        rotate_left
        · intro w' hSw; (try dsimp only at hSw); go_simp; (try with_reducible rfl)
        try simp only [Act.put, List.setIfInBounds_toArray, List.set_cons_zero, List.set_cons_succ]
        refine anyE_takeL 3 rfl (by kernel_rfl) (fun _ _ _ h => h) hS (by rfl) (v := ?_) ?_ ?_
        rotate_left
        · intro w' hSw; (try dsimp only at hSw); go_simp; (try with_reducible rfl)
        try simp only [Act.put, List.setIfInBounds_toArray, List.set_cons_zero, List.set_cons_succ]
        refine anyE_takeL 4 rfl (by kernel_rfl) (fun _ _ _ h => h) hS (by rfl) (v := ?_) ?_ ?_
        rotate_left
        · intro w' hSw; (try dsimp only at hSw); go_simp; (try with_reducible rfl)
        try simp only [Act.put, List.setIfInBounds_toArray, List.set_cons_zero, List.set_cons_succ]
        refine anyE_takeL 5 rfl (by kernel_rfl) (fun _ _ _ h => h) hS (by rfl) (v := ?_) ?_ ?_
        rotate_left
        · intro w' hSw; (try dsimp only at hSw); go_simp; (try with_reducible rfl)
        try simp only [Act.put, List.setIfInBounds_toArray, List.set_cons_zero, List.set_cons_succ]
        refine anyE_takeL 6 rfl (by kernel_rfl) (fun _ _ _ h => h) hS (by rfl) (v := ?_) ?_ ?_
        rotate_left
        · intro w' hSw; (try dsimp only at hSw); go_simp; (try with_reducible rfl)
        try simp only [Act.put, List.setIfInBounds_toArray, List.set_cons_zero, List.set_cons_succ]
        refine anyE_takeL 7 rfl (by kernel_rfl) (fun _ _ _ h => h) hS (by rfl) (v := ?_) ?_ ?_
        rotate_left
        · intro w' hSw; (try dsimp only at hSw); go_simp; (try with_reducible rfl)
        try simp only [Act.put, List.setIfInBounds_toArray, List.set_cons_zero, List.set_cons_succ]
        refine anyE_takeL 8 rfl (by kernel_rfl) (fun _ _ _ h => h) hS (by rfl) (v := ?_) ?_ ?_
        rotate_left
        · intro w' hSw; (try dsimp only at hSw); go_simp; (try with_reducible rfl)
        try simp only [Act.put, List.setIfInBounds_toArray, List.set_cons_zero, List.set_cons_succ]
        refine anyE_takeL 9 rfl (by kernel_rfl) (fun _ _ _ h => h) hS (by rfl) (v := ?_) ?_ ?_
        rotate_left
        · intro w' hSw; (try dsimp only at hSw); go_simp; (try with_reducible rfl)
        try simp only [Act.put, List.setIfInBounds_toArray, List.set_cons_zero, List.set_cons_succ]
        clear hS
        refine anyE_lastL (by kernel_rfl) rfl (by kernel_rfl) (fun K hK => ?_)
        go_simp
        refine hK.out _ _ ?_
        clear hK K
        try simp only [Act.put, List.setIfInBounds_toArray, List.set_cons_zero, List.set_cons_succ]
        have hbA := (Below.refl (wr.setCell ⟨g, 2 * i, none⟩ (.int .i64 x)).heap.size (wr.setCell ⟨g, 2 * i, none⟩ (.int .i64 x))).drew
        obtain ⟨w6, hw6⟩ : ∃ w6, w6 = (wr.setCell ⟨g, 2 * i, none⟩ (.int .i64 x)).drew := ⟨_, rfl⟩
        rw [← hw6] at hbA ⊢
        have R6 := hide (Hset.out.next hbA)
        have p0 := cell_be hbA (cell_set2 q0' (show g ≠ q by omega) (.int .i64 x))
        have p1 := cell_be hbA (cell_set2 q1' (show g ≠ q by omega) (.int .i64 x))
        have hW6 : Below w1.heap.size w1 w6 := by rw [hw6]; exact (hbr.setCell (by simp; omega) _).drew
        clear hw6 hbA Hset hR e3 hfr q0' q1' f0 f1 e1
        go_wp2
        go_roundw
        case rel => exact ⟨i + 1, by omega, by go_num, R6, p0, p1, hW6⟩
        case measure => simp [intOf]; omega
      · have hin : Hid (i = n) := hide (by omega)
        have hlt' : ¬ (i : Int) < (n : Int) := by omega
        replace y0 := (hbr.frozen (World.block_lt_of_cell? _ _ r0)).trans y0
        replace y1 := (hbr.frozen (World.block_lt_of_cell? _ _ r1)).trans y1
        replace r0 := cell_be hbr r0
        replace r1 := cell_be hbr r1
        have hgs : g < wr.heap.size := hR.out.lt
        have ho : Hid (Own g wr (some ⟨g, 0, none⟩) N (tab N (dbmF xs n))) := hide (by
          have h2 := hR.out
          rw [hin.out] at h2
          have h3 := h2.own' (Nat.le_refl _) (by rw [tab_len]; unfold maxLen; omega)
          rwa [tab_len] at h3)
        clear hcell hR vN v1 v2
        go_wp2
        refine bodyPost_ret (v := .tuple #[mom p (some ⟨g, 0, none⟩) N N, .int .i64 0]) (by simp [results, Try.results41, go_sem, r0, r1]) rfl ?_
        exact ResM.own HQ.out HC.out (by rw [HV.out, tab_len]) (by rw [HV.out]; exact ((ho.out.setLow (by simp <;> omega) _).setLow (by simp <;> omega) _).mono (by omega)) (by rw [HV.out, tab_len]; omega) ((hBr.setCell (by simp <;> omega) _).setCell (by simp <;> omega) _)
end Go.Proofs.Ytllcgoachgfpjaa
