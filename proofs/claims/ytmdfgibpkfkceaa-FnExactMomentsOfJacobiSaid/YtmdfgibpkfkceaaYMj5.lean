/- Merged texts. -/
import Derived.Test.YtmdfgibpkfkceaaYMj4
import Derived.Test.YtmdfgibpkfkceaaYMj2
import Derived.StillTailTactics
import Derived.IntWalk
import Derived.Deep.RegionWith
import Derived.Deep.RegionHeld3
import Derived.Deep.CutBlock
import Derived.Deep.DeepCutAuto
import Derived.Deep.LoopGhost
import Derived.Test.YtmdfgibpkfkceaaYMj1
/- Contracts: ShiftMoments, CutMoments (program and model). -/
namespace Go.Proofs.Ytmdfgibpkfkceaa
open Go.RowKit
set_option linter.unusedVariables false
set_option linter.unusedSimpArgs false

/-- The two results of a call: moments and a code. -/
def ResM (w : World) (q : Int) (v : List Int) (c : Int) (e : Ending) (w' : World) : Prop :=
  ∃ a cap, e = .returned (.tuple #[mom q a v.length cap, .int .i64 c]) ∧ OZ w.heap.size w'.heap.size w' a v.length cap v ∧ v.length ≤ 100000 ∧ Below w.heap.size w w'
theorem ResM.nil {w w' : World} {q : Int} {v : List Int} {c c' : Int} (hq : q = 0) (hv : v = []) (hc : c = c') (hb : Below w.heap.size w w') : ResM w q v c (.returned (.tuple #[mom 0 none 0 0, .int .i64 c'])) w' := by
  subst hv; subst hc; subst hq
  exact ⟨none, 0, rfl, ⟨SL.nil _, .inl rfl⟩, by simp, hb⟩
theorem ResM.own {w w' : World} {q q' : Int} {v : List Int} {c c' : Int} {a : Option Addr} {n cap : Nat} (hq : q = q') (hc : c = c') (hn : n = v.length) (ho : Own w.heap.size w' a cap v) (hl : v.length ≤ 100000) (hb : Below w.heap.size w w') : ResM w q v c (.returned (.tuple #[mom q' a n cap, .int .i64 c'])) w' := by
  subst hc; subst hn; subst hq
  exact ⟨a, cap, rfl, OZ.of ho rfl, hl, hb⟩
theorem SL.dropS {w : World} {b off n c : Nat} {xs : List Int} (h : SL w (some ⟨b, off, none⟩) n c xs) (k : Nat) (hk : k ≤ n) : SL w (some ⟨b, off + k, none⟩) (n - k) (c - k) (xs.drop k) := by
  obtain ⟨h1, ⟨h2, h2'⟩, h3⟩ := h
  refine ⟨by simp; omega, ⟨by omega, fun h => by cases h⟩, ?_⟩
  rcases h3 with h3 | ⟨b', off', he, hc⟩
  · exact .inl (by omega)
  · simp only [Option.some.injEq, Addr.mk.injEq, and_true] at he
    obtain ⟨rfl, rfl⟩ := he
    refine .inr ⟨b, off + k, rfl, fun j hj => ?_⟩
    rw [show off + k + j = off + (k + j) by omega, hc (k + j) (by omega)]
    simp
def shmC (p : Int) (xs : List Int) : Int := if momB p xs then (if xs.length = 1 then 5 else 0) else 1
def shmV (p : Int) (xs : List Int) : List Int := if shmC p xs = 0 then xs.drop 1 else []
def shmP (p : Int) (xs : List Int) : Int := if shmC p xs = 0 then p else 0
set_option maxRecDepth 100000 in
set_option maxHeartbeats 1600000 in
theorem implShiftMoments (p : Int) (a : Option Addr) (n c : Nat) (xs : List Int) (w : World) (hs : SL w a n c xs) (hn : n ≤ 4000000) :
    Calls Try.prog 40 #[mom p a n c] w (ResM w (shmP p xs) (shmV p xs) (shmC p xs)) := by
  have hl := hide hs.len
  have hb0 := bl2 w (.cells #[.int .i64 p, .slice a n c] 36) (.cells #[.int .i64 0, .slice none 0 0] 36)
  have g1 := hs.below hb0
  have hz0 : w.heap.size + 1 < ((w.alloc (.cells #[.int .i64 p, .slice a n c] 36)).alloc (.cells #[.int .i64 0, .slice none 0 0] 36)).heap.size := by simp
  cases hm : momB p xs
  · have HC := hide (show shmC p xs = 1 by simp [shmC, hm])
    have HV := hide (show shmV p xs = [] by simp [shmV, HC.out])
    have HQ := hide (show shmP p xs = 0 by simp [shmP, HC.out])
    have Hm := hide hm
    clear hm
    go_enter Try.func40, Try.ntmps40
    go_wp2_with fail
    refine (areMoments_any _ _ _ _ _ _ g1 hn).mono ?_
    rintro e w1 ⟨rfl, hb1⟩
    rw [Hm.out]
    obtain ⟨hc1, hf1⟩ := bcell hb1
    have hz1 := hb1.size
    have hB1 := bnext hb0 hb1
    go_wp2
    refine bodyPost_ret (v := .tuple #[mom 0 none 0 0, .int .i64 1]) (by simp [results, Try.results40, go_sem, hc1, hf1]) rfl ?_
    exact ResM.nil HQ.out HV.out HC.out ((hB1.setCell (by simp) _).setCell (by simp) _)
  · obtain ⟨hp, h1, h2, ha⟩ := momB_rng hm
    rw [hl.out] at h1 h2
    have Hm := hide hm
    by_cases hn1 : n = 1
    · have HC := hide (show shmC p xs = 5 by simp [shmC, hm, hl.out, hn1])
      have HV := hide (show shmV p xs = [] by simp [shmV, HC.out])
      have HQ := hide (show shmP p xs = 0 by simp [shmP, HC.out])
      clear hm ha
      subst hn1
      go_enter Try.func40, Try.ntmps40
      go_wp2_with fail
      refine (areMoments_any _ _ _ _ _ _ g1 hn).mono ?_
      rintro e w1 ⟨rfl, hb1⟩
      rw [Hm.out]
      obtain ⟨hc1, hf1⟩ := bcell hb1
      have hz1 := hb1.size
      have hB1 := bnext hb0 hb1
      go_wp2
      refine bodyPost_ret (v := .tuple #[mom 0 none 0 0, .int .i64 5]) (by simp [results, Try.results40, go_sem, hc1, hf1]) rfl ?_
      exact ResM.nil HQ.out HV.out HC.out ((hB1.setCell (by simp) _).setCell (by simp) _)
    · have HC := hide (show shmC p xs = 0 by simp [shmC, hm, hl.out, hn1])
      have HV := hide (show shmV p xs = xs.drop 1 by simp [shmV, HC.out])
      have HQ := hide (show shmP p xs = p by simp [shmP, HC.out])
      clear hm ha
      have ob : ((n : Int) == 1) = false := by simp; omega
      have h3 : 2 ≤ n := by omega
      have hcap := hs.le
      obtain ⟨b, off, rfl, hbw, _⟩ := hs.at (by omega)
      have hc2 : ¬ c = 1 := by omega
      go_enter Try.func40, Try.ntmps40
      go_wp2_with fail
      refine (areMoments_any _ _ _ _ _ _ g1 hn).mono ?_
      rintro e w1 ⟨rfl, hb1⟩
      rw [Hm.out]
      have f0 : w1.cell? ⟨w.heap.size, 0, none⟩ = some (.int .i64 p) := cell_be hb1 (by simp [go_sem])
      have f1 : w1.cell? ⟨w.heap.size, 1, none⟩ = some (.slice (some ⟨b, off, none⟩) n c) := cell_be hb1 (by simp [go_sem])
      have r0 : w1.cell? ⟨w.heap.size + 1, 0, none⟩ = some (.int .i64 0) := cell_be hb1 (by simp [go_sem])
      have r1 : w1.cell? ⟨w.heap.size + 1, 1, none⟩ = some (.slice none 0 0) := cell_be hb1 (by simp [go_sem])
      have rf0 : w1.frozen? ⟨w.heap.size + 1, 0, none⟩ = false := (hb1.frozen (by simp)).trans (by simp [go_sem])
      have rf1 : w1.frozen? ⟨w.heap.size + 1, 1, none⟩ = false := (hb1.frozen (by simp)).trans (by simp [go_sem])
      have g2 := (g1.below hb1).dropS 1 (by omega)
      have hB1 := bnext hb0 hb1
      have hz1 := hb1.size
      clear hb1 g1 hs
      have hbd := (Below.refl w1.heap.size w1).drew
      go_upto_region 5 with fail
      go_region_with (go_at_call 134; refine (clone_any _ _ _ (xs.drop 1) _ (g2.below hbd) (by omega)).mono ?_; rintro e w2 ⟨a', c', rfl, ho, hb2⟩; have hb3 := bnext hbd hb2; have f0' := cell_be hb3 f0; have f1' := cell_be hb3 f1; have r0' := cell_be hb3 r0; have r1' := cell_be hb3 r1; have q0' := (hb3.frozen (p := ⟨w.heap.size + 1, 0, none⟩) (by simp at hz1; simp; omega)).trans rf0; have q1' := (hb3.frozen (p := ⟨w.heap.size + 1, 1, none⟩) (by simp at hz1; simp; omega)).trans rf1)
      all_goals
        go_wp2
        refine bodyPost_ret (v := .tuple #[mom p a' (n - 1) c', .int .i64 0]) (by simp [results, Try.results40, go_sem, r0', r1']) rfl ?_
        have hzz : w.heap.size ≤ w1.heap.size := by simp at hz1; omega
        exact ResM.own HQ.out HC.out (by rw [HV.out]; simp [hl.out]) (by rw [HV.out]; exact ((ho.setLow (by simp at hz1 ⊢; omega) _).setLow (by simp at hz1 ⊢; omega) _).mono hzz) (by rw [HV.out]; simp [hl.out]; omega) (((hB1.trans (hb3.mono hzz)).setCell (by simp) _).setCell (by simp) _)
set_option maxRecDepth 100000 in
set_option maxHeartbeats 1600000 in
theorem specShiftMoments (p : Int) (a : Option Addr) (n c : Nat) (xs : List Int) (w : World) (hs : SL w a n c xs) (hn : n ≤ 4000000) :
    Calls Try.prog 41 #[mom p a n c] w (ResM w (shmP p xs) (shmV p xs) (shmC p xs)) := by
  have hl := hide hs.len
  have hb0 := bl2 w (.cells #[.int .i64 p, .slice a n c] 36) (.cells #[.int .i64 0, .slice none 0 0] 36)
  have g1 := hs.below hb0
  have hz0 : w.heap.size + 1 < ((w.alloc (.cells #[.int .i64 p, .slice a n c] 36)).alloc (.cells #[.int .i64 0, .slice none 0 0] 36)).heap.size := by simp
  cases hm : momB p xs
  · have HC := hide (show shmC p xs = 1 by simp [shmC, hm])
    have HV := hide (show shmV p xs = [] by simp [shmV, HC.out])
    have HQ := hide (show shmP p xs = 0 by simp [shmP, HC.out])
    have Hm := hide hm
    clear hm
    go_enter Try.func41, Try.ntmps41
    go_wp2_with fail
    refine (l02Are_any _ _ _ _ _ _ g1 hn).mono ?_
    rintro e w1 ⟨rfl, hb1⟩
    rw [Hm.out]
    obtain ⟨hc1, hf1⟩ := bcell hb1
    have hz1 := hb1.size
    have hB1 := bnext hb0 hb1
    go_wp2
    refine bodyPost_ret (v := .tuple #[mom 0 none 0 0, .int .i64 1]) (by simp [results, Try.results41, go_sem, hc1, hf1]) rfl ?_
    exact ResM.nil HQ.out HV.out HC.out ((hB1.setCell (by simp) _).setCell (by simp) _)
  · obtain ⟨hp, h1, h2, ha⟩ := momB_rng hm
    rw [hl.out] at h1 h2
    have Hm := hide hm
    by_cases hn1 : n = 1
    · have HC := hide (show shmC p xs = 5 by simp [shmC, hm, hl.out, hn1])
      have HV := hide (show shmV p xs = [] by simp [shmV, HC.out])
      have HQ := hide (show shmP p xs = 0 by simp [shmP, HC.out])
      clear hm ha
      subst hn1
      go_enter Try.func41, Try.ntmps41
      go_wp2_with fail
      refine (l02Are_any _ _ _ _ _ _ g1 hn).mono ?_
      rintro e w1 ⟨rfl, hb1⟩
      rw [Hm.out]
      obtain ⟨hc1, hf1⟩ := bcell hb1
      have hz1 := hb1.size
      have hB1 := bnext hb0 hb1
      go_wp2
      refine bodyPost_ret (v := .tuple #[mom 0 none 0 0, .int .i64 5]) (by simp [results, Try.results41, go_sem, hc1, hf1]) rfl ?_
      exact ResM.nil HQ.out HV.out HC.out ((hB1.setCell (by simp) _).setCell (by simp) _)
    · have HC := hide (show shmC p xs = 0 by simp [shmC, hm, hl.out, hn1])
      have HV := hide (show shmV p xs = xs.drop 1 by simp [shmV, HC.out])
      have HQ := hide (show shmP p xs = p by simp [shmP, HC.out])
      clear hm ha
      have ob : ((n : Int) == 1) = false := by simp; omega
      have h3 : 2 ≤ n := by omega
      have hcap := hs.le
      obtain ⟨b, off, rfl, hbw, _⟩ := hs.at (by omega)
      have hc2 : ¬ c = 1 := by omega
      go_enter Try.func41, Try.ntmps41
      go_wp2_with fail
      refine (l02Are_any _ _ _ _ _ _ g1 hn).mono ?_
      rintro e w1 ⟨rfl, hb1⟩
      rw [Hm.out]
      have f0 : w1.cell? ⟨w.heap.size, 0, none⟩ = some (.int .i64 p) := cell_be hb1 (by simp [go_sem])
      have f1 : w1.cell? ⟨w.heap.size, 1, none⟩ = some (.slice (some ⟨b, off, none⟩) n c) := cell_be hb1 (by simp [go_sem])
      have r0 : w1.cell? ⟨w.heap.size + 1, 0, none⟩ = some (.int .i64 0) := cell_be hb1 (by simp [go_sem])
      have r1 : w1.cell? ⟨w.heap.size + 1, 1, none⟩ = some (.slice none 0 0) := cell_be hb1 (by simp [go_sem])
      have rf0 : w1.frozen? ⟨w.heap.size + 1, 0, none⟩ = false := (hb1.frozen (by simp)).trans (by simp [go_sem])
      have rf1 : w1.frozen? ⟨w.heap.size + 1, 1, none⟩ = false := (hb1.frozen (by simp)).trans (by simp [go_sem])
      have g2 := (g1.below hb1).dropS 1 (by omega)
      have hB1 := bnext hb0 hb1
      have hz1 := hb1.size
      clear hb1 g1 hs
      have hbd := (Below.refl w1.heap.size w1).drew
      go_upto_region 5 with fail
      go_region_with (go_at_call 135; refine (l01Own_any _ _ _ (xs.drop 1) _ (g2.below hbd) (by omega)).mono ?_; rintro e w2 ⟨a', c', rfl, ho, hb2⟩; have hb3 := bnext hbd hb2; have f0' := cell_be hb3 f0; have f1' := cell_be hb3 f1; have r0' := cell_be hb3 r0; have r1' := cell_be hb3 r1; have q0' := (hb3.frozen (p := ⟨w.heap.size + 1, 0, none⟩) (by simp at hz1; simp; omega)).trans rf0; have q1' := (hb3.frozen (p := ⟨w.heap.size + 1, 1, none⟩) (by simp at hz1; simp; omega)).trans rf1)
      all_goals
        go_wp2
        refine bodyPost_ret (v := .tuple #[mom p a' (n - 1) c', .int .i64 0]) (by simp [results, Try.results41, go_sem, r0', r1']) rfl ?_
        have hzz : w.heap.size ≤ w1.heap.size := by simp at hz1; omega
        exact ResM.own HQ.out HC.out (by rw [HV.out]; simp [hl.out]) (by rw [HV.out]; exact ((ho.setLow (by simp at hz1 ⊢; omega) _).setLow (by simp at hz1 ⊢; omega) _).mono hzz) (by rw [HV.out]; simp [hl.out]; omega) (((hB1.trans (hb3.mono hzz)).setCell (by simp) _).setCell (by simp) _)
def cutC (p : Int) (xs : List Int) (k : Int) : Int := if momB p xs then (if 1 ≤ k ∧ k ≤ (xs.length : Int) then 0 else 2) else 1
def cutV (p : Int) (xs : List Int) (k : Int) : List Int := if cutC p xs k = 0 then xs.take k.toNat else []
def cutP (p : Int) (xs : List Int) (k : Int) : Int := if cutC p xs k = 0 then p else 0
set_option maxRecDepth 100000 in
set_option maxHeartbeats 1600000 in
theorem implCutMoments (p : Int) (a : Option Addr) (n c : Nat) (xs : List Int) (k : Int) (w : World) (hs : SL w a n c xs) (hn : n ≤ 4000000) :
    Calls Try.prog 43 #[mom p a n c, .int .i64 k] w (ResM w (cutP p xs k) (cutV p xs k) (cutC p xs k)) := by
  have hl := hide hs.len
  have hb0 := bl2 w (.cells #[.int .i64 p, .slice a n c] 36) (.cells #[.int .i64 0, .slice none 0 0] 36)
  have g1 := hs.below hb0
  have hz0 : w.heap.size + 1 < ((w.alloc (.cells #[.int .i64 p, .slice a n c] 36)).alloc (.cells #[.int .i64 0, .slice none 0 0] 36)).heap.size := by simp
  cases hm : momB p xs
  · have HC := hide (show cutC p xs k = 1 by simp [cutC, hm])
    have HV := hide (show cutV p xs k = [] by simp [cutV, HC.out])
    have HQ := hide (show cutP p xs k = 0 by simp [cutP, HC.out])
    have Hm := hide hm
    clear hm
    go_enter Try.func43, Try.ntmps43
    go_wp2_with fail
    refine (areMoments_any _ _ _ _ _ _ g1 hn).mono ?_
    rintro e w1 ⟨rfl, hb1⟩
    rw [Hm.out]
    obtain ⟨hc1, hf1⟩ := bcell hb1
    have hz1 := hb1.size
    have hB1 := bnext hb0 hb1
    go_wp2
    refine bodyPost_ret (v := .tuple #[mom 0 none 0 0, .int .i64 1]) (by simp [results, Try.results43, go_sem, hc1, hf1]) rfl ?_
    exact ResM.nil HQ.out HV.out HC.out ((hB1.setCell (by simp) _).setCell (by simp) _)
  · obtain ⟨hp, h1, h2, ha⟩ := momB_rng hm
    rw [hl.out] at h1 h2
    have Hm := hide hm
    by_cases hk : 1 ≤ k ∧ k ≤ (n : Int)
    · have HC := hide (show cutC p xs k = 0 by simp only [cutC, hm, if_true, hl.out, if_pos hk])
      have HV := hide (show cutV p xs k = xs.take k.toNat by simp [cutV, HC.out])
      have HQ := hide (show cutP p xs k = p by simp [cutP, HC.out])
      clear hm ha
      obtain ⟨k1, k2⟩ := hk
      have hcap := hs.le
      obtain ⟨b, off, rfl, hbw, hcell⟩ := hs.at (by omega)
      clear hcell
      have k3 : k ≤ (c : Int) := by omega
      have k4 : k.toNat ≤ n := by omega
      go_enter Try.func43, Try.ntmps43
      go_wp2_with fail
      refine (areMoments_any _ _ _ _ _ _ g1 hn).mono ?_
      rintro e w1 ⟨rfl, hb1⟩
      rw [Hm.out]
      have f0 : w1.cell? ⟨w.heap.size, 0, none⟩ = some (.int .i64 p) := cell_be hb1 (by simp [go_sem])
      have f1 : w1.cell? ⟨w.heap.size, 1, none⟩ = some (.slice (some ⟨b, off, none⟩) n c) := cell_be hb1 (by simp [go_sem])
      have r0 : w1.cell? ⟨w.heap.size + 1, 0, none⟩ = some (.int .i64 0) := cell_be hb1 (by simp [go_sem])
      have r1 : w1.cell? ⟨w.heap.size + 1, 1, none⟩ = some (.slice none 0 0) := cell_be hb1 (by simp [go_sem])
      have rf0 : w1.frozen? ⟨w.heap.size + 1, 0, none⟩ = false := (hb1.frozen (by simp)).trans (by simp [go_sem])
      have rf1 : w1.frozen? ⟨w.heap.size + 1, 1, none⟩ = false := (hb1.frozen (by simp)).trans (by simp [go_sem])
      have g2 := (g1.below hb1).take k4
      have hB1 := bnext hb0 hb1
      have hz1 := hb1.size
      have hlt := hide (show (xs.take k.toNat).length = k.toNat by simp [hl.out]; omega)
      clear hb1 g1 hs
      have hbd := (Below.refl w1.heap.size w1).drew
      go_upto_region 5 with fail
      go_region_with (go_at_call 134; refine (clone_any _ _ _ (xs.take k.toNat) _ (g2.below hbd) (by omega)).mono ?_; rintro e w2 ⟨a', c', rfl, ho, hb2⟩; have hb3 := bnext hbd hb2; have f0' := cell_be hb3 f0; have f1' := cell_be hb3 f1; have r0' := cell_be hb3 r0; have r1' := cell_be hb3 r1; have q0' := (hb3.frozen (p := ⟨w.heap.size + 1, 0, none⟩) (by simp at hz1; simp; omega)).trans rf0; have q1' := (hb3.frozen (p := ⟨w.heap.size + 1, 1, none⟩) (by simp at hz1; simp; omega)).trans rf1)
      all_goals
        go_wp2
        refine bodyPost_ret (v := .tuple #[mom p a' k.toNat c', .int .i64 0]) (by simp [results, Try.results43, go_sem, r0', r1']) rfl ?_
        have hzz : w.heap.size ≤ w1.heap.size := by simp at hz1; omega
        exact ResM.own HQ.out HC.out (by rw [HV.out, hlt.out]) (by rw [HV.out]; exact ((ho.setLow (by simp at hz1 ⊢; omega) _).setLow (by simp at hz1 ⊢; omega) _).mono hzz) (by rw [HV.out, hlt.out]; omega) (((hB1.trans (hb3.mono hzz)).setCell (by simp) _).setCell (by simp) _)
    · have HC := hide (show cutC p xs k = 2 by simp only [cutC, hm, if_true, hl.out, if_neg hk])
      have HV := hide (show cutV p xs k = [] by simp [cutV, HC.out])
      have HQ := hide (show cutP p xs k = 0 by simp [cutP, HC.out])
      clear hm ha
      by_cases k1 : k < 1
      all_goals
        try have k2 : (n : Int) < k := by omega
        clear hk
        go_enter Try.func43, Try.ntmps43
        go_wp2_with fail
        refine (areMoments_any _ _ _ _ _ _ g1 hn).mono ?_
        rintro e w1 ⟨rfl, hb1⟩
        rw [Hm.out]
        obtain ⟨hc1, hf1⟩ := bcell hb1
        have hz1 := hb1.size
        have hB1 := bnext hb0 hb1
        go_wp2
        refine bodyPost_ret (v := .tuple #[mom 0 none 0 0, .int .i64 2]) (by simp [results, Try.results43, go_sem, hc1, hf1]) rfl ?_
        exact ResM.nil HQ.out HV.out HC.out ((hB1.setCell (by simp) _).setCell (by simp) _)
set_option maxRecDepth 100000 in
set_option maxHeartbeats 1600000 in
theorem specCutMoments (p : Int) (a : Option Addr) (n c : Nat) (xs : List Int) (k : Int) (w : World) (hs : SL w a n c xs) (hn : n ≤ 4000000) :
    Calls Try.prog 44 #[mom p a n c, .int .i64 k] w (ResM w (cutP p xs k) (cutV p xs k) (cutC p xs k)) := by
  have hl := hide hs.len
  have hb0 := bl2 w (.cells #[.int .i64 p, .slice a n c] 36) (.cells #[.int .i64 0, .slice none 0 0] 36)
  have g1 := hs.below hb0
  have hz0 : w.heap.size + 1 < ((w.alloc (.cells #[.int .i64 p, .slice a n c] 36)).alloc (.cells #[.int .i64 0, .slice none 0 0] 36)).heap.size := by simp
  cases hm : momB p xs
  · have HC := hide (show cutC p xs k = 1 by simp [cutC, hm])
    have HV := hide (show cutV p xs k = [] by simp [cutV, HC.out])
    have HQ := hide (show cutP p xs k = 0 by simp [cutP, HC.out])
    have Hm := hide hm
    clear hm
    go_enter Try.func44, Try.ntmps44
    go_wp2_with fail
    refine (l02Are_any _ _ _ _ _ _ g1 hn).mono ?_
    rintro e w1 ⟨rfl, hb1⟩
    rw [Hm.out]
    obtain ⟨hc1, hf1⟩ := bcell hb1
    have hz1 := hb1.size
    have hB1 := bnext hb0 hb1
    go_wp2
    refine bodyPost_ret (v := .tuple #[mom 0 none 0 0, .int .i64 1]) (by simp [results, Try.results44, go_sem, hc1, hf1]) rfl ?_
    exact ResM.nil HQ.out HV.out HC.out ((hB1.setCell (by simp) _).setCell (by simp) _)
  · obtain ⟨hp, h1, h2, ha⟩ := momB_rng hm
    rw [hl.out] at h1 h2
    have Hm := hide hm
    by_cases hk : 1 ≤ k ∧ k ≤ (n : Int)
    · have HC := hide (show cutC p xs k = 0 by simp only [cutC, hm, if_true, hl.out, if_pos hk])
      have HV := hide (show cutV p xs k = xs.take k.toNat by simp [cutV, HC.out])
      have HQ := hide (show cutP p xs k = p by simp [cutP, HC.out])
      clear hm ha
      obtain ⟨k1, k2⟩ := hk
      have hcap := hs.le
      obtain ⟨b, off, rfl, hbw, hcell⟩ := hs.at (by omega)
      clear hcell
      have k3 : k ≤ (c : Int) := by omega
      have k4 : k.toNat ≤ n := by omega
      go_enter Try.func44, Try.ntmps44
      go_wp2_with fail
      refine (l02Are_any _ _ _ _ _ _ g1 hn).mono ?_
      rintro e w1 ⟨rfl, hb1⟩
      rw [Hm.out]
      have f0 : w1.cell? ⟨w.heap.size, 0, none⟩ = some (.int .i64 p) := cell_be hb1 (by simp [go_sem])
      have f1 : w1.cell? ⟨w.heap.size, 1, none⟩ = some (.slice (some ⟨b, off, none⟩) n c) := cell_be hb1 (by simp [go_sem])
      have r0 : w1.cell? ⟨w.heap.size + 1, 0, none⟩ = some (.int .i64 0) := cell_be hb1 (by simp [go_sem])
      have r1 : w1.cell? ⟨w.heap.size + 1, 1, none⟩ = some (.slice none 0 0) := cell_be hb1 (by simp [go_sem])
      have rf0 : w1.frozen? ⟨w.heap.size + 1, 0, none⟩ = false := (hb1.frozen (by simp)).trans (by simp [go_sem])
      have rf1 : w1.frozen? ⟨w.heap.size + 1, 1, none⟩ = false := (hb1.frozen (by simp)).trans (by simp [go_sem])
      have g2 := (g1.below hb1).take k4
      have hB1 := bnext hb0 hb1
      have hz1 := hb1.size
      have hlt := hide (show (xs.take k.toNat).length = k.toNat by simp [hl.out]; omega)
      clear hb1 g1 hs
      have hbd := (Below.refl w1.heap.size w1).drew
      go_wp2_with fail
      refine (l01In_yes _ _ _ _ k1 k2).mono ?_
      rintro e w1' ⟨rfl, rfl⟩
      go_upto_region 5 with fail
      go_region_with (go_at_call 135; refine (l01Own_any _ _ _ (xs.take k.toNat) _ (g2.below hbd) (by omega)).mono ?_; rintro e w2 ⟨a', c', rfl, ho, hb2⟩; have hb3 := bnext hbd hb2; have f0' := cell_be hb3 f0; have f1' := cell_be hb3 f1; have r0' := cell_be hb3 r0; have r1' := cell_be hb3 r1; have q0' := (hb3.frozen (p := ⟨w.heap.size + 1, 0, none⟩) (by simp at hz1; simp; omega)).trans rf0; have q1' := (hb3.frozen (p := ⟨w.heap.size + 1, 1, none⟩) (by simp at hz1; simp; omega)).trans rf1)
      all_goals
        go_wp2
        refine bodyPost_ret (v := .tuple #[mom p a' k.toNat c', .int .i64 0]) (by simp [results, Try.results44, go_sem, r0', r1']) rfl ?_
        have hzz : w.heap.size ≤ w1.heap.size := by simp at hz1; omega
        exact ResM.own HQ.out HC.out (by rw [HV.out, hlt.out]) (by rw [HV.out]; exact ((ho.setLow (by simp at hz1 ⊢; omega) _).setLow (by simp at hz1 ⊢; omega) _).mono hzz) (by rw [HV.out, hlt.out]; omega) (((hB1.trans (hb3.mono hzz)).setCell (by simp) _).setCell (by simp) _)
    · have HC := hide (show cutC p xs k = 2 by simp only [cutC, hm, if_true, hl.out, if_neg hk])
      have HV := hide (show cutV p xs k = [] by simp [cutV, HC.out])
      have HQ := hide (show cutP p xs k = 0 by simp [cutP, HC.out])
      clear hm ha
      go_enter Try.func44, Try.ntmps44
      go_wp2_with fail
      refine (l02Are_any _ _ _ _ _ _ g1 hn).mono ?_
      rintro e w1 ⟨rfl, hb1⟩
      rw [Hm.out]
      obtain ⟨hc1, hf1⟩ := bcell hb1
      have hz1 := hb1.size
      have hB1 := bnext hb0 hb1
      go_wp2_with fail
      refine (l01In_no _ _ _ _ hk).mono ?_
      rintro e w1' ⟨rfl, rfl⟩
      go_wp2
      refine bodyPost_ret (v := .tuple #[mom 0 none 0 0, .int .i64 2]) (by simp [results, Try.results44, go_sem, hc1, hf1]) rfl ?_
      exact ResM.nil HQ.out HV.out HC.out ((hB1.setCell (by simp) _).setCell (by simp) _)
end Go.Proofs.Ytmdfgibpkfkceaa
/- Lists of lists in a law: eqInt64SS. -/
namespace Go.Proofs.Ytmdfgibpkfkceaa
open Go.RowKit
set_option linter.unusedVariables false
set_option linter.unusedSimpArgs false

set_option maxHeartbeats 1600000 in
theorem eqSS_none (a b : Option Addr) (c d : Nat) (w : World) :
    Calls Try.prog 16 #[.slice a 0 c, .slice b 0 d] w fun e w' => e = .returned (.bool true) ∧ Below w.heap.size w w' := by
  go_enter Try.func16, Try.ntmps16
  go_wp2
  refine wp_loop_rounds 1 ?_
  rw [rounds_succ]
  go_wp2
  go_ret
  exact ⟨rfl, Below.refl _ _⟩
set_option maxRecDepth 100000 in
set_option maxHeartbeats 1600000 in
/-- Equal lists of lists are found equal. -/
theorem eqSS (g1 g2 n c d : Nat) (A A' : Nat → Option Addr) (L C C' : Nat → Nat) (X : Nat → List Int) (w : World) (h1 : Lists w g1 n A L C X) (h2 : Lists w g2 n A' L C' X) (hn : n ≤ 4000000) :
    Calls Try.prog 16 #[.slice (some ⟨g1, 0, none⟩) n c, .slice (some ⟨g2, 0, none⟩) n d] w fun e w' => e = .returned (.bool true) ∧ Below w.heap.size w w' := by
  have H1 := hide h1
  have H2 := hide h2
  clear h1 h2
  go_enter Try.func16, Try.ntmps16
  go_wp2
  go_loopw [5] (fun i wr => ∃ k : Nat, k ≤ n ∧ i = .int .i64 k ∧ Below w.heap.size w wr) (fun i _ => n - (intOf i).toNat)
  case atStart => exact ⟨0, by omega, rfl, Below.refl _ _⟩
  case round =>
    obtain ⟨k, hk, rfl, hbr⟩ := hrel
    by_cases hlt : k < n
    · obtain ⟨e1, s1, l1⟩ := H1.out.below hbr k hlt
      obtain ⟨e2, s2, l2⟩ := H2.out.below hbr k hlt
      have S1 := hide s1
      have S2 := hide s2
      clear s1 s2
      have hlt' : (k : Int) < (n : Int) := by omega
      have F : ∀ w', Below wr.heap.size wr w' → w'.cell? ⟨g1, k, none⟩ = some (.slice (A k) (L k) (C k)) ∧ w'.cell? ⟨g2, k, none⟩ = some (.slice (A' k) (L k) (C' k)) := fun w' h => ⟨cell_be h e1, cell_be h e2⟩
      have hbd : Below wr.heap.size wr wr.drew := (Below.refl _ _).drew
      go_upto_region 6 with fail
      go_region_held3 (fun w' => w'.cell? ⟨g1, k, none⟩ = some (.slice (A k) (L k) (C k)) ∧ w'.cell? ⟨g2, k, none⟩ = some (.slice (A' k) (L k) (C' k)))
        (exact F _ (by assumption))
        (first | (go_at_call 15; refine (eqI _ _ _ _ _ _ _ (S1.out.below hbd) (S2.out.below hbd) l1).mono ?_; rintro e w2 ⟨rfl, hb2⟩; have hm2 := bnext hbd hb2))
      have hB := bnext hbr hm2
      clear F
      go_wp2
      go_roundw
      case rel => exact ⟨k + 1, by omega, by go_num, hB⟩
      case measure => simp [intOf]; omega
    · obtain rfl : k = n := by omega
      go_wp2
      go_ret
      exact ⟨rfl, hbr⟩
end Go.Proofs.Ytmdfgibpkfkceaa
