/- Contracts: isMonic, FindJacobi (program). -/
import Derived.Test.YtcoloeikfechjaaFk
namespace Go.Proofs.Ytcoloeikfechjaa
open Go.RowKit
set_option linter.unusedVariables false
set_option linter.unusedSimpArgs false

set_option maxHeartbeats 800000 in
theorem isMonic_yes (a : Option Addr) (n c : Nat) (f : List Int) (w : World) (hs : SL w a n c f) (hn : 0 < n) (hb : n ≤ 1000) (hv : cf f (n - 1) = 1) :
    Calls Try.prog 20 #[.slice a n c] w fun e w' => e = .returned (.bool true) ∧ w = w' := by
  obtain ⟨bb, off, rfl, hbb, hcc⟩ := hs.at hn
  have e1 := hcc (n - 1) (by omega)
  rw [show f.getD (n - 1) 0 = 1 from hv] at e1
  have v1 : IntKind.i64.wrap ((n : Int) - 1) = (n : Int) - 1 := IntWalk.i64_in _ (by omega)
  have v2 : ((n : Int) - 1).toNat = n - 1 := by omega
  have l1 : (n : Int) - 1 < (n : Int) := by omega
  have l2 : (0 : Int) ≤ (n : Int) - 1 := by omega
  have l3 : (1 : Int) ≤ (n : Int) := by omega
  have l4 : (0 : Int) < (n : Int) := by omega
  clear hcc
  go_enter Try.func20, Try.ntmps20
  go_wp2
  go_ret
  exact ⟨rfl, rfl⟩
set_option maxHeartbeats 800000 in
theorem isMonic_no (a : Option Addr) (n c : Nat) (f : List Int) (w : World) (hs : SL w a n c f) (hn : 0 < n) (hb : n ≤ 1000) (hv : ¬ cf f (n - 1) = 1) :
    Calls Try.prog 20 #[.slice a n c] w fun e w' => e = .returned (.bool false) ∧ w = w' := by
  obtain ⟨bb, off, rfl, hbb, hcc⟩ := hs.at hn
  have e1 := hcc (n - 1) (by omega)
  obtain ⟨x, hx⟩ : ∃ x, f.getD (n - 1) 0 = x := ⟨_, rfl⟩
  have hx1 : ¬ x = 1 := by rw [← hx]; exact hv
  rw [hx] at e1
  have v1 : IntKind.i64.wrap ((n : Int) - 1) = (n : Int) - 1 := IntWalk.i64_in _ (by omega)
  have v2 : ((n : Int) - 1).toNat = n - 1 := by omega
  have l1 : (n : Int) - 1 < (n : Int) := by omega
  have l2 : (0 : Int) ≤ (n : Int) - 1 := by omega
  have l3 : (1 : Int) ≤ (n : Int) := by omega
  have l4 : (0 : Int) < (n : Int) := by omega
  have l5 : (x == 1) = false := by simp [hx1]
  clear hcc hv
  go_enter Try.func20, Try.ntmps20
  go_wp2
  go_ret
  exact ⟨by simp [hx1], rfl⟩
theorem fdC_fj {p : Int} {f g : List Int} {b : Int} {n : Nat} (hl : g.length = n) (hc : chk2 p f g = 0) (hT : fjT p f g b = true) : fdC p f g n = fjC p f g b ∧ fdP p f g n = fjP p f g b ∧ fdV p f g n = fjV p f g b ∧ fdU p f g b n = fjU p f g b := by
  have e : fdC p f g n = fjC p f g b := by unfold fdC fjC; rw [if_pos hc, if_pos hT, hl]
  exact ⟨e, by unfold fdP fjP; rw [e], by unfold fdV fjV; rw [e, hl], by unfold fdU fjU; rw [e, hl]⟩
theorem fjC_range {p : Int} {f g : List Int} {b : Int} (hc : chk2 p f g = 0) (hT : fjT p f g b = false) : fjC p f g b = 2 := by
  unfold fjC; rw [if_pos hc, if_neg (by simp [hT])]
theorem fjT_a {p : Int} {f g : List Int} {b : Int} (h : ¬ (2 ≤ f.length ∧ f.length ≤ 13 ∧ g.length + 1 = f.length)) : fjT p f g b = false := by
  unfold fjT; rw [decide_eq_false h]; rfl
theorem fjT_b {p : Int} {f g : List Int} {b : Int} (h : ¬ cf f (f.length - 1) = 1) : fjT p f g b = false := by
  unfold fjT; rw [decide_eq_false h]; simp
theorem fjT_c {p : Int} {f g : List Int} {b : Int} (h : ¬ cf g (g.length - 1) = 1) : fjT p f g b = false := by
  unfold fjT; rw [decide_eq_false h]; simp
theorem fjT_d {p : Int} {f g : List Int} {b : Int} (h : ¬ (1 ≤ b ∧ b < p)) : fjT p f g b = false := by
  unfold fjT; rw [decide_eq_false h]; simp
set_option maxRecDepth 100000 in
set_option maxHeartbeats 1600000 in
theorem implFj_c1 (p : Int) (a1 : Option Addr) (n1 c1 : Nat) (f : List Int) (a2 : Option Addr) (n2 c2 : Nat) (g : List Int) (b : Int) (w : World) (h1 : SL w a1 n1 c1 f) (h2 : SL w a2 n2 c2 g) (b1 : n1 ≤ 4000000) (b2 : n2 ≤ 4000000) (hc : chk2 p f g = 1) :
    Calls Try.prog 6 #[.int .i64 p, .slice a1 n1 c1, .slice a2 n2 c2, .int .i64 b] w (ResJ w (fjP p f g b) (fjV p f g b) (fjU p f g b) (fjC p f g b)) := by
  have hl1 := hide h1.len
  have hl2 := hide h2.len
  have HC := hide (show fjC p f g b = 1 by simp [fjC, hc])
  have HV := hide (show fjV p f g b = [] by simp [fjV, HC.out])
  have HU := hide (show fjU p f g b = [] by simp [fjU, HC.out])
  have HQ := hide (show fjP p f g b = 0 by simp [fjP, HC.out])
  have Hc := hide hc
  clear hc
  have hbw := bl1 w (.cells #[.int .i64 0, .slice none 0 0, .slice none 0 0] 24)
  obtain ⟨w2, hw2⟩ : ∃ w2, w2 = w.alloc (.cells #[.int .i64 0, .slice none 0 0, .slice none 0 0] 24) := ⟨_, rfl⟩
  have r0 : w2.cell? ⟨w.heap.size, 0, none⟩ = some (.int .i64 0) := by rw [hw2]; simp [go_sem]
  have r1 : w2.cell? ⟨w.heap.size, 1, none⟩ = some (.slice none 0 0) := by rw [hw2]; simp [go_sem]
  have r2 : w2.cell? ⟨w.heap.size, 2, none⟩ = some (.slice none 0 0) := by rw [hw2]; simp [go_sem]
  have y0 : w2.frozen? ⟨w.heap.size, 0, none⟩ = false := by rw [hw2]; simp [go_sem]
  have y1 : w2.frozen? ⟨w.heap.size, 1, none⟩ = false := by rw [hw2]; simp [go_sem]
  have y2 : w2.frozen? ⟨w.heap.size, 2, none⟩ = false := by rw [hw2]; simp [go_sem]
  have hz2 : w.heap.size + 1 = w2.heap.size := by rw [hw2]; simp
  rw [← hw2] at hbw
  have G1 := h1.below hbw
  have G2 := h2.below hbw
  go_enter Try.func6, Try.ntmps6
  go_upto_region 1 with fail
  rw [← hw2]
  clear hw2
  go_wp2_with fail
  refine (check2 p _ _ _ f _ _ _ g 1 _ G1 G2 b1 b2 Hc.out).mono ?_
  rintro e w1 ⟨rfl, hb1⟩
  have hB1 := hbw.trans (hb1.mono (by omega))
  have z1 := hb1.size
  replace r0 := cell_be hb1 r0
  replace r1 := cell_be hb1 r1
  replace r2 := cell_be hb1 r2
  replace y0 := (hb1.frozen (p := ⟨w.heap.size, 0, none⟩) (by simp; omega)).trans y0
  replace y1 := (hb1.frozen (p := ⟨w.heap.size, 1, none⟩) (by simp; omega)).trans y1
  replace y2 := (hb1.frozen (p := ⟨w.heap.size, 2, none⟩) (by simp; omega)).trans y2
  go_wp2
  refine bodyPost_ret (v := .tuple #[jac 0 none 0 0 none 0 0, .int .i64 1]) (by simp [results, Try.results6, go_sem, r0, r1, r2]) rfl ?_
  exact ResJ.nil HQ.out HV.out HU.out HC.out (((hB1.setCell (by simp) _).setCell (by simp) _).setCell (by simp) _)
set_option maxRecDepth 100000 in
set_option maxHeartbeats 1600000 in
theorem implFj_c2 (p : Int) (a1 : Option Addr) (n1 c1 : Nat) (f : List Int) (a2 : Option Addr) (n2 c2 : Nat) (g : List Int) (b : Int) (w : World) (h1 : SL w a1 n1 c1 f) (h2 : SL w a2 n2 c2 g) (b1 : n1 ≤ 4000000) (b2 : n2 ≤ 4000000) (hc : chk2 p f g = 2) :
    Calls Try.prog 6 #[.int .i64 p, .slice a1 n1 c1, .slice a2 n2 c2, .int .i64 b] w (ResJ w (fjP p f g b) (fjV p f g b) (fjU p f g b) (fjC p f g b)) := by
  have hl1 := hide h1.len
  have hl2 := hide h2.len
  have HC := hide (show fjC p f g b = 2 by simp [fjC, hc])
  have HV := hide (show fjV p f g b = [] by simp [fjV, HC.out])
  have HU := hide (show fjU p f g b = [] by simp [fjU, HC.out])
  have HQ := hide (show fjP p f g b = 0 by simp [fjP, HC.out])
  have Hc := hide hc
  clear hc
  have hbw := bl1 w (.cells #[.int .i64 0, .slice none 0 0, .slice none 0 0] 24)
  obtain ⟨w2, hw2⟩ : ∃ w2, w2 = w.alloc (.cells #[.int .i64 0, .slice none 0 0, .slice none 0 0] 24) := ⟨_, rfl⟩
  have r0 : w2.cell? ⟨w.heap.size, 0, none⟩ = some (.int .i64 0) := by rw [hw2]; simp [go_sem]
  have r1 : w2.cell? ⟨w.heap.size, 1, none⟩ = some (.slice none 0 0) := by rw [hw2]; simp [go_sem]
  have r2 : w2.cell? ⟨w.heap.size, 2, none⟩ = some (.slice none 0 0) := by rw [hw2]; simp [go_sem]
  have y0 : w2.frozen? ⟨w.heap.size, 0, none⟩ = false := by rw [hw2]; simp [go_sem]
  have y1 : w2.frozen? ⟨w.heap.size, 1, none⟩ = false := by rw [hw2]; simp [go_sem]
  have y2 : w2.frozen? ⟨w.heap.size, 2, none⟩ = false := by rw [hw2]; simp [go_sem]
  have hz2 : w.heap.size + 1 = w2.heap.size := by rw [hw2]; simp
  rw [← hw2] at hbw
  have G1 := h1.below hbw
  have G2 := h2.below hbw
  go_enter Try.func6, Try.ntmps6
  go_upto_region 1 with fail
  rw [← hw2]
  clear hw2
  go_wp2_with fail
  refine (check2 p _ _ _ f _ _ _ g 2 _ G1 G2 b1 b2 Hc.out).mono ?_
  rintro e w1 ⟨rfl, hb1⟩
  have hB1 := hbw.trans (hb1.mono (by omega))
  have z1 := hb1.size
  replace r0 := cell_be hb1 r0
  replace r1 := cell_be hb1 r1
  replace r2 := cell_be hb1 r2
  replace y0 := (hb1.frozen (p := ⟨w.heap.size, 0, none⟩) (by simp; omega)).trans y0
  replace y1 := (hb1.frozen (p := ⟨w.heap.size, 1, none⟩) (by simp; omega)).trans y1
  replace y2 := (hb1.frozen (p := ⟨w.heap.size, 2, none⟩) (by simp; omega)).trans y2
  go_wp2
  refine bodyPost_ret (v := .tuple #[jac 0 none 0 0 none 0 0, .int .i64 2]) (by simp [results, Try.results6, go_sem, r0, r1, r2]) rfl ?_
  exact ResJ.nil HQ.out HV.out HU.out HC.out (((hB1.setCell (by simp) _).setCell (by simp) _).setCell (by simp) _)
set_option maxRecDepth 100000 in
set_option maxHeartbeats 1600000 in
theorem implFj_k1 (p : Int) (a1 : Option Addr) (n1 c1 : Nat) (f : List Int) (a2 : Option Addr) (n2 c2 : Nat) (g : List Int) (b : Int) (w : World) (h1 : SL w a1 n1 c1 f) (h2 : SL w a2 n2 c2 g) (b1 : n1 ≤ 4000000) (b2 : n2 ≤ 4000000) (hc : chk2 p f g = 0) (d1 : n1 ≤ 25) (d2 : n2 ≤ 25) (k1 : n1 < 2) :
    Calls Try.prog 6 #[.int .i64 p, .slice a1 n1 c1, .slice a2 n2 c2, .int .i64 b] w (ResJ w (fjP p f g b) (fjV p f g b) (fjU p f g b) (fjC p f g b)) := by
  have hl1 := hide h1.len
  have hl2 := hide h2.len
  have HC := hide (show fjC p f g b = 2 by exact fjC_range hc (fjT_a (by have := hl1.out; omega)))
  have HV := hide (show fjV p f g b = [] by simp [fjV, HC.out])
  have HU := hide (show fjU p f g b = [] by simp [fjU, HC.out])
  have HQ := hide (show fjP p f g b = 0 by simp [fjP, HC.out])
  have Hc := hide hc
  have o1 : (n1 : Int) - 1 < 1 := by omega
  clear hc
  have hbw := bl1 w (.cells #[.int .i64 0, .slice none 0 0, .slice none 0 0] 24)
  obtain ⟨w2, hw2⟩ : ∃ w2, w2 = w.alloc (.cells #[.int .i64 0, .slice none 0 0, .slice none 0 0] 24) := ⟨_, rfl⟩
  have r0 : w2.cell? ⟨w.heap.size, 0, none⟩ = some (.int .i64 0) := by rw [hw2]; simp [go_sem]
  have r1 : w2.cell? ⟨w.heap.size, 1, none⟩ = some (.slice none 0 0) := by rw [hw2]; simp [go_sem]
  have r2 : w2.cell? ⟨w.heap.size, 2, none⟩ = some (.slice none 0 0) := by rw [hw2]; simp [go_sem]
  have y0 : w2.frozen? ⟨w.heap.size, 0, none⟩ = false := by rw [hw2]; simp [go_sem]
  have y1 : w2.frozen? ⟨w.heap.size, 1, none⟩ = false := by rw [hw2]; simp [go_sem]
  have y2 : w2.frozen? ⟨w.heap.size, 2, none⟩ = false := by rw [hw2]; simp [go_sem]
  have hz2 : w.heap.size + 1 = w2.heap.size := by rw [hw2]; simp
  rw [← hw2] at hbw
  have G1 := h1.below hbw
  have G2 := h2.below hbw
  go_enter Try.func6, Try.ntmps6
  go_upto_region 1 with fail
  rw [← hw2]
  clear hw2
  go_wp2_with fail
  refine (check2 p _ _ _ f _ _ _ g 0 _ G1 G2 b1 b2 Hc.out).mono ?_
  rintro e w1 ⟨rfl, hb1⟩
  have hB1 := hbw.trans (hb1.mono (by omega))
  have z1 := hb1.size
  replace r0 := cell_be hb1 r0
  replace r1 := cell_be hb1 r1
  replace r2 := cell_be hb1 r2
  replace y0 := (hb1.frozen (p := ⟨w.heap.size, 0, none⟩) (by simp; omega)).trans y0
  replace y1 := (hb1.frozen (p := ⟨w.heap.size, 1, none⟩) (by simp; omega)).trans y1
  replace y2 := (hb1.frozen (p := ⟨w.heap.size, 2, none⟩) (by simp; omega)).trans y2
  go_wp2_with (go_at_call 19; refine (degree_any _ _ _ _ (by omega)).mono ?_; rintro e w' ⟨rfl, rfl⟩)
  refine bodyPost_ret (v := .tuple #[jac 0 none 0 0 none 0 0, .int .i64 2]) (by simp [results, Try.results6, go_sem, r0, r1, r2]) rfl ?_
  exact ResJ.nil HQ.out HV.out HU.out HC.out (((hB1.setCell (by simp) _).setCell (by simp) _).setCell (by simp) _)
set_option maxRecDepth 100000 in
set_option maxHeartbeats 1600000 in
theorem implFj_k2 (p : Int) (a1 : Option Addr) (n1 c1 : Nat) (f : List Int) (a2 : Option Addr) (n2 c2 : Nat) (g : List Int) (b : Int) (w : World) (h1 : SL w a1 n1 c1 f) (h2 : SL w a2 n2 c2 g) (b1 : n1 ≤ 4000000) (b2 : n2 ≤ 4000000) (hc : chk2 p f g = 0) (d1 : n1 ≤ 25) (d2 : n2 ≤ 25) (k1 : ¬ (n1 < 2)) (k2 : 13 < n1) :
    Calls Try.prog 6 #[.int .i64 p, .slice a1 n1 c1, .slice a2 n2 c2, .int .i64 b] w (ResJ w (fjP p f g b) (fjV p f g b) (fjU p f g b) (fjC p f g b)) := by
  have hl1 := hide h1.len
  have hl2 := hide h2.len
  have HC := hide (show fjC p f g b = 2 by exact fjC_range hc (fjT_a (by have := hl1.out; omega)))
  have HV := hide (show fjV p f g b = [] by simp [fjV, HC.out])
  have HU := hide (show fjU p f g b = [] by simp [fjU, HC.out])
  have HQ := hide (show fjP p f g b = 0 by simp [fjP, HC.out])
  have Hc := hide hc
  have o1 : ¬ ((n1 : Int) - 1 < 1) := by omega
  have o2 : 12 < (n1 : Int) - 1 := by omega
  clear hc
  have hbw := bl1 w (.cells #[.int .i64 0, .slice none 0 0, .slice none 0 0] 24)
  obtain ⟨w2, hw2⟩ : ∃ w2, w2 = w.alloc (.cells #[.int .i64 0, .slice none 0 0, .slice none 0 0] 24) := ⟨_, rfl⟩
  have r0 : w2.cell? ⟨w.heap.size, 0, none⟩ = some (.int .i64 0) := by rw [hw2]; simp [go_sem]
  have r1 : w2.cell? ⟨w.heap.size, 1, none⟩ = some (.slice none 0 0) := by rw [hw2]; simp [go_sem]
  have r2 : w2.cell? ⟨w.heap.size, 2, none⟩ = some (.slice none 0 0) := by rw [hw2]; simp [go_sem]
  have y0 : w2.frozen? ⟨w.heap.size, 0, none⟩ = false := by rw [hw2]; simp [go_sem]
  have y1 : w2.frozen? ⟨w.heap.size, 1, none⟩ = false := by rw [hw2]; simp [go_sem]
  have y2 : w2.frozen? ⟨w.heap.size, 2, none⟩ = false := by rw [hw2]; simp [go_sem]
  have hz2 : w.heap.size + 1 = w2.heap.size := by rw [hw2]; simp
  rw [← hw2] at hbw
  have G1 := h1.below hbw
  have G2 := h2.below hbw
  go_enter Try.func6, Try.ntmps6
  go_upto_region 1 with fail
  rw [← hw2]
  clear hw2
  go_wp2_with fail
  refine (check2 p _ _ _ f _ _ _ g 0 _ G1 G2 b1 b2 Hc.out).mono ?_
  rintro e w1 ⟨rfl, hb1⟩
  have hB1 := hbw.trans (hb1.mono (by omega))
  have z1 := hb1.size
  replace r0 := cell_be hb1 r0
  replace r1 := cell_be hb1 r1
  replace r2 := cell_be hb1 r2
  replace y0 := (hb1.frozen (p := ⟨w.heap.size, 0, none⟩) (by simp; omega)).trans y0
  replace y1 := (hb1.frozen (p := ⟨w.heap.size, 1, none⟩) (by simp; omega)).trans y1
  replace y2 := (hb1.frozen (p := ⟨w.heap.size, 2, none⟩) (by simp; omega)).trans y2
  go_wp2_with (go_at_call 19; refine (degree_any _ _ _ _ (by omega)).mono ?_; rintro e w' ⟨rfl, rfl⟩)
  refine bodyPost_ret (v := .tuple #[jac 0 none 0 0 none 0 0, .int .i64 2]) (by simp [results, Try.results6, go_sem, r0, r1, r2]) rfl ?_
  exact ResJ.nil HQ.out HV.out HU.out HC.out (((hB1.setCell (by simp) _).setCell (by simp) _).setCell (by simp) _)
set_option maxRecDepth 100000 in
set_option maxHeartbeats 1600000 in
theorem implFj_k3 (p : Int) (a1 : Option Addr) (n1 c1 : Nat) (f : List Int) (a2 : Option Addr) (n2 c2 : Nat) (g : List Int) (b : Int) (w : World) (h1 : SL w a1 n1 c1 f) (h2 : SL w a2 n2 c2 g) (b1 : n1 ≤ 4000000) (b2 : n2 ≤ 4000000) (hc : chk2 p f g = 0) (d1 : n1 ≤ 25) (d2 : n2 ≤ 25) (k1 : ¬ (n1 < 2)) (k2 : ¬ (13 < n1)) (k3 : n2 + 1 ≠ n1) :
    Calls Try.prog 6 #[.int .i64 p, .slice a1 n1 c1, .slice a2 n2 c2, .int .i64 b] w (ResJ w (fjP p f g b) (fjV p f g b) (fjU p f g b) (fjC p f g b)) := by
  have hl1 := hide h1.len
  have hl2 := hide h2.len
  have HC := hide (show fjC p f g b = 2 by exact fjC_range hc (fjT_a (by have := hl1.out; have := hl2.out; omega)))
  have HV := hide (show fjV p f g b = [] by simp [fjV, HC.out])
  have HU := hide (show fjU p f g b = [] by simp [fjU, HC.out])
  have HQ := hide (show fjP p f g b = 0 by simp [fjP, HC.out])
  have Hc := hide hc
  have o1 : ¬ ((n1 : Int) - 1 < 1) := by omega
  have o2 : ¬ (12 < (n1 : Int) - 1) := by omega
  have o3 : IntKind.i64.wrap ((n1 : Int) - 1 - 1) = (n1 : Int) - 1 - 1 := IntWalk.i64_in _ (by omega)
  have o4 : ((n2 : Int) - 1 != (n1 : Int) - 1 - 1) = true := by simp; omega
  clear hc
  have hbw := bl1 w (.cells #[.int .i64 0, .slice none 0 0, .slice none 0 0] 24)
  obtain ⟨w2, hw2⟩ : ∃ w2, w2 = w.alloc (.cells #[.int .i64 0, .slice none 0 0, .slice none 0 0] 24) := ⟨_, rfl⟩
  have r0 : w2.cell? ⟨w.heap.size, 0, none⟩ = some (.int .i64 0) := by rw [hw2]; simp [go_sem]
  have r1 : w2.cell? ⟨w.heap.size, 1, none⟩ = some (.slice none 0 0) := by rw [hw2]; simp [go_sem]
  have r2 : w2.cell? ⟨w.heap.size, 2, none⟩ = some (.slice none 0 0) := by rw [hw2]; simp [go_sem]
  have y0 : w2.frozen? ⟨w.heap.size, 0, none⟩ = false := by rw [hw2]; simp [go_sem]
  have y1 : w2.frozen? ⟨w.heap.size, 1, none⟩ = false := by rw [hw2]; simp [go_sem]
  have y2 : w2.frozen? ⟨w.heap.size, 2, none⟩ = false := by rw [hw2]; simp [go_sem]
  have hz2 : w.heap.size + 1 = w2.heap.size := by rw [hw2]; simp
  rw [← hw2] at hbw
  have G1 := h1.below hbw
  have G2 := h2.below hbw
  go_enter Try.func6, Try.ntmps6
  go_upto_region 1 with fail
  rw [← hw2]
  clear hw2
  go_wp2_with fail
  refine (check2 p _ _ _ f _ _ _ g 0 _ G1 G2 b1 b2 Hc.out).mono ?_
  rintro e w1 ⟨rfl, hb1⟩
  have hB1 := hbw.trans (hb1.mono (by omega))
  have z1 := hb1.size
  replace r0 := cell_be hb1 r0
  replace r1 := cell_be hb1 r1
  replace r2 := cell_be hb1 r2
  replace y0 := (hb1.frozen (p := ⟨w.heap.size, 0, none⟩) (by simp; omega)).trans y0
  replace y1 := (hb1.frozen (p := ⟨w.heap.size, 1, none⟩) (by simp; omega)).trans y1
  replace y2 := (hb1.frozen (p := ⟨w.heap.size, 2, none⟩) (by simp; omega)).trans y2
  go_wp2_with (go_at_call 19; refine (degree_any _ _ _ _ (by omega)).mono ?_; rintro e w' ⟨rfl, rfl⟩)
  refine bodyPost_ret (v := .tuple #[jac 0 none 0 0 none 0 0, .int .i64 2]) (by simp [results, Try.results6, go_sem, r0, r1, r2]) rfl ?_
  exact ResJ.nil HQ.out HV.out HU.out HC.out (((hB1.setCell (by simp) _).setCell (by simp) _).setCell (by simp) _)
set_option maxRecDepth 100000 in
set_option maxHeartbeats 1600000 in
theorem implFj_k4 (p : Int) (a1 : Option Addr) (n1 c1 : Nat) (f : List Int) (a2 : Option Addr) (n2 c2 : Nat) (g : List Int) (b : Int) (w : World) (h1 : SL w a1 n1 c1 f) (h2 : SL w a2 n2 c2 g) (b1 : n1 ≤ 4000000) (b2 : n2 ≤ 4000000) (hc : chk2 p f g = 0) (d1 : n1 ≤ 25) (d2 : n2 ≤ 25) (k1 : ¬ (n1 < 2)) (k2 : ¬ (13 < n1)) (k3 : ¬ (n2 + 1 ≠ n1)) (k4 : ¬ cf f (n1 - 1) = 1) :
    Calls Try.prog 6 #[.int .i64 p, .slice a1 n1 c1, .slice a2 n2 c2, .int .i64 b] w (ResJ w (fjP p f g b) (fjV p f g b) (fjU p f g b) (fjC p f g b)) := by
  have hl1 := hide h1.len
  have hl2 := hide h2.len
  have HC := hide (show fjC p f g b = 2 by exact fjC_range hc (fjT_b (by rw [hl1.out]; exact k4)))
  have HV := hide (show fjV p f g b = [] by simp [fjV, HC.out])
  have HU := hide (show fjU p f g b = [] by simp [fjU, HC.out])
  have HQ := hide (show fjP p f g b = 0 by simp [fjP, HC.out])
  have Hc := hide hc
  have o1 : ¬ ((n1 : Int) - 1 < 1) := by omega
  have o2 : ¬ (12 < (n1 : Int) - 1) := by omega
  have o3 : IntKind.i64.wrap ((n1 : Int) - 1 - 1) = (n1 : Int) - 1 - 1 := IntWalk.i64_in _ (by omega)
  have o4 : ((n2 : Int) - 1 != (n1 : Int) - 1 - 1) = false := by simp; omega
  clear hc
  have hbw := bl1 w (.cells #[.int .i64 0, .slice none 0 0, .slice none 0 0] 24)
  obtain ⟨w2, hw2⟩ : ∃ w2, w2 = w.alloc (.cells #[.int .i64 0, .slice none 0 0, .slice none 0 0] 24) := ⟨_, rfl⟩
  have r0 : w2.cell? ⟨w.heap.size, 0, none⟩ = some (.int .i64 0) := by rw [hw2]; simp [go_sem]
  have r1 : w2.cell? ⟨w.heap.size, 1, none⟩ = some (.slice none 0 0) := by rw [hw2]; simp [go_sem]
  have r2 : w2.cell? ⟨w.heap.size, 2, none⟩ = some (.slice none 0 0) := by rw [hw2]; simp [go_sem]
  have y0 : w2.frozen? ⟨w.heap.size, 0, none⟩ = false := by rw [hw2]; simp [go_sem]
  have y1 : w2.frozen? ⟨w.heap.size, 1, none⟩ = false := by rw [hw2]; simp [go_sem]
  have y2 : w2.frozen? ⟨w.heap.size, 2, none⟩ = false := by rw [hw2]; simp [go_sem]
  have hz2 : w.heap.size + 1 = w2.heap.size := by rw [hw2]; simp
  rw [← hw2] at hbw
  have G1 := h1.below hbw
  have G2 := h2.below hbw
  go_enter Try.func6, Try.ntmps6
  go_upto_region 1 with fail
  rw [← hw2]
  clear hw2
  go_wp2_with fail
  refine (check2 p _ _ _ f _ _ _ g 0 _ G1 G2 b1 b2 Hc.out).mono ?_
  rintro e w1 ⟨rfl, hb1⟩
  have hB1 := hbw.trans (hb1.mono (by omega))
  have z1 := hb1.size
  replace r0 := cell_be hb1 r0
  replace r1 := cell_be hb1 r1
  replace r2 := cell_be hb1 r2
  replace y0 := (hb1.frozen (p := ⟨w.heap.size, 0, none⟩) (by simp; omega)).trans y0
  replace y1 := (hb1.frozen (p := ⟨w.heap.size, 1, none⟩) (by simp; omega)).trans y1
  replace y2 := (hb1.frozen (p := ⟨w.heap.size, 2, none⟩) (by simp; omega)).trans y2
  go_wp2_with (go_at_call 19; refine (degree_any _ _ _ _ (by omega)).mono ?_; rintro e w' ⟨rfl, rfl⟩)
  refine (isMonic_no _ _ _ f _ (G1.below hb1) (by omega) (by omega) k4).mono ?_
  rintro e w' ⟨rfl, rfl⟩
  go_wp2_with fail
  refine bodyPost_ret (v := .tuple #[jac 0 none 0 0 none 0 0, .int .i64 2]) (by simp [results, Try.results6, go_sem, r0, r1, r2]) rfl ?_
  exact ResJ.nil HQ.out HV.out HU.out HC.out (((hB1.setCell (by simp) _).setCell (by simp) _).setCell (by simp) _)
set_option maxRecDepth 100000 in
set_option maxHeartbeats 1600000 in
theorem implFj_k5 (p : Int) (a1 : Option Addr) (n1 c1 : Nat) (f : List Int) (a2 : Option Addr) (n2 c2 : Nat) (g : List Int) (b : Int) (w : World) (h1 : SL w a1 n1 c1 f) (h2 : SL w a2 n2 c2 g) (b1 : n1 ≤ 4000000) (b2 : n2 ≤ 4000000) (hc : chk2 p f g = 0) (d1 : n1 ≤ 25) (d2 : n2 ≤ 25) (k1 : ¬ (n1 < 2)) (k2 : ¬ (13 < n1)) (k3 : ¬ (n2 + 1 ≠ n1)) (k4 : ¬ (¬ cf f (n1 - 1) = 1)) (k5 : ¬ cf g (n2 - 1) = 1) :
    Calls Try.prog 6 #[.int .i64 p, .slice a1 n1 c1, .slice a2 n2 c2, .int .i64 b] w (ResJ w (fjP p f g b) (fjV p f g b) (fjU p f g b) (fjC p f g b)) := by
  have hl1 := hide h1.len
  have hl2 := hide h2.len
  have HC := hide (show fjC p f g b = 2 by exact fjC_range hc (fjT_c (by rw [hl2.out]; exact k5)))
  have HV := hide (show fjV p f g b = [] by simp [fjV, HC.out])
  have HU := hide (show fjU p f g b = [] by simp [fjU, HC.out])
  have HQ := hide (show fjP p f g b = 0 by simp [fjP, HC.out])
  have Hc := hide hc
  have o1 : ¬ ((n1 : Int) - 1 < 1) := by omega
  have o2 : ¬ (12 < (n1 : Int) - 1) := by omega
  have o3 : IntKind.i64.wrap ((n1 : Int) - 1 - 1) = (n1 : Int) - 1 - 1 := IntWalk.i64_in _ (by omega)
  have o4 : ((n2 : Int) - 1 != (n1 : Int) - 1 - 1) = false := by simp; omega
  clear hc
  have hbw := bl1 w (.cells #[.int .i64 0, .slice none 0 0, .slice none 0 0] 24)
  obtain ⟨w2, hw2⟩ : ∃ w2, w2 = w.alloc (.cells #[.int .i64 0, .slice none 0 0, .slice none 0 0] 24) := ⟨_, rfl⟩
  have r0 : w2.cell? ⟨w.heap.size, 0, none⟩ = some (.int .i64 0) := by rw [hw2]; simp [go_sem]
  have r1 : w2.cell? ⟨w.heap.size, 1, none⟩ = some (.slice none 0 0) := by rw [hw2]; simp [go_sem]
  have r2 : w2.cell? ⟨w.heap.size, 2, none⟩ = some (.slice none 0 0) := by rw [hw2]; simp [go_sem]
  have y0 : w2.frozen? ⟨w.heap.size, 0, none⟩ = false := by rw [hw2]; simp [go_sem]
  have y1 : w2.frozen? ⟨w.heap.size, 1, none⟩ = false := by rw [hw2]; simp [go_sem]
  have y2 : w2.frozen? ⟨w.heap.size, 2, none⟩ = false := by rw [hw2]; simp [go_sem]
  have hz2 : w.heap.size + 1 = w2.heap.size := by rw [hw2]; simp
  rw [← hw2] at hbw
  have G1 := h1.below hbw
  have G2 := h2.below hbw
  go_enter Try.func6, Try.ntmps6
  go_upto_region 1 with fail
  rw [← hw2]
  clear hw2
  go_wp2_with fail
  refine (check2 p _ _ _ f _ _ _ g 0 _ G1 G2 b1 b2 Hc.out).mono ?_
  rintro e w1 ⟨rfl, hb1⟩
  have hB1 := hbw.trans (hb1.mono (by omega))
  have z1 := hb1.size
  replace r0 := cell_be hb1 r0
  replace r1 := cell_be hb1 r1
  replace r2 := cell_be hb1 r2
  replace y0 := (hb1.frozen (p := ⟨w.heap.size, 0, none⟩) (by simp; omega)).trans y0
  replace y1 := (hb1.frozen (p := ⟨w.heap.size, 1, none⟩) (by simp; omega)).trans y1
  replace y2 := (hb1.frozen (p := ⟨w.heap.size, 2, none⟩) (by simp; omega)).trans y2
  go_wp2_with (go_at_call 19; refine (degree_any _ _ _ _ (by omega)).mono ?_; rintro e w' ⟨rfl, rfl⟩)
  refine (isMonic_yes _ _ _ f _ (G1.below hb1) (by omega) (by omega) (Decidable.byContradiction k4)).mono ?_
  rintro e w' ⟨rfl, rfl⟩
  go_wp2_with fail
  refine (isMonic_no _ _ _ g _ (G2.below hb1) (by omega) (by omega) k5).mono ?_
  rintro e w' ⟨rfl, rfl⟩
  go_wp2_with fail
  refine bodyPost_ret (v := .tuple #[jac 0 none 0 0 none 0 0, .int .i64 2]) (by simp [results, Try.results6, go_sem, r0, r1, r2]) rfl ?_
  exact ResJ.nil HQ.out HV.out HU.out HC.out (((hB1.setCell (by simp) _).setCell (by simp) _).setCell (by simp) _)
set_option maxRecDepth 100000 in
set_option maxHeartbeats 1600000 in
theorem implFj_k6 (p : Int) (a1 : Option Addr) (n1 c1 : Nat) (f : List Int) (a2 : Option Addr) (n2 c2 : Nat) (g : List Int) (b : Int) (w : World) (h1 : SL w a1 n1 c1 f) (h2 : SL w a2 n2 c2 g) (b1 : n1 ≤ 4000000) (b2 : n2 ≤ 4000000) (hc : chk2 p f g = 0) (d1 : n1 ≤ 25) (d2 : n2 ≤ 25) (k1 : ¬ (n1 < 2)) (k2 : ¬ (13 < n1)) (k3 : ¬ (n2 + 1 ≠ n1)) (k4 : ¬ (¬ cf f (n1 - 1) = 1)) (k5 : ¬ (¬ cf g (n2 - 1) = 1)) (k6 : ¬ (0 ≤ b ∧ b < p)) :
    Calls Try.prog 6 #[.int .i64 p, .slice a1 n1 c1, .slice a2 n2 c2, .int .i64 b] w (ResJ w (fjP p f g b) (fjV p f g b) (fjU p f g b) (fjC p f g b)) := by
  have hl1 := hide h1.len
  have hl2 := hide h2.len
  have HC := hide (show fjC p f g b = 2 by exact fjC_range hc (fjT_d (by omega)))
  have HV := hide (show fjV p f g b = [] by simp [fjV, HC.out])
  have HU := hide (show fjU p f g b = [] by simp [fjU, HC.out])
  have HQ := hide (show fjP p f g b = 0 by simp [fjP, HC.out])
  have Hc := hide hc
  have o1 : ¬ ((n1 : Int) - 1 < 1) := by omega
  have o2 : ¬ (12 < (n1 : Int) - 1) := by omega
  have o3 : IntKind.i64.wrap ((n1 : Int) - 1 - 1) = (n1 : Int) - 1 - 1 := IntWalk.i64_in _ (by omega)
  have o4 : ((n2 : Int) - 1 != (n1 : Int) - 1 - 1) = false := by simp; omega
  clear hc
  have hbw := bl1 w (.cells #[.int .i64 0, .slice none 0 0, .slice none 0 0] 24)
  obtain ⟨w2, hw2⟩ : ∃ w2, w2 = w.alloc (.cells #[.int .i64 0, .slice none 0 0, .slice none 0 0] 24) := ⟨_, rfl⟩
  have r0 : w2.cell? ⟨w.heap.size, 0, none⟩ = some (.int .i64 0) := by rw [hw2]; simp [go_sem]
  have r1 : w2.cell? ⟨w.heap.size, 1, none⟩ = some (.slice none 0 0) := by rw [hw2]; simp [go_sem]
  have r2 : w2.cell? ⟨w.heap.size, 2, none⟩ = some (.slice none 0 0) := by rw [hw2]; simp [go_sem]
  have y0 : w2.frozen? ⟨w.heap.size, 0, none⟩ = false := by rw [hw2]; simp [go_sem]
  have y1 : w2.frozen? ⟨w.heap.size, 1, none⟩ = false := by rw [hw2]; simp [go_sem]
  have y2 : w2.frozen? ⟨w.heap.size, 2, none⟩ = false := by rw [hw2]; simp [go_sem]
  have hz2 : w.heap.size + 1 = w2.heap.size := by rw [hw2]; simp
  rw [← hw2] at hbw
  have G1 := h1.below hbw
  have G2 := h2.below hbw
  go_enter Try.func6, Try.ntmps6
  go_upto_region 1 with fail
  rw [← hw2]
  clear hw2
  go_wp2_with fail
  refine (check2 p _ _ _ f _ _ _ g 0 _ G1 G2 b1 b2 Hc.out).mono ?_
  rintro e w1 ⟨rfl, hb1⟩
  have hB1 := hbw.trans (hb1.mono (by omega))
  have z1 := hb1.size
  replace r0 := cell_be hb1 r0
  replace r1 := cell_be hb1 r1
  replace r2 := cell_be hb1 r2
  replace y0 := (hb1.frozen (p := ⟨w.heap.size, 0, none⟩) (by simp; omega)).trans y0
  replace y1 := (hb1.frozen (p := ⟨w.heap.size, 1, none⟩) (by simp; omega)).trans y1
  replace y2 := (hb1.frozen (p := ⟨w.heap.size, 2, none⟩) (by simp; omega)).trans y2
  go_wp2_with (go_at_call 19; refine (degree_any _ _ _ _ (by omega)).mono ?_; rintro e w' ⟨rfl, rfl⟩)
  refine (isMonic_yes _ _ _ f _ (G1.below hb1) (by omega) (by omega) (Decidable.byContradiction k4)).mono ?_
  rintro e w' ⟨rfl, rfl⟩
  go_wp2_with fail
  refine (isMonic_yes _ _ _ g _ (G2.below hb1) (by omega) (by omega) (Decidable.byContradiction k5)).mono ?_
  rintro e w' ⟨rfl, rfl⟩
  go_wp2_with fail
  refine (isNumber_no _ _ _ k6).mono ?_
  rintro e w' ⟨rfl, rfl⟩
  go_wp2_with fail
  refine bodyPost_ret (v := .tuple #[jac 0 none 0 0 none 0 0, .int .i64 2]) (by simp [results, Try.results6, go_sem, r0, r1, r2]) rfl ?_
  exact ResJ.nil HQ.out HV.out HU.out HC.out (((hB1.setCell (by simp) _).setCell (by simp) _).setCell (by simp) _)
set_option maxRecDepth 100000 in
set_option maxHeartbeats 1600000 in
theorem implFj_k7 (p : Int) (a1 : Option Addr) (n1 c1 : Nat) (f : List Int) (a2 : Option Addr) (n2 c2 : Nat) (g : List Int) (b : Int) (w : World) (h1 : SL w a1 n1 c1 f) (h2 : SL w a2 n2 c2 g) (b1 : n1 ≤ 4000000) (b2 : n2 ≤ 4000000) (hc : chk2 p f g = 0) (d1 : n1 ≤ 25) (d2 : n2 ≤ 25) (k1 : ¬ (n1 < 2)) (k2 : ¬ (13 < n1)) (k3 : ¬ (n2 + 1 ≠ n1)) (k4 : ¬ (¬ cf f (n1 - 1) = 1)) (k5 : ¬ (¬ cf g (n2 - 1) = 1)) (k6 : ¬ (¬ (0 ≤ b ∧ b < p))) (k7 : b = 0) :
    Calls Try.prog 6 #[.int .i64 p, .slice a1 n1 c1, .slice a2 n2 c2, .int .i64 b] w (ResJ w (fjP p f g b) (fjV p f g b) (fjU p f g b) (fjC p f g b)) := by
  have hl1 := hide h1.len
  have hl2 := hide h2.len
  have HC := hide (show fjC p f g b = 2 by exact fjC_range hc (fjT_d (by omega)))
  have HV := hide (show fjV p f g b = [] by simp [fjV, HC.out])
  have HU := hide (show fjU p f g b = [] by simp [fjU, HC.out])
  have HQ := hide (show fjP p f g b = 0 by simp [fjP, HC.out])
  have Hc := hide hc
  have o1 : ¬ ((n1 : Int) - 1 < 1) := by omega
  have o2 : ¬ (12 < (n1 : Int) - 1) := by omega
  have o3 : IntKind.i64.wrap ((n1 : Int) - 1 - 1) = (n1 : Int) - 1 - 1 := IntWalk.i64_in _ (by omega)
  have o4 : ((n2 : Int) - 1 != (n1 : Int) - 1 - 1) = false := by simp; omega
  clear hc
  have hbw := bl1 w (.cells #[.int .i64 0, .slice none 0 0, .slice none 0 0] 24)
  obtain ⟨w2, hw2⟩ : ∃ w2, w2 = w.alloc (.cells #[.int .i64 0, .slice none 0 0, .slice none 0 0] 24) := ⟨_, rfl⟩
  have r0 : w2.cell? ⟨w.heap.size, 0, none⟩ = some (.int .i64 0) := by rw [hw2]; simp [go_sem]
  have r1 : w2.cell? ⟨w.heap.size, 1, none⟩ = some (.slice none 0 0) := by rw [hw2]; simp [go_sem]
  have r2 : w2.cell? ⟨w.heap.size, 2, none⟩ = some (.slice none 0 0) := by rw [hw2]; simp [go_sem]
  have y0 : w2.frozen? ⟨w.heap.size, 0, none⟩ = false := by rw [hw2]; simp [go_sem]
  have y1 : w2.frozen? ⟨w.heap.size, 1, none⟩ = false := by rw [hw2]; simp [go_sem]
  have y2 : w2.frozen? ⟨w.heap.size, 2, none⟩ = false := by rw [hw2]; simp [go_sem]
  have hz2 : w.heap.size + 1 = w2.heap.size := by rw [hw2]; simp
  rw [← hw2] at hbw
  have G1 := h1.below hbw
  have G2 := h2.below hbw
  go_enter Try.func6, Try.ntmps6
  go_upto_region 1 with fail
  rw [← hw2]
  clear hw2
  go_wp2_with fail
  refine (check2 p _ _ _ f _ _ _ g 0 _ G1 G2 b1 b2 Hc.out).mono ?_
  rintro e w1 ⟨rfl, hb1⟩
  have hB1 := hbw.trans (hb1.mono (by omega))
  have z1 := hb1.size
  replace r0 := cell_be hb1 r0
  replace r1 := cell_be hb1 r1
  replace r2 := cell_be hb1 r2
  replace y0 := (hb1.frozen (p := ⟨w.heap.size, 0, none⟩) (by simp; omega)).trans y0
  replace y1 := (hb1.frozen (p := ⟨w.heap.size, 1, none⟩) (by simp; omega)).trans y1
  replace y2 := (hb1.frozen (p := ⟨w.heap.size, 2, none⟩) (by simp; omega)).trans y2
  go_wp2_with (go_at_call 19; refine (degree_any _ _ _ _ (by omega)).mono ?_; rintro e w' ⟨rfl, rfl⟩)
  refine (isMonic_yes _ _ _ f _ (G1.below hb1) (by omega) (by omega) (Decidable.byContradiction k4)).mono ?_
  rintro e w' ⟨rfl, rfl⟩
  go_wp2_with fail
  refine (isMonic_yes _ _ _ g _ (G2.below hb1) (by omega) (by omega) (Decidable.byContradiction k5)).mono ?_
  rintro e w' ⟨rfl, rfl⟩
  go_wp2_with fail
  refine (isNumber_yes _ _ _ (by omega) (by omega)).mono ?_
  rintro e w' ⟨rfl, rfl⟩
  go_wp2_with fail
  refine bodyPost_ret (v := .tuple #[jac 0 none 0 0 none 0 0, .int .i64 2]) (by simp [results, Try.results6, go_sem, r0, r1, r2]) rfl ?_
  exact ResJ.nil HQ.out HV.out HU.out HC.out (((hB1.setCell (by simp) _).setCell (by simp) _).setCell (by simp) _)
set_option maxRecDepth 100000 in
set_option maxHeartbeats 1600000 in
theorem implFj_ok (p : Int) (a1 : Option Addr) (n1 c1 : Nat) (f : List Int) (a2 : Option Addr) (n2 c2 : Nat) (g : List Int) (b : Int) (w : World) (h1 : SL w a1 n1 c1 f) (h2 : SL w a2 n2 c2 g) (b1 : n1 ≤ 4000000) (b2 : n2 ≤ 4000000) (hc : chk2 p f g = 0) (d1 : n1 ≤ 25) (d2 : n2 ≤ 25) (k1 : ¬ (n1 < 2)) (k2 : ¬ (13 < n1)) (k3 : ¬ (n2 + 1 ≠ n1)) (k4 : ¬ (¬ cf f (n1 - 1) = 1)) (k5 : ¬ (¬ cf g (n2 - 1) = 1)) (k6 : ¬ (¬ (0 ≤ b ∧ b < p))) (k7 : ¬ (b = 0)) (hpr : primeB p = true) (hf : polyB p f = true) (hg : polyB p g = true) :
    Calls Try.prog 6 #[.int .i64 p, .slice a1 n1 c1, .slice a2 n2 c2, .int .i64 b] w (ResJ w (fjP p f g b) (fjV p f g b) (fjU p f g b) (fjC p f g b)) := by
  have hl1 := hide h1.len
  have hl2 := hide h2.len
  have hT : fjT p f g b = true := by
    unfold fjT
    rw [decide_eq_true (show 2 ≤ f.length ∧ f.length ≤ 13 ∧ g.length + 1 = f.length by have := hl1.out; have := hl2.out; omega), hl1.out, hl2.out, decide_eq_true (show cf f (n1 - 1) = 1 from Decidable.byContradiction k4), decide_eq_true (show cf g (n2 - 1) = 1 from Decidable.byContradiction k5), decide_eq_true (show 1 ≤ b ∧ b < p by omega)]
    rfl
  have HT := hide (fdC_fj hl2.out hc hT)
  have Hc := hide hc
  have o7 : (b == 0) = false := by simp [k7]
  have o1 : ¬ ((n1 : Int) - 1 < 1) := by omega
  have o2 : ¬ (12 < (n1 : Int) - 1) := by omega
  have o3 : IntKind.i64.wrap ((n1 : Int) - 1 - 1) = (n1 : Int) - 1 - 1 := IntWalk.i64_in _ (by omega)
  have o4 : ((n2 : Int) - 1 != (n1 : Int) - 1 - 1) = false := by simp; omega
  clear hc hT
  have hbw := bl1 w (.cells #[.int .i64 0, .slice none 0 0, .slice none 0 0] 24)
  obtain ⟨w2, hw2⟩ : ∃ w2, w2 = w.alloc (.cells #[.int .i64 0, .slice none 0 0, .slice none 0 0] 24) := ⟨_, rfl⟩
  have r0 : w2.cell? ⟨w.heap.size, 0, none⟩ = some (.int .i64 0) := by rw [hw2]; simp [go_sem]
  have r1 : w2.cell? ⟨w.heap.size, 1, none⟩ = some (.slice none 0 0) := by rw [hw2]; simp [go_sem]
  have r2 : w2.cell? ⟨w.heap.size, 2, none⟩ = some (.slice none 0 0) := by rw [hw2]; simp [go_sem]
  have y0 : w2.frozen? ⟨w.heap.size, 0, none⟩ = false := by rw [hw2]; simp [go_sem]
  have y1 : w2.frozen? ⟨w.heap.size, 1, none⟩ = false := by rw [hw2]; simp [go_sem]
  have y2 : w2.frozen? ⟨w.heap.size, 2, none⟩ = false := by rw [hw2]; simp [go_sem]
  have hz2 : w.heap.size + 1 = w2.heap.size := by rw [hw2]; simp
  rw [← hw2] at hbw
  have G1 := h1.below hbw
  have G2 := h2.below hbw
  go_enter Try.func6, Try.ntmps6
  go_upto_region 1 with fail
  rw [← hw2]
  clear hw2
  go_wp2_with fail
  refine (check2 p _ _ _ f _ _ _ g 0 _ G1 G2 b1 b2 Hc.out).mono ?_
  rintro e w1 ⟨rfl, hb1⟩
  have hB1 := hbw.trans (hb1.mono (by omega))
  have z1 := hb1.size
  replace r0 := cell_be hb1 r0
  replace r1 := cell_be hb1 r1
  replace r2 := cell_be hb1 r2
  replace y0 := (hb1.frozen (p := ⟨w.heap.size, 0, none⟩) (by simp; omega)).trans y0
  replace y1 := (hb1.frozen (p := ⟨w.heap.size, 1, none⟩) (by simp; omega)).trans y1
  replace y2 := (hb1.frozen (p := ⟨w.heap.size, 2, none⟩) (by simp; omega)).trans y2
  go_wp2_with (go_at_call 19; refine (degree_any _ _ _ _ (by omega)).mono ?_; rintro e w' ⟨rfl, rfl⟩)
  refine (isMonic_yes _ _ _ f _ (G1.below hb1) (by omega) (by omega) (Decidable.byContradiction k4)).mono ?_
  rintro e w' ⟨rfl, rfl⟩
  go_wp2_with fail
  refine (isMonic_yes _ _ _ g _ (G2.below hb1) (by omega) (by omega) (Decidable.byContradiction k5)).mono ?_
  rintro e w' ⟨rfl, rfl⟩
  go_wp2_with fail
  refine (isNumber_yes _ _ _ (by omega) (by omega)).mono ?_
  rintro e w' ⟨rfl, rfl⟩
  go_wp2_with fail
  have FD := findData_any p b _ n1 _ f _ n2 _ g _ (G1.below hb1) (G2.below hb1) hpr hf hg (by omega) (by omega) (by omega) (Decidable.byContradiction k5) (by omega) (by omega)
  obtain ⟨e1, e2, e3, e4⟩ := HT.out
  rw [e1, e2, e3, e4] at FD
  clear HT e1 e2 e3 e4
  refine FD.mono ?_
  rintro e w3 ⟨a', cap, b', cap', rfl, ho, hle, hb3⟩
  clear FD
  obtain ⟨P, hP⟩ : ∃ P, fjP p f g b = P := ⟨_, rfl⟩
  obtain ⟨C, hC⟩ : ∃ C, fjC p f g b = C := ⟨_, rfl⟩
  obtain ⟨V, hV⟩ : ∃ V, fjV p f g b = V := ⟨_, rfl⟩
  obtain ⟨U, hU⟩ : ∃ U, fjU p f g b = U := ⟨_, rfl⟩
  rw [hP, hC, hV, hU]
  rw [hV, hU] at ho hle
  have Ho := hide ho
  have Hle := hide hle
  have HE := hide (show fjP p f g b = P ∧ fjC p f g b = C ∧ fjV p f g b = V ∧ fjU p f g b = U from ⟨hP, hC, hV, hU⟩)
  clear hP hC hV hU ho hle
  have z3 := hb3.size
  replace r0 := cell_be hb3 r0
  replace r1 := cell_be hb3 r1
  replace r2 := cell_be hb3 r2
  replace y0 := (hb3.frozen (p := ⟨w.heap.size, 0, none⟩) (by simp; omega)).trans y0
  replace y1 := (hb3.frozen (p := ⟨w.heap.size, 1, none⟩) (by simp; omega)).trans y1
  replace y2 := (hb3.frozen (p := ⟨w.heap.size, 2, none⟩) (by simp; omega)).trans y2
  go_wp2
  refine bodyPost_ret (v := .tuple #[jac P a' V.length cap b' U.length cap', .int .i64 C]) (by simp [results, Try.results6, go_sem, r0, r1, r2]) rfl ?_
  have jz := ((Ho.out.setLow (x := ⟨w.heap.size, 0, none⟩) (by simp; omega) (.int .i64 P)).setLow (x := ⟨w.heap.size, 1, none⟩) (by simp; omega) (.slice a' V.length cap)).setLow (x := ⟨w.heap.size, 2, none⟩) (by simp; omega) (.slice b' U.length cap')
  obtain ⟨e1, e2, e3, e4⟩ := HE.out
  show ResJ w (fjP p f g b) (fjV p f g b) (fjU p f g b) (fjC p f g b) _ _
  rw [e1, e2, e3, e4]
  exact ⟨a', cap, b', cap', rfl, by simpa using jz.mono (lo' := w.heap.size) (by omega) (Nat.le_refl _), Hle.out, (((hB1.trans (hb3.mono (by omega))).setCell (by simp) _).setCell (by simp) _).setCell (by simp) _⟩
set_option maxRecDepth 100000 in
set_option maxHeartbeats 1600000 in
theorem implFindJacobi (p : Int) (a1 : Option Addr) (n1 c1 : Nat) (f : List Int) (a2 : Option Addr) (n2 c2 : Nat) (g : List Int) (b : Int) (w : World) (h1 : SL w a1 n1 c1 f) (h2 : SL w a2 n2 c2 g) (b1 : n1 ≤ 4000000) (b2 : n2 ≤ 4000000) :
    Calls Try.prog 6 #[.int .i64 p, .slice a1 n1 c1, .slice a2 n2 c2, .int .i64 b] w (ResJ w (fjP p f g b) (fjV p f g b) (fjU p f g b) (fjC p f g b)) := by
  rcases chk2_cases p f g with hc | hc | ⟨hc, hf, hg, hpr⟩
  · exact implFj_c1 p a1 n1 c1 f a2 n2 c2 g b w h1 h2 b1 b2 hc
  · exact implFj_c2 p a1 n1 c1 f a2 n2 c2 g b w h1 h2 b1 b2 hc
  have d1 : n1 ≤ 25 := by have := poly_len hf; have := h1.len; omega
  have d2 : n2 ≤ 25 := by have := poly_len hg; have := h2.len; omega
  by_cases k1 : n1 < 2
  · exact implFj_k1 p a1 n1 c1 f a2 n2 c2 g b w h1 h2 b1 b2 hc d1 d2 k1
  by_cases k2 : 13 < n1
  · exact implFj_k2 p a1 n1 c1 f a2 n2 c2 g b w h1 h2 b1 b2 hc d1 d2 k1 k2
  by_cases k3 : n2 + 1 ≠ n1
  · exact implFj_k3 p a1 n1 c1 f a2 n2 c2 g b w h1 h2 b1 b2 hc d1 d2 k1 k2 k3
  by_cases k4 : ¬ cf f (n1 - 1) = 1
  · exact implFj_k4 p a1 n1 c1 f a2 n2 c2 g b w h1 h2 b1 b2 hc d1 d2 k1 k2 k3 k4
  by_cases k5 : ¬ cf g (n2 - 1) = 1
  · exact implFj_k5 p a1 n1 c1 f a2 n2 c2 g b w h1 h2 b1 b2 hc d1 d2 k1 k2 k3 k4 k5
  by_cases k6 : ¬ (0 ≤ b ∧ b < p)
  · exact implFj_k6 p a1 n1 c1 f a2 n2 c2 g b w h1 h2 b1 b2 hc d1 d2 k1 k2 k3 k4 k5 k6
  by_cases k7 : b = 0
  · exact implFj_k7 p a1 n1 c1 f a2 n2 c2 g b w h1 h2 b1 b2 hc d1 d2 k1 k2 k3 k4 k5 k6 k7
  exact implFj_ok p a1 n1 c1 f a2 n2 c2 g b w h1 h2 b1 b2 hc d1 d2 k1 k2 k3 k4 k5 k6 k7 hpr hf hg
end Go.Proofs.Ytcoloeikfechjaa
