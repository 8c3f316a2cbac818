/- Contracts: l03Monic, FindJacobi (model). -/
import Derived.Test.YtcoloeikfechjaaFl
namespace Go.Proofs.Ytcoloeikfechjaa
open Go.RowKit
set_option linter.unusedVariables false
set_option linter.unusedSimpArgs false

set_option maxHeartbeats 800000 in
theorem l03Monic_val (a : Option Addr) (n c d : Nat) (f : List Int) (w : World) (hs : SL w a n c f) (hn : n = d + 1) (hb : n ≤ 1000) :
    Calls Try.prog 13 #[.slice a n c, .int .i64 d] w fun e w' => e = .returned (.bool (decide (cf f d = 1))) ∧ w = w' := by
  obtain ⟨bb, off, rfl, hbb, hcc⟩ := hs.at (by omega)
  have e1 := hcc d (by omega)
  have HX : Hid (decide (cf f d = 1) = (f.getD d 0 == 1)) := hide (by rw [Bool.eq_iff_iff]; simp [cf])
  obtain ⟨x, hx⟩ : ∃ x, f.getD d 0 = x := ⟨_, rfl⟩
  rw [hx] at e1 HX
  have v1 : IntKind.i64.wrap ((d : Int) + 1) = (d : Int) + 1 := IntWalk.i64_in _ (by omega)
  have l1 : (d : Int) < (n : Int) := by omega
  have l5 : ((n : Int) == (d : Int) + 1) = true := by simp; omega
  clear hcc hx
  go_enter Try.func13, Try.ntmps13
  go_wp2
  go_ret
  exact ⟨by rw [HX.out]; rfl, rfl⟩
set_option maxHeartbeats 800000 in
theorem l03Monic_len (a : Option Addr) (n c d : Nat) (w : World) (hn : n ≠ d + 1) (hb : n ≤ 1000) (hd : d ≤ 1000) :
    Calls Try.prog 13 #[.slice a n c, .int .i64 d] w fun e w' => e = .returned (.bool false) ∧ w = w' := by
  have v1 : IntKind.i64.wrap ((d : Int) + 1) = (d : Int) + 1 := IntWalk.i64_in _ (by omega)
  have l5 : ((n : Int) == (d : Int) + 1) = false := by simp; omega
  go_enter Try.func13, Try.ntmps13
  go_wp2
  go_ret
  exact ⟨rfl, rfl⟩
theorem l03Monic_yes (a : Option Addr) (n c d : Nat) (f : List Int) (w : World) (hs : SL w a n c f) (hn : n = d + 1) (hb : n ≤ 1000) (hv : cf f d = 1) :
    Calls Try.prog 13 #[.slice a n c, .int .i64 d] w fun e w' => e = .returned (.bool true) ∧ w = w' := by
  have := l03Monic_val a n c d f w hs hn hb
  rwa [decide_eq_true hv] at this
theorem l03Monic_no (a : Option Addr) (n c d : Nat) (f : List Int) (w : World) (hs : SL w a n c f) (hb : n ≤ 1000) (hd : d ≤ 1000) (hv : ¬ (n = d + 1 ∧ cf f d = 1)) :
    Calls Try.prog 13 #[.slice a n c, .int .i64 d] w fun e w' => e = .returned (.bool false) ∧ w = w' := by
  by_cases hn : n = d + 1
  · have := l03Monic_val a n c d f w hs hn hb
    rwa [decide_eq_false (fun e => hv ⟨hn, e⟩)] at this
  · exact l03Monic_len a n c d w hn hb hd
set_option maxRecDepth 100000 in
set_option maxHeartbeats 1600000 in
theorem specFj_c1 (p : Int) (a1 : Option Addr) (n1 c1 : Nat) (f : List Int) (a2 : Option Addr) (n2 c2 : Nat) (g : List Int) (b : Int) (w : World) (h1 : SL w a1 n1 c1 f) (h2 : SL w a2 n2 c2 g) (b1 : n1 ≤ 4000000) (b2 : n2 ≤ 4000000) (hc : chk2 p f g = 1) :
    Calls Try.prog 4 #[.int .i64 p, .slice a1 n1 c1, .slice a2 n2 c2, .int .i64 b] w (ResJ w (fjP p f g b) (fjV p f g b) (fjU p f g b) (fjC p f g b)) := by
  have hl1 := hide h1.len
  have hl2 := hide h2.len
  have HC := hide (show fjC p f g b = 1 by simp [fjC, hc])
  have HV := hide (show fjV p f g b = [] by simp [fjV, HC.out])
  have HU := hide (show fjU p f g b = [] by simp [fjU, HC.out])
  have HQ := hide (show fjP p f g b = 0 by simp [fjP, HC.out])
  have Hc := hide hc
  have vn : IntKind.i64.wrap ((n1 : Int) - 1) = (n1 : Int) - 1 := IntWalk.i64_in _ (by omega)
  clear hc
  have hbw := bl1 w (.cells #[.int .i64 0, .slice none 0 0, .slice none 0 0] 24)
  obtain ⟨wA, hwA⟩ : ∃ wA, wA = w.alloc (.cells #[.int .i64 0, .slice none 0 0, .slice none 0 0] 24) := ⟨_, rfl⟩
  have r0 : wA.cell? ⟨w.heap.size, 0, none⟩ = some (.int .i64 0) := by rw [hwA]; simp [go_sem]
  have r1 : wA.cell? ⟨w.heap.size, 1, none⟩ = some (.slice none 0 0) := by rw [hwA]; simp [go_sem]
  have r2 : wA.cell? ⟨w.heap.size, 2, none⟩ = some (.slice none 0 0) := by rw [hwA]; simp [go_sem]
  have y0 : wA.frozen? ⟨w.heap.size, 0, none⟩ = false := by rw [hwA]; simp [go_sem]
  have y1 : wA.frozen? ⟨w.heap.size, 1, none⟩ = false := by rw [hwA]; simp [go_sem]
  have y2 : wA.frozen? ⟨w.heap.size, 2, none⟩ = false := by rw [hwA]; simp [go_sem]
  have hz2 : w.heap.size + 1 = wA.heap.size := by rw [hwA]; simp
  rw [← hwA] at hbw
  have G1 := h1.below hbw
  have G2 := h2.below hbw
  go_enter Try.func4, Try.ntmps4
  go_upto_region 1 with fail
  rw [← hwA]
  clear hwA
  go_wp2_with fail
  refine (code2 p _ _ _ f _ _ _ g 1 _ G1 G2 b1 b2 Hc.out).mono ?_
  rintro e w1 ⟨rfl, hb1⟩
  have hB1 := hbw.trans (hb1.mono (by omega))
  have z1 := hb1.size
  replace r0 := cell_be hb1 r0
  replace r1 := cell_be hb1 r1
  replace r2 := cell_be hb1 r2
  replace y0 := (hb1.frozen (p := ⟨w.heap.size, 0, none⟩) (by simp; omega)).trans y0
  replace y1 := (hb1.frozen (p := ⟨w.heap.size, 1, none⟩) (by simp; omega)).trans y1
  replace y2 := (hb1.frozen (p := ⟨w.heap.size, 2, none⟩) (by simp; omega)).trans y2
  go_wp2
  refine bodyPost_ret (v := .tuple #[jac 0 none 0 0 none 0 0, .int .i64 1]) (by simp [results, Try.results4, go_sem, r0, r1, r2]) rfl ?_
  exact ResJ.nil HQ.out HV.out HU.out HC.out (((hB1.setCell (by simp) _).setCell (by simp) _).setCell (by simp) _)
set_option maxRecDepth 100000 in
set_option maxHeartbeats 1600000 in
theorem specFj_c2 (p : Int) (a1 : Option Addr) (n1 c1 : Nat) (f : List Int) (a2 : Option Addr) (n2 c2 : Nat) (g : List Int) (b : Int) (w : World) (h1 : SL w a1 n1 c1 f) (h2 : SL w a2 n2 c2 g) (b1 : n1 ≤ 4000000) (b2 : n2 ≤ 4000000) (hc : chk2 p f g = 2) :
    Calls Try.prog 4 #[.int .i64 p, .slice a1 n1 c1, .slice a2 n2 c2, .int .i64 b] w (ResJ w (fjP p f g b) (fjV p f g b) (fjU p f g b) (fjC p f g b)) := by
  have hl1 := hide h1.len
  have hl2 := hide h2.len
  have HC := hide (show fjC p f g b = 2 by simp [fjC, hc])
  have HV := hide (show fjV p f g b = [] by simp [fjV, HC.out])
  have HU := hide (show fjU p f g b = [] by simp [fjU, HC.out])
  have HQ := hide (show fjP p f g b = 0 by simp [fjP, HC.out])
  have Hc := hide hc
  have vn : IntKind.i64.wrap ((n1 : Int) - 1) = (n1 : Int) - 1 := IntWalk.i64_in _ (by omega)
  clear hc
  have hbw := bl1 w (.cells #[.int .i64 0, .slice none 0 0, .slice none 0 0] 24)
  obtain ⟨wA, hwA⟩ : ∃ wA, wA = w.alloc (.cells #[.int .i64 0, .slice none 0 0, .slice none 0 0] 24) := ⟨_, rfl⟩
  have r0 : wA.cell? ⟨w.heap.size, 0, none⟩ = some (.int .i64 0) := by rw [hwA]; simp [go_sem]
  have r1 : wA.cell? ⟨w.heap.size, 1, none⟩ = some (.slice none 0 0) := by rw [hwA]; simp [go_sem]
  have r2 : wA.cell? ⟨w.heap.size, 2, none⟩ = some (.slice none 0 0) := by rw [hwA]; simp [go_sem]
  have y0 : wA.frozen? ⟨w.heap.size, 0, none⟩ = false := by rw [hwA]; simp [go_sem]
  have y1 : wA.frozen? ⟨w.heap.size, 1, none⟩ = false := by rw [hwA]; simp [go_sem]
  have y2 : wA.frozen? ⟨w.heap.size, 2, none⟩ = false := by rw [hwA]; simp [go_sem]
  have hz2 : w.heap.size + 1 = wA.heap.size := by rw [hwA]; simp
  rw [← hwA] at hbw
  have G1 := h1.below hbw
  have G2 := h2.below hbw
  go_enter Try.func4, Try.ntmps4
  go_upto_region 1 with fail
  rw [← hwA]
  clear hwA
  go_wp2_with fail
  refine (code2 p _ _ _ f _ _ _ g 2 _ G1 G2 b1 b2 Hc.out).mono ?_
  rintro e w1 ⟨rfl, hb1⟩
  have hB1 := hbw.trans (hb1.mono (by omega))
  have z1 := hb1.size
  replace r0 := cell_be hb1 r0
  replace r1 := cell_be hb1 r1
  replace r2 := cell_be hb1 r2
  replace y0 := (hb1.frozen (p := ⟨w.heap.size, 0, none⟩) (by simp; omega)).trans y0
  replace y1 := (hb1.frozen (p := ⟨w.heap.size, 1, none⟩) (by simp; omega)).trans y1
  replace y2 := (hb1.frozen (p := ⟨w.heap.size, 2, none⟩) (by simp; omega)).trans y2
  go_wp2
  refine bodyPost_ret (v := .tuple #[jac 0 none 0 0 none 0 0, .int .i64 2]) (by simp [results, Try.results4, go_sem, r0, r1, r2]) rfl ?_
  exact ResJ.nil HQ.out HV.out HU.out HC.out (((hB1.setCell (by simp) _).setCell (by simp) _).setCell (by simp) _)
set_option maxRecDepth 100000 in
set_option maxHeartbeats 1600000 in
theorem specFj_k1 (p : Int) (a1 : Option Addr) (n1 c1 : Nat) (f : List Int) (a2 : Option Addr) (n2 c2 : Nat) (g : List Int) (b : Int) (w : World) (h1 : SL w a1 n1 c1 f) (h2 : SL w a2 n2 c2 g) (b1 : n1 ≤ 4000000) (b2 : n2 ≤ 4000000) (hc : chk2 p f g = 0) (d1 : n1 ≤ 25) (d2 : n2 ≤ 25) (k1 : n1 < 2) :
    Calls Try.prog 4 #[.int .i64 p, .slice a1 n1 c1, .slice a2 n2 c2, .int .i64 b] w (ResJ w (fjP p f g b) (fjV p f g b) (fjU p f g b) (fjC p f g b)) := by
  have hl1 := hide h1.len
  have hl2 := hide h2.len
  have HC := hide (show fjC p f g b = 2 by exact fjC_range hc (fjT_a (by have := hl1.out; omega)))
  have HV := hide (show fjV p f g b = [] by simp [fjV, HC.out])
  have HU := hide (show fjU p f g b = [] by simp [fjU, HC.out])
  have HQ := hide (show fjP p f g b = 0 by simp [fjP, HC.out])
  have Hc := hide hc
  have vn : IntKind.i64.wrap ((n1 : Int) - 1) = (n1 : Int) - 1 := IntWalk.i64_in _ (by omega)
  have o1 : (n1 : Int) - 1 < 1 := by omega
  clear hc
  have hbw := bl1 w (.cells #[.int .i64 0, .slice none 0 0, .slice none 0 0] 24)
  obtain ⟨wA, hwA⟩ : ∃ wA, wA = w.alloc (.cells #[.int .i64 0, .slice none 0 0, .slice none 0 0] 24) := ⟨_, rfl⟩
  have r0 : wA.cell? ⟨w.heap.size, 0, none⟩ = some (.int .i64 0) := by rw [hwA]; simp [go_sem]
  have r1 : wA.cell? ⟨w.heap.size, 1, none⟩ = some (.slice none 0 0) := by rw [hwA]; simp [go_sem]
  have r2 : wA.cell? ⟨w.heap.size, 2, none⟩ = some (.slice none 0 0) := by rw [hwA]; simp [go_sem]
  have y0 : wA.frozen? ⟨w.heap.size, 0, none⟩ = false := by rw [hwA]; simp [go_sem]
  have y1 : wA.frozen? ⟨w.heap.size, 1, none⟩ = false := by rw [hwA]; simp [go_sem]
  have y2 : wA.frozen? ⟨w.heap.size, 2, none⟩ = false := by rw [hwA]; simp [go_sem]
  have hz2 : w.heap.size + 1 = wA.heap.size := by rw [hwA]; simp
  rw [← hwA] at hbw
  have G1 := h1.below hbw
  have G2 := h2.below hbw
  go_enter Try.func4, Try.ntmps4
  go_upto_region 1 with fail
  rw [← hwA]
  clear hwA
  go_wp2_with fail
  refine (code2 p _ _ _ f _ _ _ g 0 _ G1 G2 b1 b2 Hc.out).mono ?_
  rintro e w1 ⟨rfl, hb1⟩
  have hB1 := hbw.trans (hb1.mono (by omega))
  have z1 := hb1.size
  replace r0 := cell_be hb1 r0
  replace r1 := cell_be hb1 r1
  replace r2 := cell_be hb1 r2
  replace y0 := (hb1.frozen (p := ⟨w.heap.size, 0, none⟩) (by simp; omega)).trans y0
  replace y1 := (hb1.frozen (p := ⟨w.heap.size, 1, none⟩) (by simp; omega)).trans y1
  replace y2 := (hb1.frozen (p := ⟨w.heap.size, 2, none⟩) (by simp; omega)).trans y2
  go_wp2
  refine bodyPost_ret (v := .tuple #[jac 0 none 0 0 none 0 0, .int .i64 2]) (by simp [results, Try.results4, go_sem, r0, r1, r2]) rfl ?_
  exact ResJ.nil HQ.out HV.out HU.out HC.out (((hB1.setCell (by simp) _).setCell (by simp) _).setCell (by simp) _)
set_option maxRecDepth 100000 in
set_option maxHeartbeats 1600000 in
theorem specFj_k2 (p : Int) (a1 : Option Addr) (n1 c1 : Nat) (f : List Int) (a2 : Option Addr) (n2 c2 : Nat) (g : List Int) (b : Int) (w : World) (h1 : SL w a1 n1 c1 f) (h2 : SL w a2 n2 c2 g) (b1 : n1 ≤ 4000000) (b2 : n2 ≤ 4000000) (hc : chk2 p f g = 0) (d1 : n1 ≤ 25) (d2 : n2 ≤ 25) (k1 : ¬ (n1 < 2)) (k2 : 13 < n1) :
    Calls Try.prog 4 #[.int .i64 p, .slice a1 n1 c1, .slice a2 n2 c2, .int .i64 b] w (ResJ w (fjP p f g b) (fjV p f g b) (fjU p f g b) (fjC p f g b)) := by
  have hl1 := hide h1.len
  have hl2 := hide h2.len
  have HC := hide (show fjC p f g b = 2 by exact fjC_range hc (fjT_a (by have := hl1.out; omega)))
  have HV := hide (show fjV p f g b = [] by simp [fjV, HC.out])
  have HU := hide (show fjU p f g b = [] by simp [fjU, HC.out])
  have HQ := hide (show fjP p f g b = 0 by simp [fjP, HC.out])
  have Hc := hide hc
  have vn : IntKind.i64.wrap ((n1 : Int) - 1) = (n1 : Int) - 1 := IntWalk.i64_in _ (by omega)
  have o1 : ¬ ((n1 : Int) - 1 < 1) := by omega
  have o2 : 12 < (n1 : Int) - 1 := by omega
  clear hc
  have hbw := bl1 w (.cells #[.int .i64 0, .slice none 0 0, .slice none 0 0] 24)
  obtain ⟨wA, hwA⟩ : ∃ wA, wA = w.alloc (.cells #[.int .i64 0, .slice none 0 0, .slice none 0 0] 24) := ⟨_, rfl⟩
  have r0 : wA.cell? ⟨w.heap.size, 0, none⟩ = some (.int .i64 0) := by rw [hwA]; simp [go_sem]
  have r1 : wA.cell? ⟨w.heap.size, 1, none⟩ = some (.slice none 0 0) := by rw [hwA]; simp [go_sem]
  have r2 : wA.cell? ⟨w.heap.size, 2, none⟩ = some (.slice none 0 0) := by rw [hwA]; simp [go_sem]
  have y0 : wA.frozen? ⟨w.heap.size, 0, none⟩ = false := by rw [hwA]; simp [go_sem]
  have y1 : wA.frozen? ⟨w.heap.size, 1, none⟩ = false := by rw [hwA]; simp [go_sem]
  have y2 : wA.frozen? ⟨w.heap.size, 2, none⟩ = false := by rw [hwA]; simp [go_sem]
  have hz2 : w.heap.size + 1 = wA.heap.size := by rw [hwA]; simp
  rw [← hwA] at hbw
  have G1 := h1.below hbw
  have G2 := h2.below hbw
  go_enter Try.func4, Try.ntmps4
  go_upto_region 1 with fail
  rw [← hwA]
  clear hwA
  go_wp2_with fail
  refine (code2 p _ _ _ f _ _ _ g 0 _ G1 G2 b1 b2 Hc.out).mono ?_
  rintro e w1 ⟨rfl, hb1⟩
  have hB1 := hbw.trans (hb1.mono (by omega))
  have z1 := hb1.size
  replace r0 := cell_be hb1 r0
  replace r1 := cell_be hb1 r1
  replace r2 := cell_be hb1 r2
  replace y0 := (hb1.frozen (p := ⟨w.heap.size, 0, none⟩) (by simp; omega)).trans y0
  replace y1 := (hb1.frozen (p := ⟨w.heap.size, 1, none⟩) (by simp; omega)).trans y1
  replace y2 := (hb1.frozen (p := ⟨w.heap.size, 2, none⟩) (by simp; omega)).trans y2
  go_wp2
  refine bodyPost_ret (v := .tuple #[jac 0 none 0 0 none 0 0, .int .i64 2]) (by simp [results, Try.results4, go_sem, r0, r1, r2]) rfl ?_
  exact ResJ.nil HQ.out HV.out HU.out HC.out (((hB1.setCell (by simp) _).setCell (by simp) _).setCell (by simp) _)
set_option maxRecDepth 100000 in
set_option maxHeartbeats 1600000 in
theorem specFj_k3 (p : Int) (a1 : Option Addr) (n1 c1 : Nat) (f : List Int) (a2 : Option Addr) (n2 c2 : Nat) (g : List Int) (b : Int) (w : World) (h1 : SL w a1 n1 c1 f) (h2 : SL w a2 n2 c2 g) (b1 : n1 ≤ 4000000) (b2 : n2 ≤ 4000000) (hc : chk2 p f g = 0) (d1 : n1 ≤ 25) (d2 : n2 ≤ 25) (k1 : ¬ (n1 < 2)) (k2 : ¬ (13 < n1)) (k3 : ¬ cf f (n1 - 1) = 1) :
    Calls Try.prog 4 #[.int .i64 p, .slice a1 n1 c1, .slice a2 n2 c2, .int .i64 b] w (ResJ w (fjP p f g b) (fjV p f g b) (fjU p f g b) (fjC p f g b)) := by
  have hl1 := hide h1.len
  have hl2 := hide h2.len
  have HC := hide (show fjC p f g b = 2 by exact fjC_range hc (fjT_b (by rw [hl1.out]; exact k3)))
  have HV := hide (show fjV p f g b = [] by simp [fjV, HC.out])
  have HU := hide (show fjU p f g b = [] by simp [fjU, HC.out])
  have HQ := hide (show fjP p f g b = 0 by simp [fjP, HC.out])
  have Hc := hide hc
  obtain ⟨N, rfl⟩ : ∃ N, n1 = N + 1 := ⟨n1 - 1, by omega⟩
  have k3 := k3
  rw [Nat.add_sub_cancel] at k3
  have eN : ((N + 1 : Nat) : Int) - 1 = (N : Int) := by omega
  have vn : IntKind.i64.wrap (N : Int) = (N : Int) := IntWalk.i64_in _ (by omega)
  have o1 : ¬ ((N : Int) < 1) := by omega
  have o2 : ¬ (12 < (N : Int)) := by omega
  have vm : IntKind.i64.wrap ((N : Int) - 1) = ((N - 1 : Nat) : Int) := by rw [IntWalk.i64_in _ (by omega)]; omega
  have HM : Hid ((N : Int) - 1 = ((N - 1 : Nat) : Int)) := hide (by omega)
  clear hc
  have hbw := bl1 w (.cells #[.int .i64 0, .slice none 0 0, .slice none 0 0] 24)
  obtain ⟨wA, hwA⟩ : ∃ wA, wA = w.alloc (.cells #[.int .i64 0, .slice none 0 0, .slice none 0 0] 24) := ⟨_, rfl⟩
  have r0 : wA.cell? ⟨w.heap.size, 0, none⟩ = some (.int .i64 0) := by rw [hwA]; simp [go_sem]
  have r1 : wA.cell? ⟨w.heap.size, 1, none⟩ = some (.slice none 0 0) := by rw [hwA]; simp [go_sem]
  have r2 : wA.cell? ⟨w.heap.size, 2, none⟩ = some (.slice none 0 0) := by rw [hwA]; simp [go_sem]
  have y0 : wA.frozen? ⟨w.heap.size, 0, none⟩ = false := by rw [hwA]; simp [go_sem]
  have y1 : wA.frozen? ⟨w.heap.size, 1, none⟩ = false := by rw [hwA]; simp [go_sem]
  have y2 : wA.frozen? ⟨w.heap.size, 2, none⟩ = false := by rw [hwA]; simp [go_sem]
  have hz2 : w.heap.size + 1 = wA.heap.size := by rw [hwA]; simp
  rw [← hwA] at hbw
  have G1 := h1.below hbw
  have G2 := h2.below hbw
  go_enter Try.func4, Try.ntmps4
  go_upto_region 1 with fail
  rw [← hwA]
  clear hwA
  go_wp2_with fail
  refine (code2 p _ _ _ f _ _ _ g 0 _ G1 G2 b1 b2 Hc.out).mono ?_
  rintro e w1 ⟨rfl, hb1⟩
  have hB1 := hbw.trans (hb1.mono (by omega))
  have z1 := hb1.size
  replace r0 := cell_be hb1 r0
  replace r1 := cell_be hb1 r1
  replace r2 := cell_be hb1 r2
  replace y0 := (hb1.frozen (p := ⟨w.heap.size, 0, none⟩) (by simp; omega)).trans y0
  replace y1 := (hb1.frozen (p := ⟨w.heap.size, 1, none⟩) (by simp; omega)).trans y1
  replace y2 := (hb1.frozen (p := ⟨w.heap.size, 2, none⟩) (by simp; omega)).trans y2
  go_wp2_with fail
  refine (l03Monic_no _ _ _ N f _ (G1.below hb1) (by omega) (by omega) (fun e => k3 e.2)).mono ?_
  rintro e w' ⟨rfl, rfl⟩
  go_wp2_with fail
  refine bodyPost_ret (v := .tuple #[jac 0 none 0 0 none 0 0, .int .i64 2]) (by simp [results, Try.results4, go_sem, r0, r1, r2]) rfl ?_
  exact ResJ.nil HQ.out HV.out HU.out HC.out (((hB1.setCell (by simp) _).setCell (by simp) _).setCell (by simp) _)
set_option maxRecDepth 100000 in
set_option maxHeartbeats 1600000 in
theorem specFj_k4 (p : Int) (a1 : Option Addr) (n1 c1 : Nat) (f : List Int) (a2 : Option Addr) (n2 c2 : Nat) (g : List Int) (b : Int) (w : World) (h1 : SL w a1 n1 c1 f) (h2 : SL w a2 n2 c2 g) (b1 : n1 ≤ 4000000) (b2 : n2 ≤ 4000000) (hc : chk2 p f g = 0) (d1 : n1 ≤ 25) (d2 : n2 ≤ 25) (k1 : ¬ (n1 < 2)) (k2 : ¬ (13 < n1)) (k3 : ¬ (¬ cf f (n1 - 1) = 1)) (k4 : ¬ (n2 + 1 = n1 ∧ cf g (n2 - 1) = 1)) :
    Calls Try.prog 4 #[.int .i64 p, .slice a1 n1 c1, .slice a2 n2 c2, .int .i64 b] w (ResJ w (fjP p f g b) (fjV p f g b) (fjU p f g b) (fjC p f g b)) := by
  have hl1 := hide h1.len
  have hl2 := hide h2.len
  have HC := hide (show fjC p f g b = 2 by exact fjC_range hc ((by by_cases e : n2 + 1 = n1; exact fjT_c (by rw [hl2.out]; exact fun h => k4 ⟨e, h⟩); exact fjT_a (by have := hl1.out; have := hl2.out; omega))))
  have HV := hide (show fjV p f g b = [] by simp [fjV, HC.out])
  have HU := hide (show fjU p f g b = [] by simp [fjU, HC.out])
  have HQ := hide (show fjP p f g b = 0 by simp [fjP, HC.out])
  have Hc := hide hc
  obtain ⟨N, rfl⟩ : ∃ N, n1 = N + 1 := ⟨n1 - 1, by omega⟩
  have k3 := k3
  rw [Nat.add_sub_cancel] at k3
  have eN : ((N + 1 : Nat) : Int) - 1 = (N : Int) := by omega
  have vn : IntKind.i64.wrap (N : Int) = (N : Int) := IntWalk.i64_in _ (by omega)
  have o1 : ¬ ((N : Int) < 1) := by omega
  have o2 : ¬ (12 < (N : Int)) := by omega
  have vm : IntKind.i64.wrap ((N : Int) - 1) = ((N - 1 : Nat) : Int) := by rw [IntWalk.i64_in _ (by omega)]; omega
  have HM : Hid ((N : Int) - 1 = ((N - 1 : Nat) : Int)) := hide (by omega)
  have k4n : ¬ (n2 = N - 1 + 1 ∧ cf g (N - 1) = 1) := fun e => k4 ⟨by omega, by rw [show n2 - 1 = N - 1 by omega]; exact e.2⟩
  clear hc
  have hbw := bl1 w (.cells #[.int .i64 0, .slice none 0 0, .slice none 0 0] 24)
  obtain ⟨wA, hwA⟩ : ∃ wA, wA = w.alloc (.cells #[.int .i64 0, .slice none 0 0, .slice none 0 0] 24) := ⟨_, rfl⟩
  have r0 : wA.cell? ⟨w.heap.size, 0, none⟩ = some (.int .i64 0) := by rw [hwA]; simp [go_sem]
  have r1 : wA.cell? ⟨w.heap.size, 1, none⟩ = some (.slice none 0 0) := by rw [hwA]; simp [go_sem]
  have r2 : wA.cell? ⟨w.heap.size, 2, none⟩ = some (.slice none 0 0) := by rw [hwA]; simp [go_sem]
  have y0 : wA.frozen? ⟨w.heap.size, 0, none⟩ = false := by rw [hwA]; simp [go_sem]
  have y1 : wA.frozen? ⟨w.heap.size, 1, none⟩ = false := by rw [hwA]; simp [go_sem]
  have y2 : wA.frozen? ⟨w.heap.size, 2, none⟩ = false := by rw [hwA]; simp [go_sem]
  have hz2 : w.heap.size + 1 = wA.heap.size := by rw [hwA]; simp
  rw [← hwA] at hbw
  have G1 := h1.below hbw
  have G2 := h2.below hbw
  go_enter Try.func4, Try.ntmps4
  go_upto_region 1 with fail
  rw [← hwA]
  clear hwA
  go_wp2_with fail
  refine (code2 p _ _ _ f _ _ _ g 0 _ G1 G2 b1 b2 Hc.out).mono ?_
  rintro e w1 ⟨rfl, hb1⟩
  have hB1 := hbw.trans (hb1.mono (by omega))
  have z1 := hb1.size
  replace r0 := cell_be hb1 r0
  replace r1 := cell_be hb1 r1
  replace r2 := cell_be hb1 r2
  replace y0 := (hb1.frozen (p := ⟨w.heap.size, 0, none⟩) (by simp; omega)).trans y0
  replace y1 := (hb1.frozen (p := ⟨w.heap.size, 1, none⟩) (by simp; omega)).trans y1
  replace y2 := (hb1.frozen (p := ⟨w.heap.size, 2, none⟩) (by simp; omega)).trans y2
  go_wp2_with fail
  refine (l03Monic_yes _ _ _ N f _ (G1.below hb1) rfl (by omega) (Decidable.byContradiction k3)).mono ?_
  rintro e w' ⟨rfl, rfl⟩
  go_wp2_with fail
  refine (l03Monic_no _ _ _ (N - 1) g _ (G2.below hb1) (by omega) (by omega) k4n).mono ?_
  rintro e w' ⟨rfl, rfl⟩
  go_wp2_with fail
  refine bodyPost_ret (v := .tuple #[jac 0 none 0 0 none 0 0, .int .i64 2]) (by simp [results, Try.results4, go_sem, r0, r1, r2]) rfl ?_
  exact ResJ.nil HQ.out HV.out HU.out HC.out (((hB1.setCell (by simp) _).setCell (by simp) _).setCell (by simp) _)
set_option maxRecDepth 100000 in
set_option maxHeartbeats 1600000 in
theorem specFj_k5 (p : Int) (a1 : Option Addr) (n1 c1 : Nat) (f : List Int) (a2 : Option Addr) (n2 c2 : Nat) (g : List Int) (b : Int) (w : World) (h1 : SL w a1 n1 c1 f) (h2 : SL w a2 n2 c2 g) (b1 : n1 ≤ 4000000) (b2 : n2 ≤ 4000000) (hc : chk2 p f g = 0) (d1 : n1 ≤ 25) (d2 : n2 ≤ 25) (k1 : ¬ (n1 < 2)) (k2 : ¬ (13 < n1)) (k3 : ¬ (¬ cf f (n1 - 1) = 1)) (k4 : ¬ (¬ (n2 + 1 = n1 ∧ cf g (n2 - 1) = 1))) (k5 : ¬ (1 ≤ b ∧ b ≤ p - 1)) :
    Calls Try.prog 4 #[.int .i64 p, .slice a1 n1 c1, .slice a2 n2 c2, .int .i64 b] w (ResJ w (fjP p f g b) (fjV p f g b) (fjU p f g b) (fjC p f g b)) := by
  have hl1 := hide h1.len
  have hl2 := hide h2.len
  have HC := hide (show fjC p f g b = 2 by exact fjC_range hc (fjT_d (by omega)))
  have HV := hide (show fjV p f g b = [] by simp [fjV, HC.out])
  have HU := hide (show fjU p f g b = [] by simp [fjU, HC.out])
  have HQ := hide (show fjP p f g b = 0 by simp [fjP, HC.out])
  have Hc := hide hc
  have hpr : primeB p = true := by
    rcases chk2_cases p f g with e | e | ⟨_, _, _, e⟩
    · omega
    · omega
    · exact e
  obtain ⟨hp, hp2⟩ := primeB_lo hpr
  have vp : IntKind.i64.wrap (p - 1) = p - 1 := IntWalk.i64_in _ (by omega)
  clear hpr
  obtain ⟨N, rfl⟩ : ∃ N, n1 = N + 1 := ⟨n1 - 1, by omega⟩
  have k3 := k3
  rw [Nat.add_sub_cancel] at k3
  have eN : ((N + 1 : Nat) : Int) - 1 = (N : Int) := by omega
  have vn : IntKind.i64.wrap (N : Int) = (N : Int) := IntWalk.i64_in _ (by omega)
  have o1 : ¬ ((N : Int) < 1) := by omega
  have o2 : ¬ (12 < (N : Int)) := by omega
  have vm : IntKind.i64.wrap ((N : Int) - 1) = ((N - 1 : Nat) : Int) := by rw [IntWalk.i64_in _ (by omega)]; omega
  have HM : Hid ((N : Int) - 1 = ((N - 1 : Nat) : Int)) := hide (by omega)
  have k4' := Decidable.byContradiction k4
  have e2 : n2 = N := by omega
  have k4v : cf g (N - 1) = 1 := by rw [← e2]; exact k4'.2
  clear e2 k4'
  clear hc
  have hbw := bl1 w (.cells #[.int .i64 0, .slice none 0 0, .slice none 0 0] 24)
  obtain ⟨wA, hwA⟩ : ∃ wA, wA = w.alloc (.cells #[.int .i64 0, .slice none 0 0, .slice none 0 0] 24) := ⟨_, rfl⟩
  have r0 : wA.cell? ⟨w.heap.size, 0, none⟩ = some (.int .i64 0) := by rw [hwA]; simp [go_sem]
  have r1 : wA.cell? ⟨w.heap.size, 1, none⟩ = some (.slice none 0 0) := by rw [hwA]; simp [go_sem]
  have r2 : wA.cell? ⟨w.heap.size, 2, none⟩ = some (.slice none 0 0) := by rw [hwA]; simp [go_sem]
  have y0 : wA.frozen? ⟨w.heap.size, 0, none⟩ = false := by rw [hwA]; simp [go_sem]
  have y1 : wA.frozen? ⟨w.heap.size, 1, none⟩ = false := by rw [hwA]; simp [go_sem]
  have y2 : wA.frozen? ⟨w.heap.size, 2, none⟩ = false := by rw [hwA]; simp [go_sem]
  have hz2 : w.heap.size + 1 = wA.heap.size := by rw [hwA]; simp
  rw [← hwA] at hbw
  have G1 := h1.below hbw
  have G2 := h2.below hbw
  go_enter Try.func4, Try.ntmps4
  go_upto_region 1 with fail
  rw [← hwA]
  clear hwA
  go_wp2_with fail
  refine (code2 p _ _ _ f _ _ _ g 0 _ G1 G2 b1 b2 Hc.out).mono ?_
  rintro e w1 ⟨rfl, hb1⟩
  have hB1 := hbw.trans (hb1.mono (by omega))
  have z1 := hb1.size
  replace r0 := cell_be hb1 r0
  replace r1 := cell_be hb1 r1
  replace r2 := cell_be hb1 r2
  replace y0 := (hb1.frozen (p := ⟨w.heap.size, 0, none⟩) (by simp; omega)).trans y0
  replace y1 := (hb1.frozen (p := ⟨w.heap.size, 1, none⟩) (by simp; omega)).trans y1
  replace y2 := (hb1.frozen (p := ⟨w.heap.size, 2, none⟩) (by simp; omega)).trans y2
  go_wp2_with fail
  refine (l03Monic_yes _ _ _ N f _ (G1.below hb1) rfl (by omega) (Decidable.byContradiction k3)).mono ?_
  rintro e w' ⟨rfl, rfl⟩
  go_wp2_with fail
  refine (l03Monic_yes _ _ _ (N - 1) g _ (G2.below hb1) (by omega) (by omega) k4v).mono ?_
  rintro e w' ⟨rfl, rfl⟩
  go_wp2_with fail
  refine (l01In_no _ _ _ _ k5).mono ?_
  rintro e w' ⟨rfl, rfl⟩
  go_wp2
  refine bodyPost_ret (v := .tuple #[jac 0 none 0 0 none 0 0, .int .i64 2]) (by simp [results, Try.results4, go_sem, r0, r1, r2]) rfl ?_
  exact ResJ.nil HQ.out HV.out HU.out HC.out (((hB1.setCell (by simp) _).setCell (by simp) _).setCell (by simp) _)
set_option maxRecDepth 100000 in
set_option maxHeartbeats 6400000 in
theorem specFj_ok (p b : Int) (a1 : Option Addr) (n c1 : Nat) (f : List Int) (a2 : Option Addr) (c2 : Nat) (g : List Int) (w : World) (h1 : SL w a1 (n + 1) c1 f) (h2 : SL w a2 n c2 g) (hpr : primeB p = true) (hf : polyB p f = true) (hg : polyB p g = true)
    (hn1 : 1 ≤ n) (hn2 : n ≤ 12) (h3f : cf f n = 1) (h3 : cf g (n - 1) = 1) (hb0 : 1 ≤ b) (hb1 : b < p) (hc : chk2 p f g = 0) :
    Calls Try.prog 4 #[.int .i64 p, .slice a1 (n + 1) c1, .slice a2 n c2, .int .i64 b] w (ResJ w (fdP p f g n) (fdV p f g n) (fdU p f g b n) (fdC p f g n)) := by
  have hp := (primeB_lo hpr).1
  have hp2 := (primeB_lo hpr).2
  have b1 : n + 1 ≤ 4000000 := by omega
  have b2 : n ≤ 4000000 := by omega
  have hall := hide (fun s hs hok => fjS_all hpr hn2 hf hg h1.len h2.len h3 s hs hok)
  have Hpr := hide hpr
  have Hc := hide hc
  have hmk := run_mk n (by omega)
  have hL1 : n + 1 = (fjG p f g 0).1.length := by show n + 1 = f.length; rw [h1.len]
  have hL2 : n = (fjG p f g 0).2.length := by show n = g.length; rw [h2.len]
  have HL1 := hide hL1
  have HL2 := hide hL2
  have vp : IntKind.i64.wrap (p - 1) = p - 1 := IntWalk.i64_in _ (by omega)
  have eN : ((n + 1 : Nat) : Int) - 1 = (n : Int) := by omega
  have vn : IntKind.i64.wrap (n : Int) = (n : Int) := IntWalk.i64_in _ (by omega)
  have o1 : ¬ ((n : Int) < 1) := by omega
  have o2 : ¬ (12 < (n : Int)) := by omega
  have vm : IntKind.i64.wrap ((n : Int) - 1) = ((n - 1 : Nat) : Int) := by rw [IntWalk.i64_in _ (by omega)]; omega
  clear hf hg hpr hL1 hL2 hc
  have hbw := bl1 w (.cells #[.int .i64 0, .slice none 0 0, .slice none 0 0] 24)
  obtain ⟨wA, hwA⟩ : ∃ wA, wA = w.alloc (.cells #[.int .i64 0, .slice none 0 0, .slice none 0 0] 24) := ⟨_, rfl⟩
  have r0 : wA.cell? ⟨w.heap.size, 0, none⟩ = some (.int .i64 0) := by rw [hwA]; simp [go_sem]
  have r1 : wA.cell? ⟨w.heap.size, 1, none⟩ = some (.slice none 0 0) := by rw [hwA]; simp [go_sem]
  have r2 : wA.cell? ⟨w.heap.size, 2, none⟩ = some (.slice none 0 0) := by rw [hwA]; simp [go_sem]
  have y0 : wA.frozen? ⟨w.heap.size, 0, none⟩ = false := by rw [hwA]; simp [go_sem]
  have y1 : wA.frozen? ⟨w.heap.size, 1, none⟩ = false := by rw [hwA]; simp [go_sem]
  have y2 : wA.frozen? ⟨w.heap.size, 2, none⟩ = false := by rw [hwA]; simp [go_sem]
  have hz2 : w.heap.size + 1 = wA.heap.size := by rw [hwA]; simp
  rw [← hwA] at hbw
  have G1 := h1.below hbw
  have G2 := h2.below hbw
  go_enter Try.func4, Try.ntmps4
  go_upto_region 1 with fail
  rw [← hwA]
  clear hwA
  go_wp2_with fail
  refine (code2 p _ _ _ f _ _ _ g 0 _ G1 G2 b1 b2 Hc.out).mono ?_
  rintro e w2 ⟨rfl, hbA⟩
  have hb1' := hbw.trans (hbA.mono (by omega))
  have z1 := hbA.size
  replace r0 := cell_be hbA r0
  replace r1 := cell_be hbA r1
  replace r2 := cell_be hbA r2
  replace y0 := (hbA.frozen (p := ⟨w.heap.size, 0, none⟩) (by simp; omega)).trans y0
  replace y1 := (hbA.frozen (p := ⟨w.heap.size, 1, none⟩) (by simp; omega)).trans y1
  replace y2 := (hbA.frozen (p := ⟨w.heap.size, 2, none⟩) (by simp; omega)).trans y2
  have G1' := G1.below hbA
  have G2' := G2.below hbA
  clear G1 G2 hbw h1 h2
  have hbw := hb1'
  have G1 := G1'
  have G2 := G2'
  clear hb1' G1' G2'
  go_wp2_with fail
  refine (l03Monic_yes _ _ _ n f _ G1 rfl (by omega) h3f).mono ?_
  rintro e w' ⟨rfl, rfl⟩
  go_wp2_with fail
  refine (l03Monic_yes _ _ _ (n - 1) g _ G2 (by omega) (by omega) h3).mono ?_
  rintro e w' ⟨rfl, rfl⟩
  go_wp2_with fail
  refine (l01In_yes _ _ _ _ hb0 (by omega)).mono ?_
  rintro e w' ⟨rfl, rfl⟩
  clear h3 h3f vm vp o1 o2
  have hl1 : n + 1 = n + 1 := rfl
  go_upto_region 6 with fail
  go_cut [12] (fun sq wx => ∃ (q ga gb : Nat), sq = .pointer (some ⟨q, 0, none⟩) ∧ Hid (wx.cell? ⟨q, 0, none⟩ = some (.int .i64 p) ∧ wx.cell? ⟨q, 1, none⟩ = some (.slice (some ⟨ga, 0, none⟩) n n) ∧ wx.cell? ⟨q, 2, none⟩ = some (.slice (some ⟨gb, 0, none⟩) n n)) ∧
      Hid (ga ≠ gb ∧ ga ≠ q ∧ gb ≠ q ∧ w2.heap.size ≤ ga ∧ w2.heap.size ≤ gb) ∧ Hid (w2.heap.size ≤ q ∧ q < wx.heap.size) ∧ Hid (RowI wx ga (List.replicate n 0)) ∧ Hid (RowI wx gb (List.replicate n 0)) ∧ Hid (Below w2.heap.size w2 wx))
  case first =>
    go_wp2_with fail
    go_region
    all_goals go_wp2_with fail
    all_goals go_meet
    all_goals first
      | exact ⟨w2.heap.size + 1 + 1, w2.heap.size, w2.heap.size + 1, rfl, hide ⟨(by first | (simp [go_sem]; done) | fail), (by first | (simp [go_sem]; done) | fail), (by first | (simp [go_sem]; done) | fail)⟩, hide ⟨by omega, by omega, by omega, by omega, by omega⟩, hide ⟨by omega, (by first | (simp; done) | (simp; omega))⟩, hide (((zrow_at _ n _ (by first | rfl | simp)).next (bl2 _ _ _)).next ((Below.refl _ _).drew)), hide (((zrow_at _ n _ (by first | rfl | simp)).next (bl1 _ _)).next ((Below.refl _ _).drew)), hide ((bl3 _ _ _ _).drew)⟩
      | exact ⟨w2.heap.size + 1, w2.heap.size, w2.heap.size + 1 + 1, rfl, hide ⟨(by first | (simp [go_sem]; done) | fail), (by first | (simp [go_sem]; done) | fail), (by first | (simp [go_sem]; done) | fail)⟩, hide ⟨by omega, by omega, by omega, by omega, by omega⟩, hide ⟨by omega, (by first | (simp; done) | (simp; omega))⟩, hide (((zrow_at _ n _ (by first | rfl | simp)).next (bl2 _ _ _)).next ((Below.refl _ _).drew)), hide (((zrow_at _ n _ (by first | rfl | simp))).next ((Below.refl _ _).drew)), hide ((bl3 _ _ _ _).drew)⟩
      | exact ⟨w2.heap.size + 1 + 1, w2.heap.size + 1, w2.heap.size, rfl, hide ⟨(by first | (simp [go_sem]; done) | fail), (by first | (simp [go_sem]; done) | fail), (by first | (simp [go_sem]; done) | fail)⟩, hide ⟨by omega, by omega, by omega, by omega, by omega⟩, hide ⟨by omega, (by first | (simp; done) | (simp; omega))⟩, hide (((zrow_at _ n _ (by first | rfl | simp)).next (bl1 _ _)).next ((Below.refl _ _).drew)), hide (((zrow_at _ n _ (by first | rfl | simp)).next (bl2 _ _ _)).next ((Below.refl _ _).drew)), hide ((bl3 _ _ _ _).drew)⟩
      | exact ⟨w2.heap.size, w2.heap.size + 1, w2.heap.size + 1 + 1, rfl, hide ⟨(by first | (simp [go_sem]; done) | fail), (by first | (simp [go_sem]; done) | fail), (by first | (simp [go_sem]; done) | fail)⟩, hide ⟨by omega, by omega, by omega, by omega, by omega⟩, hide ⟨by omega, (by first | (simp; done) | (simp; omega))⟩, hide (((zrow_at _ n _ (by first | rfl | simp)).next (bl1 _ _)).next ((Below.refl _ _).drew)), hide (((zrow_at _ n _ (by first | rfl | simp))).next ((Below.refl _ _).drew)), hide ((bl3 _ _ _ _).drew)⟩
      | exact ⟨w2.heap.size + 1, w2.heap.size + 1 + 1, w2.heap.size, rfl, hide ⟨(by first | (simp [go_sem]; done) | fail), (by first | (simp [go_sem]; done) | fail), (by first | (simp [go_sem]; done) | fail)⟩, hide ⟨by omega, by omega, by omega, by omega, by omega⟩, hide ⟨by omega, (by first | (simp; done) | (simp; omega))⟩, hide (((zrow_at _ n _ (by first | rfl | simp))).next ((Below.refl _ _).drew)), hide (((zrow_at _ n _ (by first | rfl | simp)).next (bl2 _ _ _)).next ((Below.refl _ _).drew)), hide ((bl3 _ _ _ _).drew)⟩
      | exact ⟨w2.heap.size, w2.heap.size + 1 + 1, w2.heap.size + 1, rfl, hide ⟨(by first | (simp [go_sem]; done) | fail), (by first | (simp [go_sem]; done) | fail), (by first | (simp [go_sem]; done) | fail)⟩, hide ⟨by omega, by omega, by omega, by omega, by omega⟩, hide ⟨by omega, (by first | (simp; done) | (simp; omega))⟩, hide (((zrow_at _ n _ (by first | rfl | simp))).next ((Below.refl _ _).drew)), hide (((zrow_at _ n _ (by first | rfl | simp)).next (bl1 _ _)).next ((Below.refl _ _).drew)), hide ((bl3 _ _ _ _).drew)⟩
  case rest =>
    obtain ⟨q, ga, gb, rfl, hq, hd, hge, rA, rB, hW⟩ := hcut
    obtain ⟨w5, hu⟩ : ∃ u, u = wc := ⟨wc, rfl⟩
    subst hu
    obtain ⟨q0, q1, q2⟩ := hq.out
    obtain ⟨d1, d2, d3, hga, hgb⟩ := hd.out
    obtain ⟨e1, e2⟩ := hge.out
    have hn0 : (0 : Int) < (n : Int) := by omega
    have hn0' : 0 < n := by omega
    have cB := rB.out.cell 0 (by simp; omega)
    have fB := rB.out.free 0
    have v0 : IntKind.i64.wrap ((n : Int) - 1) = (n : Int) - 1 := IntWalk.i64_in _ (by omega)
    obtain ⟨w6, hw6⟩ : ∃ w6, w6 = w5.setCell ⟨gb, 0, none⟩ (.int .i64 b) := ⟨_, rfl⟩
    have RB : Hid (RowI w6 gb (tab n (fjY p f g b n (n - 0)))) := hide (by rw [hw6, Nat.sub_zero, ← fjY_first p f g b n hn1]; exact rB.out.set 0 b)
    have RA : Hid (RowI w6 ga (tab n (fjX p f g n (n - 0)))) := hide (by rw [hw6, Nat.sub_zero, fjX_all]; exact rA.out.other (fun e => d1 e.symm) _)
    have hq6 : Hid (w6.cell? ⟨q, 0, none⟩ = some (.int .i64 p) ∧ w6.cell? ⟨q, 1, none⟩ = some (.slice (some ⟨ga, 0, none⟩) n n) ∧ w6.cell? ⟨q, 2, none⟩ = some (.slice (some ⟨gb, 0, none⟩) n n)) := hide (by rw [hw6]; exact ⟨cell_set2 q0 (by simpa using d3) _, cell_set2 q1 (by simpa using d3) _, cell_set2 q2 (by simpa using d3) _⟩)
    have hW6 : Hid (Below w2.heap.size w2 w6) := hide (by rw [hw6]; exact hW.out.setCell hgb _)
    have hS1 : Hid (SL w6 a1 (n + 1) c1 (fjG p f g 0).1) := hide (G1.below hW6.out)
    have hS2 : Hid (SL w6 a2 n c2 (fjG p f g 0).2) := hide (G2.below hW6.out)
    have hok0 : Hid (fjOk p f g n 0) := hide (fun t ht => by omega)
    have hnb0 : Hid (blk a1 ≠ some ga ∧ blk a1 ≠ some gb ∧ blk a2 ≠ some ga ∧ blk a2 ≠ some gb) := hide ⟨fun h => by have := G1.blk_lt (by omega) _ h; omega, fun h => by have := G1.blk_lt (by omega) _ h; omega, fun h => by have := G2.blk_lt hn0' _ h; omega, fun h => by have := G2.blk_lt hn0' _ h; omega⟩
    have hq6s : q < w6.heap.size := World.block_lt_of_cell? _ _ hq6.out.1
    go_wp2_with fail
    rw [← hw6]
    clear hw6 rA rB cB fB q0 q1 q2 hq hW hge v0
    go_loopw [1, 2, 13] (fun fv gv kv wr => ∃ (s lf lg cf' cg : Nat) (af ag : Option Addr), s ≤ n - 1 ∧ kv = .int .i64 ((n : Int) - 1 - s) ∧ fv = .slice af lf cf' ∧ gv = .slice ag lg cg ∧ Hid (SL wr af lf cf' (fjG p f g s).1) ∧ Hid (SL wr ag lg cg (fjG p f g s).2) ∧ Hid (fjOk p f g n s) ∧ Hid (blk af ≠ some ga ∧ blk af ≠ some gb ∧ blk ag ≠ some ga ∧ blk ag ≠ some gb) ∧ Hid (RowI wr ga (tab n (fjX p f g n (n - s)))) ∧ Hid (RowI wr gb (tab n (fjY p f g b n (n - s)))) ∧
      Hid (wr.cell? ⟨q, 0, none⟩ = some (.int .i64 p) ∧ wr.cell? ⟨q, 1, none⟩ = some (.slice (some ⟨ga, 0, none⟩) n n) ∧ wr.cell? ⟨q, 2, none⟩ = some (.slice (some ⟨gb, 0, none⟩) n n)) ∧ Hid (Below w2.heap.size w2 wr)) (fun _ _ kv _ => (intOf kv).toNat)
    case atStart => exact ⟨0, _, _, _, _, _, _, by omega, by simp, rfl, rfl, hS1, hS2, hok0, hnb0, RA, RB, hq6, hW6⟩
    case round =>
      obtain ⟨s, lf, lg, cf', cg, af, ag, hs, rfl, rfl, rfl, sF, sG, hok, hnb, rA, rB, hq', hW'⟩ := hrel
      clear hS1 hS2 hok0 RA RB hq6 hW6 hq6s hnb0
      have hst := hall.out s hs hok.out
      have hlf : lf = n + 1 - s := by rw [← sF.out.len]; exact hst.l1
      have hlg : lg = n - s := by rw [← sG.out.len]; exact hst.l2
      subst hlf hlg
      have Hst := hide hst
      have zr := hW'.out.size
      clear hst
      · obtain ⟨K, hK⟩ : ∃ K : Nat, K = n - 1 - s := ⟨_, rfl⟩
        have hki : (n : Int) - 1 - s = (K : Int) := by omega
        rw [hki]
        have hKn : K < n := by omega
        have HK := hide hK
        have hQ2 := quo_two Hpr.out Hst.out.p1 Hst.out.p2 (by rw [Hst.out.l1, Hst.out.l2]; omega) (by rw [Hst.out.l2]; omega)
        have hQp := quoM_poly Hpr.out Hst.out.p1 Hst.out.p2 (by rw [Hst.out.l2]; omega)
        have hRp := remM_poly Hpr.out Hst.out.p1 Hst.out.p2
        clear hK hki
        go_wp2_with fail
        refine (l01Divide_any p _ _ _ _ _ _ _ _ _ sF.out sG.out (by omega) (by omega) (by omega) Hpr.out Hst.out.p1 Hst.out.p2).mono ?_
        rintro e w7 ⟨aq, cq, ar, cr, M, rfl, oq, oR, hM1, hM2, t7⟩
        obtain ⟨Q, hQ⟩ : ∃ Q, quoM p (fjG p f g s).1 (fjG p f g s).2 = Q := ⟨_, rfl⟩
        obtain ⟨R, hR⟩ : ∃ R, remM p (fjG p f g s).1 (fjG p f g s).2 = R := ⟨_, rfl⟩
        have HQ := hide (show fjQ p f g s = Q from hQ)
        have HR := hide (show fjR p f g s = R from hR)
        rw [hQ] at oq hQ2 hQp ⊢
        rw [hR] at oR hRp ⊢
        have hB7 := bthen hW'.out t7 (by omega)
        have z7 := hB7.size
        clear hQ hR
        obtain ⟨bq, oq', rfl, hbq, hcq⟩ := oq.sl.at (by omega)
        have eQ := hcq 0 (by omega)
        rw [Nat.add_zero] at eQ
        have rQ := getD_rng (polyB_rng hQp).2.1 hp 0
        have hXA : Hid (fjA p f g n K = (-(Q.getD 0 0)) % p) := hide (by unfold fjA; rw [show n - 1 - K = s by have := HK.out; omega, HQ.out, opp_neg])
        obtain ⟨x, hx⟩ : ∃ x, Q.getD 0 0 = x := ⟨_, rfl⟩
        rw [hx] at eQ rQ hXA
        have vx : IntKind.i64.wrap (-x) = -x := IntWalk.i64_in _ (by omega)
        have u1 := cell_be t7 hq'.out.2.1
        have RA7 := hide (rA.out.next t7)
        have RB7 := hide (rB.out.next t7)
        have cA := RA7.out.cell K (by rw [tab_len]; omega)
        have fA := RA7.out.free K
        have hKlt : (K : Int) < (n : Int) := by omega
        have hQ1 : (0 : Int) < (Q.length : Int) := by omega
        have hQ1' : 0 < Q.length := by omega
        clear hx hcq
        go_wp2
        refine wp_region_still_tail 10 (by kernel_rfl) (by kernel_rfl) ?_
        simp only [List.take_succ_cons, List.take_zero, List.drop_succ_cons, List.drop_zero]
        repeat still_step
        still_call (still_of (l01Mod_any p (-x) _ hp hp2 (by omega) (by omega)))
        repeat still_step
        refine wpStill_nil ?_
        obtain ⟨w8, hw8⟩ : ∃ w8, w8 = (w7.setCell ⟨ga, K, none⟩ (.int .i64 ((-x) % p))).drew := ⟨_, rfl⟩
        have u2 : w8.cell? ⟨q, 2, none⟩ = some (.slice (some ⟨gb, 0, none⟩) n n) := by rw [hw8]; exact cell_set2 (cell_be t7 hq'.out.2.2) (by simpa using d2) _
        have u2a : w8.cell? ⟨q, 1, none⟩ = some (.slice (some ⟨ga, 0, none⟩) n n) := by rw [hw8]; exact cell_set2 (cell_be t7 hq'.out.2.1) (by simpa using d2) _
        have u2b : w8.cell? ⟨q, 0, none⟩ = some (.int .i64 p) := by rw [hw8]; exact cell_set2 (cell_be t7 hq'.out.1) (by simpa using d2) _
        have RB8 : Hid (RowI w8 gb (tab n (fjY p f g b n (n - s)))) := hide (by rw [hw8]; exact RB7.out.other (b := ga) (j := K) d1 (.int .i64 ((-x) % p)))
        have RA8 : Hid (RowI w8 ga (tab n (fjX p f g n K))) := hide (by
          have := RA7.out.set K ((-x) % p)
          rw [show n - s = K + 1 by have := HK.out; omega, show (tab n (fjX p f g n (K + 1))).set K ((-x) % p) = tab n (fjX p f g n K) by rw [← hXA.out, fjX_set]] at this
          rw [hw8]
          exact this)
        have hSG : Hid (SL w8 ag (n - s) cg (fjG p f g s).2) := hide (by rw [hw8]; exact (sG.out.below t7).other hnb.out.2.2.1 _)
        have hB8 : Below w2.heap.size w2 w8 := by rw [hw8]; exact (hB7.setCell hga _).drew
        have hz8 : w7.heap.size = w8.heap.size := by rw [hw8]; simp
        have hoRs : ∀ j, Hid (0 < R.length → ∃ gR, ar = some ⟨gR, 0, none⟩ ∧ gR ≠ ga ∧ gR ≠ gb ∧ gR < w8.heap.size ∧ SL w8 (some ⟨gR, 0, none⟩) R.length cr R ∧ (j < R.length → w8.cell? ⟨gR, j, none⟩ = some (.int .i64 (R.getD j 0)))) := fun j => hide (by
          intro hpos
          obtain ⟨hoR, gR', hbgR, hlR⟩ : Own M w7 ar cr R ∧ ∃ g, blk ar = some g ∧ g < w7.heap.size := by
            rcases oR.2 with h | h
            · omega
            · exact h
          obtain ⟨gR, rfl, hgR, hgR2, _⟩ := hoR.blkG (by omega)
          have hgRa : gR ≠ ga := fun e => by have := RA7.out.lt; have := rA.out.lt; omega
          have hgRb : gR ≠ gb := fun e => by have := rB.out.lt; omega
          refine ⟨gR, rfl, hgRa, hgRb, by omega, by rw [hw8]; exact hoR.sl.other (by simpa [blk] using hgRa) _, fun hj => ?_⟩
          rw [hw8]; exact cell_set2 (hoR.cellG j (by omega)) (by simp; omega) _)
        have Hz8 := hide hz8
        clear eQ
        go_upto_region 14 with fail
        rw [← hw8]
        clear hw8 hz8 RA7 RB7 cA fA u1 rA rB vx oR oq
        by_cases hlt : s < n - 1
        · have hK1 : 1 ≤ K := by have := HK.out; omega
          have oK : ((K : Int) == 0) = false := by simp; omega
          have hKp : (0 : Int) < (K : Int) := by omega
          by_cases hRl : R.length = K
          rotate_left
          · have hbF : fjB p f g n = false := fjB_false hlt (by rw [HR.out, ← HK.out]; exact hRl)
            have hC : fdC p f g n = 5 := by simp [fdC, hbF]
            have HC := hide hC
            have HV := hide (show fdV p f g n = [] by simp [fdV, hC])
            have HU := hide (show fdU p f g b n = [] by simp [fdU, hC])
            have HP := hide (show fdP p f g n = 0 by simp [fdP, hC])
            have ob : ((R.length : Int) != (K : Int)) = true := by simp; omega
            replace r0 := cell_be hB8 r0
            replace r1 := cell_be hB8 r1
            replace r2 := cell_be hB8 r2
            replace y0 := (hB8.frozen (p := ⟨w.heap.size, 0, none⟩) (by simp; omega)).trans y0
            replace y1 := (hB8.frozen (p := ⟨w.heap.size, 1, none⟩) (by simp; omega)).trans y1
            replace y2 := (hB8.frozen (p := ⟨w.heap.size, 2, none⟩) (by simp; omega)).trans y2
            have hBw := hbw.trans (hB8.mono (by omega))
            clear hbF hC hRl hoRs u2 u2a u2b
            go_wp2
            refine bodyPost_ret (v := .tuple #[jac 0 none 0 0 none 0 0, .int .i64 5]) (by simp [results, Try.results4, go_sem, r0, r1, r2]) rfl ?_
            exact ResJ.nil HP.out HV.out HU.out HC.out (((hBw.setCell (by simp) _).setCell (by simp) _).setCell (by simp) _)
          have ob : ((R.length : Int) != (K : Int)) = false := by simp; omega
          have Hrl := hide hRl
          have hRl1 : R.length ≤ K := by omega
          have hRl2 : K ≤ R.length := by omega
          obtain ⟨gR, rfl, hgRa, hgRb, hgR2, hSR, eR⟩ := (hoRs (K - 1)).out (by omega)
          have eR := eR (by omega)
          have hSR := hide hSR
          have rR := getD_rng (polyB_rng hRp).2.1 hp (K - 1)
          have hXE : Hid (fjE p f g b n K = (-(R.getD (K - 1) 0)) % p) := hide (by unfold fjE; rw [if_neg (by omega), show n - 1 - K = s by have := HK.out; omega, HR.out, opp_neg])
          obtain ⟨y, hy⟩ : ∃ y, R.getD (K - 1) 0 = y := ⟨_, rfl⟩
          rw [hy] at eR rR hXE
          have vy : IntKind.i64.wrap (-y) = -y := IntWalk.i64_in _ (by omega)
          have cB := RB8.out.cell K (by rw [tab_len]; omega)
          have fB := RB8.out.free K
          have vK : IntKind.i64.wrap ((K : Int) - 1) = (K : Int) - 1 := IntWalk.i64_in _ (by omega)
          have vK2 : ((K : Int) - 1).toNat = K - 1 := by omega
          have lR1 : (K : Int) - 1 < (R.length : Int) := by omega
          have lR2 : (0 : Int) ≤ (K : Int) - 1 := by omega
          have lR3 : (1 : Int) ≤ (K : Int) := by omega
          clear hy hRl hoRs
          go_wp2
          refine wp_region_still_tail 12 (by kernel_rfl) (by kernel_rfl) ?_
          simp only [List.take_succ_cons, List.take_zero, List.drop_succ_cons, List.drop_zero]
          repeat still_step
          still_call (still_of (l01Mod_any p (-y) _ hp hp2 (by omega) (by omega)))
          repeat still_step
          refine wpStill_nil ?_
          obtain ⟨w9, hw9⟩ : ∃ w9, w9 = (w8.setCell ⟨gb, K, none⟩ (.int .i64 ((-y) % p))).drew := ⟨_, rfl⟩
          have hSR9 : Hid (SL w9 (some ⟨gR, 0, none⟩) R.length cr R) := hide (by rw [hw9]; exact hSR.out.other (by simpa [blk] using hgRb) _)
          have hSG9 : Hid (SL w9 ag (n - s) cg (fjG p f g s).2) := hide (by rw [hw9]; exact hSG.out.other hnb.out.2.2.2 _)
          have RA9 : Hid (RowI w9 ga (tab n (fjX p f g n K))) := hide (by rw [hw9]; exact RA8.out.other (b := gb) (j := K) (fun e => d1 e.symm) _)
          have RB9 : Hid (RowI w9 gb (tab n (fjY p f g b n K))) := hide (by
            have := RB8.out.set K ((-y) % p)
            rw [show n - s = K + 1 by have := HK.out; omega, show (tab n (fjY p f g b n (K + 1))).set K ((-y) % p) = tab n (fjY p f g b n K) by rw [← hXE.out, fjY_set]] at this
            rw [hw9]
            exact this)
          have hq9 : Hid (w9.cell? ⟨q, 0, none⟩ = some (.int .i64 p) ∧ w9.cell? ⟨q, 1, none⟩ = some (.slice (some ⟨ga, 0, none⟩) n n) ∧ w9.cell? ⟨q, 2, none⟩ = some (.slice (some ⟨gb, 0, none⟩) n n)) := hide (by rw [hw9]; exact ⟨cell_set2 u2b (by simpa using d3) _, cell_set2 u2a (by simpa using d3) _, cell_set2 u2 (by simpa using d3) _⟩)
          have hB9 : Below w2.heap.size w2 w9 := by rw [hw9]; exact (hB8.setCell hgb _).drew
          have hz9 : w8.heap.size = w9.heap.size := by rw [hw9]; simp
          have Hz9 := hide hz9
          have hRa := hide (polyB_rng hRp).2.1
          have hok2 : Hid (fjOk p f g n (s + 1)) := hide (fun t ht => by
            by_cases e : t < s
            · exact hok.out t e
            · rw [show t = s by omega, HR.out, Hrl.out, HK.out])
          have hG1 : Hid ((fjG p f g (s + 1)).1 = (fjG p f g s).2) := hide rfl
          have hG2 : Hid ((fjG p f g (s + 1)).2 = monM p R) := hide (by rw [fjG_succ, HR.out])
          clear hz9 vK vK2 eR u2a u2b RA8 RB8 hSR hSG hq'
          go_wp2_with fail
          rw [← hw9]
          clear hw9 cB fB u2
          refine (l01Monic_any p _ _ _ R _ hSR9.out (by omega) hp hp2 hRa.out).mono ?_
          rintro e w10 ⟨am, cm, rfl, ho10, t10⟩
          have z9 := hB9.size
          have hB10 := bthen hB9 t10 (by omega)
          have hbm := own_blk_ge ho10
          have hga9 := RA9.out.lt
          have hgb9 := RB9.out.lt
          have hnb2 : Hid (blk ag ≠ some ga ∧ blk ag ≠ some gb ∧ blk am ≠ some ga ∧ blk am ≠ some gb) := hide ⟨hnb.out.2.2.1, hnb.out.2.2.2, fun h => by have := hbm _ h; omega, fun h => by have := hbm _ h; omega⟩
          have vK : IntKind.i64.wrap ((K : Int) - 1) = (K : Int) - 1 := IntWalk.i64_in _ (by omega)
          have sF2 : Hid (SL w10 ag (n - s) cg (fjG p f g (s + 1)).1) := hide (by rw [hG1.out]; exact hSG9.out.below t10)
          have sG2 : Hid (SL w10 am (monM p R).length cm (fjG p f g (s + 1)).2) := hide (by rw [hG2.out]; exact ho10.sl)
          have hKs : Hid (n - (s + 1) = K) := hide (by have := HK.out; omega)
          have RA10 : Hid (RowI w10 ga (tab n (fjX p f g n (n - (s + 1))))) := hide (by rw [hKs.out]; exact RA9.out.next t10)
          have RB10 : Hid (RowI w10 gb (tab n (fjY p f g b n (n - (s + 1))))) := hide (by rw [hKs.out]; exact RB9.out.next t10)
          have hq10 : Hid (w10.cell? ⟨q, 0, none⟩ = some (.int .i64 p) ∧ w10.cell? ⟨q, 1, none⟩ = some (.slice (some ⟨ga, 0, none⟩) n n) ∧ w10.cell? ⟨q, 2, none⟩ = some (.slice (some ⟨gb, 0, none⟩) n n)) := hide ⟨cell_be t10 hq9.out.1, cell_be t10 hq9.out.2.1, cell_be t10 hq9.out.2.2⟩
          have hW10 := hide hB10
          have hkk : Hid ((K : Int) - 1 = (n : Int) - 1 - ((s + 1 : Nat) : Int)) := hide (by have := HK.out; omega)
          clear ho10 hbm hnb
          go_wp2
          go_roundw
          case rel => exact ⟨s + 1, _, _, _, _, _, _, by omega, by rw [← hkk.out], rfl, rfl, sF2, sG2, hok2, hnb2, RA10, RB10, hq10, hW10⟩
          case measure => first | (simp [intOf]; done) | (simp [intOf]; omega)
        · have hse : s = n - 1 := by omega
          have hK0 : K = 0 := by have := HK.out; omega
          subst hK0
          have hbT : fjB p f g n = true := fjB_true (by rw [← hse]; exact hok.out)
          have hC : fdC p f g n = 0 := by simp [fdC, hbT]
          have HC := hide hC
          have HV := hide (show fdV p f g n = tab n (fjA p f g n) by simp [fdV, hC])
          have HU := hide (show fdU p f g b n = tab n (fjE p f g b n) by simp [fdU, hC])
          have HP := hide (show fdP p f g n = p by simp [fdP, hC])
          have RA9 : Hid (RowI w8 ga (tab n (fjA p f g n))) := hide (by
            have := RA8.out
            rwa [show tab n (fjX p f g n 0) = tab n (fjA p f g n) from tab_congr fun j _ => by unfold fjX; rw [if_pos (Nat.zero_le j)]] at this)
          have RB9 : Hid (RowI w8 gb (tab n (fjE p f g b n))) := hide (by
            have := RB8.out
            rwa [show tab n (fjY p f g b n (n - s)) = tab n (fjE p f g b n) from tab_congr fun j _ => by unfold fjY; rw [if_pos (by omega)]] at this)
          replace r0 := cell_be hB8 r0
          replace r1 := cell_be hB8 r1
          replace r2 := cell_be hB8 r2
          replace y0 := (hB8.frozen (p := ⟨w.heap.size, 0, none⟩) (by simp; omega)).trans y0
          replace y1 := (hB8.frozen (p := ⟨w.heap.size, 1, none⟩) (by simp; omega)).trans y1
          replace y2 := (hB8.frozen (p := ⟨w.heap.size, 2, none⟩) (by simp; omega)).trans y2
          have hBw := hbw.trans (hB8.mono (by omega))
          clear hse hbT hC hoRs
          go_wp2
          obtain ⟨w10, hw10⟩ : ∃ w10, w10 = (((w8.setCell ⟨w.heap.size, 0, none⟩ (.int .i64 p)).setCell ⟨w.heap.size, 1, none⟩ (.slice (some ⟨ga, 0, none⟩) n n)).setCell ⟨w.heap.size, 2, none⟩ (.slice (some ⟨gb, 0, none⟩) n n)) := ⟨_, rfl⟩
          have hwa : w.heap.size ≠ ga := by omega
          have hwb : w.heap.size ≠ gb := by omega
          have RA10 : RowI w10 ga (tab n (fjA p f g n)) := by rw [hw10]; exact ((RA9.out.other hwa _).other hwa _).other hwa _
          have RB10 : RowI w10 gb (tab n (fjE p f g b n)) := by rw [hw10]; exact ((RB9.out.other hwb _).other hwb _).other hwb _
          have OA := OZ.of (n := n) (RA10.own' (B := w.heap.size) (by omega) (by rw [tab_len]; unfold maxLen; omega)) (by rw [tab_len])
          have OB := OZ.of (n := n) (RB10.own' (B := w.heap.size) (by omega) (by rw [tab_len]; unfold maxLen; omega)) (by rw [tab_len])
          rw [tab_len] at OA OB
          have hB10 : Below w.heap.size w w10 := by rw [hw10]; exact ((hBw.setCell (by simp) _).setCell (by simp) _).setCell (by simp) _
          refine bodyPost_ret (v := .tuple #[jac p (some ⟨ga, 0, none⟩) n n (some ⟨gb, 0, none⟩) n n, .int .i64 0]) (by simp [results, Try.results4, go_sem, r0, r1, r2]) rfl ?_
          rw [← hw10]
          refine ResJ.mk HP.out HC.out ?_ ?_ (b := some ⟨gb, 0, none⟩) (cap := n) (cap' := n) ⟨?_, ?_, ?_⟩ ?_ ?_ hB10
          · rw [HV.out, tab_len]
          · rw [HU.out, tab_len]
          · rw [HV.out]; exact OA
          · rw [HU.out]; exact OB
          · exact .inr (.inr (fun e => d1 (by simpa [blk] using e)))
          · rw [HV.out, tab_len]; omega
          · rw [HU.out, tab_len]; omega
set_option maxRecDepth 100000 in
set_option maxHeartbeats 800000 in
theorem specFindJacobi (p : Int) (a1 : Option Addr) (n1 c1 : Nat) (f : List Int) (a2 : Option Addr) (n2 c2 : Nat) (g : List Int) (b : Int) (w : World) (h1 : SL w a1 n1 c1 f) (h2 : SL w a2 n2 c2 g) (b1 : n1 ≤ 4000000) (b2 : n2 ≤ 4000000) :
    Calls Try.prog 4 #[.int .i64 p, .slice a1 n1 c1, .slice a2 n2 c2, .int .i64 b] w (ResJ w (fjP p f g b) (fjV p f g b) (fjU p f g b) (fjC p f g b)) := by
  rcases chk2_cases p f g with hc | hc | ⟨hc, hf, hg, hpr⟩
  · exact specFj_c1 p a1 n1 c1 f a2 n2 c2 g b w h1 h2 b1 b2 hc
  · exact specFj_c2 p a1 n1 c1 f a2 n2 c2 g b w h1 h2 b1 b2 hc
  have d1 : n1 ≤ 25 := by have := poly_len hf; have := h1.len; omega
  have d2 : n2 ≤ 25 := by have := poly_len hg; have := h2.len; omega
  by_cases k1 : n1 < 2
  · exact specFj_k1 p a1 n1 c1 f a2 n2 c2 g b w h1 h2 b1 b2 hc d1 d2 k1
  by_cases k2 : 13 < n1
  · exact specFj_k2 p a1 n1 c1 f a2 n2 c2 g b w h1 h2 b1 b2 hc d1 d2 k1 k2
  by_cases k3 : ¬ cf f (n1 - 1) = 1
  · exact specFj_k3 p a1 n1 c1 f a2 n2 c2 g b w h1 h2 b1 b2 hc d1 d2 k1 k2 k3
  by_cases k4 : ¬ (n2 + 1 = n1 ∧ cf g (n2 - 1) = 1)
  · exact specFj_k4 p a1 n1 c1 f a2 n2 c2 g b w h1 h2 b1 b2 hc d1 d2 k1 k2 k3 k4
  by_cases k5 : ¬ (1 ≤ b ∧ b ≤ p - 1)
  · exact specFj_k5 p a1 n1 c1 f a2 n2 c2 g b w h1 h2 b1 b2 hc d1 d2 k1 k2 k3 k4 k5
  obtain ⟨e4, m4⟩ := Decidable.byContradiction k4
  have m3 := Decidable.byContradiction k3
  have m5 := Decidable.byContradiction k5
  obtain ⟨n, rfl⟩ : ∃ n, n2 = n := ⟨n2, rfl⟩
  subst e4
  rw [Nat.add_sub_cancel] at m3
  have hT : fjT p f g b = true := by
    unfold fjT
    rw [decide_eq_true (show 2 ≤ f.length ∧ f.length ≤ 13 ∧ g.length + 1 = f.length by have := h1.len; have := h2.len; omega), h1.len, h2.len, Nat.add_sub_cancel, decide_eq_true m3, decide_eq_true m4, decide_eq_true (show 1 ≤ b ∧ b < p by omega)]
    rfl
  have HT := fdC_fj h2.len hc hT
  have := specFj_ok p b a1 n2 c1 f a2 c2 g w h1 h2 hpr hf hg (by omega) (by omega) m3 m4 m5.1 (by omega) hc
  rwa [HT.1, HT.2.1, HT.2.2.1, HT.2.2.2] at this
end Go.Proofs.Ytcoloeikfechjaa
