/- Contracts: IsDesk (program and model). -/
import Derived.Test.YtpoabedlcljibaaTa
import Derived.Test.YtpoabedlcljibaaAm
import Derived.Test.YtpoabedlcljibaaJb
import Derived.Test.YtpoabedlcljibaaPo
namespace Go.Proofs.Ytpoabedlcljibaa
open Go.RowKit
set_option linter.unusedVariables false
set_option linter.unusedSimpArgs false

def dskB (p : Int) (xs : List Int) (q : Int) (ys zs us : List Int) : Bool := momB p xs && jacB q ys zs && decide (q = p) && polyB p us

set_option maxRecDepth 100000 in
set_option maxHeartbeats 1600000 in
theorem implIsDesk (p : Int) (a : Option Addr) (n c : Nat) (xs : List Int) (q : Int) (b : Option Addr) (m d : Nat) (ys : List Int) (b2 : Option Addr) (m2 d2 : Nat) (zs : List Int) (f : Option Addr) (k g : Nat) (us : List Int) (w : World) (h1 : SL w a n c xs) (h2 : SL w b m d ys) (h3 : SL w b2 m2 d2 zs) (h4 : SL w f k g us) (hn : n ≤ 4000000) (hm : m ≤ 4000000) (hm2 : m2 ≤ 4000000) (hk : k ≤ 4000000) :
    Calls Try.prog 13 #[dsk p a n c q b m d b2 m2 d2 f k g] w fun e w' => e = .returned (.bool (dskB p xs q ys zs us)) ∧ Below w.heap.size w w' := by
  have hb0 := bl1 w (.cells #[.int .i64 p, .slice a n c, .int .i64 q, .slice b m d, .slice b2 m2 d2, .slice f k g] 28)
  replace h1 := h1.below hb0
  cases hv1 : momB p xs
  · have H1 := hide hv1
    have H : Hid (dskB p xs q ys zs us = false) := hide (by simp [dskB, hv1])
    clear hv1
    go_enter Try.func13, Try.ntmps13
    go_wp2_with fail
    refine (areMoments_any _ _ _ _ _ _ h1 hn).mono ?_
    rintro e w1 ⟨rfl, hb1⟩
    rw [H1.out]
    have hB1 := bnext hb0 hb1
    go_wp2
    rw [H.out]
    go_ret
    exact ⟨rfl, hB1⟩
  have H1 := hide hv1
  cases hv2 : jacB q ys zs
  · have H2 := hide hv2
    have H : Hid (dskB p xs q ys zs us = false) := hide (by simp [dskB, hv2])
    clear hv1 hv2
    go_enter Try.func13, Try.ntmps13
    go_wp2_with fail
    refine (areMoments_any _ _ _ _ _ _ h1 hn).mono ?_
    rintro e w1 ⟨rfl, hb1⟩
    rw [H1.out]
    have hB1 := bnext hb0 hb1
    have r0 : w1.cell? ⟨w.heap.size, 0, none⟩ = some (.int .i64 p) := cell_be hb1 (by simp [go_sem])
    have r1 : w1.cell? ⟨w.heap.size, 1, none⟩ = some (.slice a n c) := cell_be hb1 (by simp [go_sem])
    have r2 : w1.cell? ⟨w.heap.size, 2, none⟩ = some (.int .i64 q) := cell_be hb1 (by simp [go_sem])
    have r3 : w1.cell? ⟨w.heap.size, 3, none⟩ = some (.slice b m d) := cell_be hb1 (by simp [go_sem])
    have r4 : w1.cell? ⟨w.heap.size, 4, none⟩ = some (.slice b2 m2 d2) := cell_be hb1 (by simp [go_sem])
    have r5 : w1.cell? ⟨w.heap.size, 5, none⟩ = some (.slice f k g) := cell_be hb1 (by simp [go_sem])
    clear hb1
    go_wp2_with fail
    refine (implIsJacobi _ _ _ _ _ _ _ _ _ _ (h2.below hB1) (h3.below hB1) hm hm2).mono ?_
    rintro e w2 ⟨rfl, hb2⟩
    rw [H2.out]
    have hB2 := bnext hB1 hb2
    replace r0 := cell_be hb2 r0
    replace r1 := cell_be hb2 r1
    replace r2 := cell_be hb2 r2
    replace r3 := cell_be hb2 r3
    replace r4 := cell_be hb2 r4
    replace r5 := cell_be hb2 r5
    clear hb2
    go_wp2
    rw [H.out]
    go_ret
    exact ⟨rfl, hB2⟩
  have H2 := hide hv2
  by_cases hq : q = p
  rotate_left
  · have H : Hid (dskB p xs q ys zs us = false) := hide (by simp [dskB, hq])
    clear hv1 hv2
    go_enter Try.func13, Try.ntmps13
    go_wp2_with fail
    refine (areMoments_any _ _ _ _ _ _ h1 hn).mono ?_
    rintro e w1 ⟨rfl, hb1⟩
    rw [H1.out]
    have hB1 := bnext hb0 hb1
    have r0 : w1.cell? ⟨w.heap.size, 0, none⟩ = some (.int .i64 p) := cell_be hb1 (by simp [go_sem])
    have r1 : w1.cell? ⟨w.heap.size, 1, none⟩ = some (.slice a n c) := cell_be hb1 (by simp [go_sem])
    have r2 : w1.cell? ⟨w.heap.size, 2, none⟩ = some (.int .i64 q) := cell_be hb1 (by simp [go_sem])
    have r3 : w1.cell? ⟨w.heap.size, 3, none⟩ = some (.slice b m d) := cell_be hb1 (by simp [go_sem])
    have r4 : w1.cell? ⟨w.heap.size, 4, none⟩ = some (.slice b2 m2 d2) := cell_be hb1 (by simp [go_sem])
    have r5 : w1.cell? ⟨w.heap.size, 5, none⟩ = some (.slice f k g) := cell_be hb1 (by simp [go_sem])
    clear hb1
    go_wp2_with fail
    refine (implIsJacobi _ _ _ _ _ _ _ _ _ _ (h2.below hB1) (h3.below hB1) hm hm2).mono ?_
    rintro e w2 ⟨rfl, hb2⟩
    rw [H2.out]
    have hB2 := bnext hB1 hb2
    replace r0 := cell_be hb2 r0
    replace r1 := cell_be hb2 r1
    replace r2 := cell_be hb2 r2
    replace r3 := cell_be hb2 r3
    replace r4 := cell_be hb2 r4
    replace r5 := cell_be hb2 r5
    clear hb2
    go_wp2
    rw [H.out]
    go_ret
    exact ⟨rfl, hB2⟩
  subst hq
  have H : Hid (dskB q xs q ys zs us = polyB q us) := hide (by simp [dskB, hv1, hv2])
  clear hv1 hv2
  go_enter Try.func13, Try.ntmps13
  go_wp2_with fail
  refine (areMoments_any _ _ _ _ _ _ h1 hn).mono ?_
  rintro e w1 ⟨rfl, hb1⟩
  rw [H1.out]
  have hB1 := bnext hb0 hb1
  have r0 : w1.cell? ⟨w.heap.size, 0, none⟩ = some (.int .i64 q) := cell_be hb1 (by simp [go_sem])
  have r1 : w1.cell? ⟨w.heap.size, 1, none⟩ = some (.slice a n c) := cell_be hb1 (by simp [go_sem])
  have r2 : w1.cell? ⟨w.heap.size, 2, none⟩ = some (.int .i64 q) := cell_be hb1 (by simp [go_sem])
  have r3 : w1.cell? ⟨w.heap.size, 3, none⟩ = some (.slice b m d) := cell_be hb1 (by simp [go_sem])
  have r4 : w1.cell? ⟨w.heap.size, 4, none⟩ = some (.slice b2 m2 d2) := cell_be hb1 (by simp [go_sem])
  have r5 : w1.cell? ⟨w.heap.size, 5, none⟩ = some (.slice f k g) := cell_be hb1 (by simp [go_sem])
  clear hb1
  go_wp2_with fail
  refine (implIsJacobi _ _ _ _ _ _ _ _ _ _ (h2.below hB1) (h3.below hB1) hm hm2).mono ?_
  rintro e w2 ⟨rfl, hb2⟩
  rw [H2.out]
  have hB2 := bnext hB1 hb2
  replace r0 := cell_be hb2 r0
  replace r1 := cell_be hb2 r1
  replace r2 := cell_be hb2 r2
  replace r3 := cell_be hb2 r3
  replace r4 := cell_be hb2 r4
  replace r5 := cell_be hb2 r5
  clear hb2
  go_wp2_with fail
  refine (isPoly_any _ _ _ _ _ _ (h4.below hB2) hk).mono ?_
  rintro e w3 ⟨rfl, hb3⟩
  go_wp2
  rw [H.out]
  go_ret
  exact ⟨rfl, bnext hB2 hb3⟩
set_option maxRecDepth 100000 in
set_option maxHeartbeats 1600000 in
theorem specIsDesk (p : Int) (a : Option Addr) (n c : Nat) (xs : List Int) (q : Int) (b : Option Addr) (m d : Nat) (ys : List Int) (b2 : Option Addr) (m2 d2 : Nat) (zs : List Int) (f : Option Addr) (k g : Nat) (us : List Int) (w : World) (h1 : SL w a n c xs) (h2 : SL w b m d ys) (h3 : SL w b2 m2 d2 zs) (h4 : SL w f k g us) (hn : n ≤ 4000000) (hm : m ≤ 4000000) (hm2 : m2 ≤ 4000000) (hk : k ≤ 4000000) :
    Calls Try.prog 11 #[dsk p a n c q b m d b2 m2 d2 f k g] w fun e w' => e = .returned (.bool (dskB p xs q ys zs us)) ∧ Below w.heap.size w w' := by
  have hb0 := bl1 w (.cells #[.int .i64 p, .slice a n c, .int .i64 q, .slice b m d, .slice b2 m2 d2, .slice f k g] 28)
  replace h1 := h1.below hb0
  cases hv1 : momB p xs
  · have H1 := hide hv1
    have H : Hid (dskB p xs q ys zs us = false) := hide (by simp [dskB, hv1])
    clear hv1
    go_enter Try.func11, Try.ntmps11
    go_wp2_with fail
    refine (l02Are_any _ _ _ _ _ _ h1 hn).mono ?_
    rintro e w1 ⟨rfl, hb1⟩
    rw [H1.out]
    have hB1 := bnext hb0 hb1
    go_wp2
    rw [H.out]
    go_ret
    exact ⟨rfl, hB1⟩
  have H1 := hide hv1
  cases hv2 : jacB q ys zs
  · have H2 := hide hv2
    have H : Hid (dskB p xs q ys zs us = false) := hide (by simp [dskB, hv2])
    clear hv1 hv2
    go_enter Try.func11, Try.ntmps11
    go_wp2_with fail
    refine (l02Are_any _ _ _ _ _ _ h1 hn).mono ?_
    rintro e w1 ⟨rfl, hb1⟩
    rw [H1.out]
    have hB1 := bnext hb0 hb1
    have r0 : w1.cell? ⟨w.heap.size, 0, none⟩ = some (.int .i64 p) := cell_be hb1 (by simp [go_sem])
    have r1 : w1.cell? ⟨w.heap.size, 1, none⟩ = some (.slice a n c) := cell_be hb1 (by simp [go_sem])
    have r2 : w1.cell? ⟨w.heap.size, 2, none⟩ = some (.int .i64 q) := cell_be hb1 (by simp [go_sem])
    have r3 : w1.cell? ⟨w.heap.size, 3, none⟩ = some (.slice b m d) := cell_be hb1 (by simp [go_sem])
    have r4 : w1.cell? ⟨w.heap.size, 4, none⟩ = some (.slice b2 m2 d2) := cell_be hb1 (by simp [go_sem])
    have r5 : w1.cell? ⟨w.heap.size, 5, none⟩ = some (.slice f k g) := cell_be hb1 (by simp [go_sem])
    clear hb1
    go_wp2_with fail
    refine (l03Is_any _ _ _ _ _ _ _ _ _ _ (h2.below hB1) (h3.below hB1) hm hm2).mono ?_
    rintro e w2 ⟨rfl, hb2⟩
    rw [H2.out]
    have hB2 := bnext hB1 hb2
    replace r0 := cell_be hb2 r0
    replace r1 := cell_be hb2 r1
    replace r2 := cell_be hb2 r2
    replace r3 := cell_be hb2 r3
    replace r4 := cell_be hb2 r4
    replace r5 := cell_be hb2 r5
    clear hb2
    go_wp2
    rw [H.out]
    go_ret
    exact ⟨rfl, hB2⟩
  have H2 := hide hv2
  by_cases hq : q = p
  rotate_left
  · have H : Hid (dskB p xs q ys zs us = false) := hide (by simp [dskB, hq])
    clear hv1 hv2
    go_enter Try.func11, Try.ntmps11
    go_wp2_with fail
    refine (l02Are_any _ _ _ _ _ _ h1 hn).mono ?_
    rintro e w1 ⟨rfl, hb1⟩
    rw [H1.out]
    have hB1 := bnext hb0 hb1
    have r0 : w1.cell? ⟨w.heap.size, 0, none⟩ = some (.int .i64 p) := cell_be hb1 (by simp [go_sem])
    have r1 : w1.cell? ⟨w.heap.size, 1, none⟩ = some (.slice a n c) := cell_be hb1 (by simp [go_sem])
    have r2 : w1.cell? ⟨w.heap.size, 2, none⟩ = some (.int .i64 q) := cell_be hb1 (by simp [go_sem])
    have r3 : w1.cell? ⟨w.heap.size, 3, none⟩ = some (.slice b m d) := cell_be hb1 (by simp [go_sem])
    have r4 : w1.cell? ⟨w.heap.size, 4, none⟩ = some (.slice b2 m2 d2) := cell_be hb1 (by simp [go_sem])
    have r5 : w1.cell? ⟨w.heap.size, 5, none⟩ = some (.slice f k g) := cell_be hb1 (by simp [go_sem])
    clear hb1
    go_wp2_with fail
    refine (l03Is_any _ _ _ _ _ _ _ _ _ _ (h2.below hB1) (h3.below hB1) hm hm2).mono ?_
    rintro e w2 ⟨rfl, hb2⟩
    rw [H2.out]
    have hB2 := bnext hB1 hb2
    replace r0 := cell_be hb2 r0
    replace r1 := cell_be hb2 r1
    replace r2 := cell_be hb2 r2
    replace r3 := cell_be hb2 r3
    replace r4 := cell_be hb2 r4
    replace r5 := cell_be hb2 r5
    clear hb2
    go_wp2
    rw [H.out]
    go_ret
    exact ⟨rfl, hB2⟩
  subst hq
  have H : Hid (dskB q xs q ys zs us = polyB q us) := hide (by simp [dskB, hv1, hv2])
  clear hv1 hv2
  go_enter Try.func11, Try.ntmps11
  go_wp2_with fail
  refine (l02Are_any _ _ _ _ _ _ h1 hn).mono ?_
  rintro e w1 ⟨rfl, hb1⟩
  rw [H1.out]
  have hB1 := bnext hb0 hb1
  have r0 : w1.cell? ⟨w.heap.size, 0, none⟩ = some (.int .i64 q) := cell_be hb1 (by simp [go_sem])
  have r1 : w1.cell? ⟨w.heap.size, 1, none⟩ = some (.slice a n c) := cell_be hb1 (by simp [go_sem])
  have r2 : w1.cell? ⟨w.heap.size, 2, none⟩ = some (.int .i64 q) := cell_be hb1 (by simp [go_sem])
  have r3 : w1.cell? ⟨w.heap.size, 3, none⟩ = some (.slice b m d) := cell_be hb1 (by simp [go_sem])
  have r4 : w1.cell? ⟨w.heap.size, 4, none⟩ = some (.slice b2 m2 d2) := cell_be hb1 (by simp [go_sem])
  have r5 : w1.cell? ⟨w.heap.size, 5, none⟩ = some (.slice f k g) := cell_be hb1 (by simp [go_sem])
  clear hb1
  go_wp2_with fail
  refine (l03Is_any _ _ _ _ _ _ _ _ _ _ (h2.below hB1) (h3.below hB1) hm hm2).mono ?_
  rintro e w2 ⟨rfl, hb2⟩
  rw [H2.out]
  have hB2 := bnext hB1 hb2
  replace r0 := cell_be hb2 r0
  replace r1 := cell_be hb2 r1
  replace r2 := cell_be hb2 r2
  replace r3 := cell_be hb2 r3
  replace r4 := cell_be hb2 r4
  replace r5 := cell_be hb2 r5
  clear hb2
  go_wp2_with fail
  refine (l01Poly_any _ _ _ _ _ _ (h4.below hB2) hk).mono ?_
  rintro e w3 ⟨rfl, rfl⟩
  go_wp2
  rw [H.out]
  go_ret
  exact ⟨rfl, hB2⟩
end Go.Proofs.Ytpoabedlcljibaa
