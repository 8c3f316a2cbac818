/- Contracts: ExpandBy (program, model). -/
import Derived.Test.YtgaafhcnfeipbaaBe
import Derived.Test.YtgaafhcnfeipbaaJc
namespace Go.Proofs.Ytgaafhcnfeipbaa
open Go.RowKit
set_option linter.unusedVariables false
set_option linter.unusedSimpArgs false

def xbyC (p : Int) (xs ys f : List Int) : Int := if jacB p xs ys && polyB p f then (if f.length ≤ xs.length + 1 then 0 else 2) else 1
def xbyV (p : Int) (xs ys f : List Int) : List Int := if xbyC p xs ys f = 0 then expL p xs ys f else []
set_option maxRecDepth 100000 in
set_option maxHeartbeats 1600000 in
theorem implExpandBy (p : Int) (a : Option Addr) (n c : Nat) (xs : List Int) (b : Option Addr) (m d : Nat) (ys : List Int) (f1 : Option Addr) (q1 c1 : Nat) (f : List Int) (w : World) (hs : SL w a n c xs) (ht : SL w b m d ys) (hf : SL w f1 q1 c1 f) (hn : n ≤ 4000000) (hm : m ≤ 4000000) (hq : q1 ≤ 4000000) :
    Calls Try.prog 29 #[jac p a n c b m d, .slice f1 q1 c1] w (Res1 w (xbyV p xs ys f) (xbyC p xs ys f)) := by
  have hl := hide hs.len
  have hl2 := hide ht.len
  have hl3 := hide hf.len
  have hb0 := bl1 w (.cells #[.int .i64 p, .slice a n c, .slice b m d] 24)
  have e0 : (w.alloc (.cells #[.int .i64 p, .slice a n c, .slice b m d] 24)).cell? ⟨w.heap.size, 0, none⟩ = some (.int .i64 p) := by simp [go_sem]
  have e1 : (w.alloc (.cells #[.int .i64 p, .slice a n c, .slice b m d] 24)).cell? ⟨w.heap.size, 1, none⟩ = some (.slice a n c) := by simp [go_sem]
  have e2 : (w.alloc (.cells #[.int .i64 p, .slice a n c, .slice b m d] 24)).cell? ⟨w.heap.size, 2, none⟩ = some (.slice b m d) := by simp [go_sem]
  have g1 := hs.below hb0
  have g2 := ht.below hb0
  have g3 := hf.below hb0
  cases hj : jacB p xs ys
  · have HC := hide (show xbyC p xs ys f = 1 by simp [xbyC, hj])
    have HV := hide (show xbyV p xs ys f = [] by simp [xbyV, HC.out])
    have HJ := hide hj
    clear hj
    go_enter Try.func29, Try.ntmps29
    go_wp2_with fail
    refine (implIsJacobi _ _ _ _ _ _ _ _ _ _ g1 g2 hn hm).mono ?_
    rintro e w1 ⟨rfl, t1⟩
    rw [HJ.out]
    have B1 := bnext hb0 t1
    have k0 := cell_be t1 e0
    have k1 := cell_be t1 e1
    have k2 := cell_be t1 e2
    go_wp2
    go_ret2
    exact Res1.nil HV.out HC.out B1
  cases hp : polyB p f
  · have HC := hide (show xbyC p xs ys f = 1 by simp [xbyC, hp])
    have HV := hide (show xbyV p xs ys f = [] by simp [xbyV, HC.out])
    have HJ := hide hj
    have HQ := hide hp
    clear hj hp
    go_enter Try.func29, Try.ntmps29
    go_wp2_with fail
    refine (implIsJacobi _ _ _ _ _ _ _ _ _ _ g1 g2 hn hm).mono ?_
    rintro e w1 ⟨rfl, t1⟩
    rw [HJ.out]
    have B1 := bnext hb0 t1
    have k0 := cell_be t1 e0
    have k1 := cell_be t1 e1
    have k2 := cell_be t1 e2
    go_wp2_with fail
    refine (isPoly_any _ _ _ _ _ _ (g3.below t1) hq).mono ?_
    rintro e w2 ⟨rfl, t2⟩
    rw [HQ.out]
    have B2 := bnext B1 t2
    replace k0 := cell_be t2 k0
    replace k1 := cell_be t2 k1
    replace k2 := cell_be t2 k2
    have s1 := (g1.below t1).below t2
    have s2 := (g2.below t1).below t2
    have s3 := (g3.below t1).below t2
    go_wp2
    go_ret2
    exact Res1.nil HV.out HC.out B2
  have HE := hide (show xbyC p xs ys f = if f.length ≤ xs.length + 1 then 0 else 2 by simp [xbyC, hj, hp])
  have HJ := hide hj
  have HQ := hide hp
  obtain ⟨hpr, n1, n2, n3, hx, hy⟩ := jacB_rng hj
  obtain ⟨hP, hp2⟩ := primeB_lo hpr
  have q25 := (polyB_rng hp).1
  rw [hl.out] at n1 n2 n3
  rw [hl2.out] at n3
  rw [hl3.out] at q25
  have HX := hide hx
  have HY := hide (posB_are hy)
  have HA := hide (polyB_rng hp).2.1
  have v1 : IntKind.i64.wrap ((n : Int) + 1) = (n : Int) + 1 := IntWalk.i64_in _ (by omega)
  have N3 := hide n3
  clear hj hp hpr hx hy n3
  by_cases hle : q1 ≤ n + 1
  · have HC := hide (show xbyC p xs ys f = 0 by rw [HE.out, hl.out, hl3.out, if_pos hle])
    have HV := hide (show xbyV p xs ys f = expL p xs ys f by simp [xbyV, HC.out])
    have hni : ¬ (n : Int) < (q1 : Int) - 1 := by omega
    have hni2 : ¬ (n : Int) + 1 < (q1 : Int) := by omega
    go_enter Try.func29, Try.ntmps29
    go_wp2_with fail
    refine (implIsJacobi _ _ _ _ _ _ _ _ _ _ g1 g2 hn hm).mono ?_
    rintro e w1 ⟨rfl, t1⟩
    rw [HJ.out]
    have B1 := bnext hb0 t1
    have k0 := cell_be t1 e0
    have k1 := cell_be t1 e1
    have k2 := cell_be t1 e2
    go_wp2_with fail
    refine (isPoly_any _ _ _ _ _ _ (g3.below t1) hq).mono ?_
    rintro e w2 ⟨rfl, t2⟩
    rw [HQ.out]
    have B2 := bnext B1 t2
    replace k0 := cell_be t2 k0
    replace k1 := cell_be t2 k1
    replace k2 := cell_be t2 k2
    have s1 := (g1.below t1).below t2
    have s2 := (g2.below t1).below t2
    have s3 := (g3.below t1).below t2
    have hbd := (Below.refl w2.heap.size w2).drew
    have F : ∀ w', Below w2.heap.size w2 w' → w'.cell? ⟨w.heap.size, 0, none⟩ = some (.int .i64 p) ∧ w'.cell? ⟨w.heap.size, 1, none⟩ = some (.slice a n c) ∧ w'.cell? ⟨w.heap.size, 2, none⟩ = some (.slice b m d) := fun w' h => ⟨cell_be h k0, cell_be h k1, cell_be h k2⟩
    go_upto_region 3 with fail
    go_region_held3 (fun w' => w'.cell? ⟨w.heap.size, 0, none⟩ = some (.int .i64 p) ∧ w'.cell? ⟨w.heap.size, 1, none⟩ = some (.slice a n c) ∧ w'.cell? ⟨w.heap.size, 2, none⟩ = some (.slice b m d))
      (exact F _ (by assumption))
      (first
      | (go_at_call 63; refine (degree_any _ _ _ _ hq).mono ?_; rintro e w5 ⟨rfl, rfl⟩)
      | (go_at_call 58; refine (sizeOf_any _ _ _ _ _ _ _ _ hn).mono ?_; rintro e w3 ⟨rfl, t3⟩; have hm3 := bnext hbd t3))
    have B3 := bnext B2 hm3
    replace k0 := cell_be hm3 k0
    replace k1 := cell_be hm3 k1
    replace k2 := cell_be hm3 k2
    go_wp2_with fail
    refine (expandBy_any p a n c xs b m d ys f1 q1 c1 f _ (s1.below hm3) (s2.below hm3) (s3.below hm3) hle (by have := N3.out; omega) (by omega) hP hp2 HX.out HY.out HA.out).mono ?_
    rintro e w4 ⟨a4, c4, rfl, ho, t4⟩
    have B4 := bnext B3 t4
    have hz := B3.size
    go_wp2
    go_ret2
    exact Res1.own HC.out (by rw [HV.out]) (by rw [HV.out]; exact ho.mono hz) (by rw [HV.out, expL_len, hl3.out]; omega) B4
  · have HC := hide (show xbyC p xs ys f = 2 by rw [HE.out, hl.out, hl3.out, if_neg hle])
    have HV := hide (show xbyV p xs ys f = [] by simp [xbyV, HC.out])
    have hni : (n : Int) < (q1 : Int) - 1 := by omega
    have hni2 : (n : Int) + 1 < (q1 : Int) := by omega
    go_enter Try.func29, Try.ntmps29
    go_wp2_with fail
    refine (implIsJacobi _ _ _ _ _ _ _ _ _ _ g1 g2 hn hm).mono ?_
    rintro e w1 ⟨rfl, t1⟩
    rw [HJ.out]
    have B1 := bnext hb0 t1
    have k0 := cell_be t1 e0
    have k1 := cell_be t1 e1
    have k2 := cell_be t1 e2
    go_wp2_with fail
    refine (isPoly_any _ _ _ _ _ _ (g3.below t1) hq).mono ?_
    rintro e w2 ⟨rfl, t2⟩
    rw [HQ.out]
    have B2 := bnext B1 t2
    replace k0 := cell_be t2 k0
    replace k1 := cell_be t2 k1
    replace k2 := cell_be t2 k2
    have s1 := (g1.below t1).below t2
    have s2 := (g2.below t1).below t2
    have s3 := (g3.below t1).below t2
    have hbd := (Below.refl w2.heap.size w2).drew
    have F : ∀ w', Below w2.heap.size w2 w' → w'.cell? ⟨w.heap.size, 0, none⟩ = some (.int .i64 p) ∧ w'.cell? ⟨w.heap.size, 1, none⟩ = some (.slice a n c) ∧ w'.cell? ⟨w.heap.size, 2, none⟩ = some (.slice b m d) := fun w' h => ⟨cell_be h k0, cell_be h k1, cell_be h k2⟩
    go_upto_region 3 with fail
    go_region_held3 (fun w' => w'.cell? ⟨w.heap.size, 0, none⟩ = some (.int .i64 p) ∧ w'.cell? ⟨w.heap.size, 1, none⟩ = some (.slice a n c) ∧ w'.cell? ⟨w.heap.size, 2, none⟩ = some (.slice b m d))
      (exact F _ (by assumption))
      (first
      | (go_at_call 63; refine (degree_any _ _ _ _ hq).mono ?_; rintro e w5 ⟨rfl, rfl⟩)
      | (go_at_call 58; refine (sizeOf_any _ _ _ _ _ _ _ _ hn).mono ?_; rintro e w3 ⟨rfl, t3⟩; have hm3 := bnext hbd t3))
    have B3 := bnext B2 hm3
    replace k0 := cell_be hm3 k0
    replace k1 := cell_be hm3 k1
    replace k2 := cell_be hm3 k2
    go_wp2
    go_ret2
    exact Res1.nil HV.out HC.out B3
set_option maxRecDepth 100000 in
set_option maxHeartbeats 1600000 in
theorem specExpandBy (p : Int) (a : Option Addr) (n c : Nat) (xs : List Int) (b : Option Addr) (m d : Nat) (ys : List Int) (f1 : Option Addr) (q1 c1 : Nat) (f : List Int) (w : World) (hs : SL w a n c xs) (ht : SL w b m d ys) (hf : SL w f1 q1 c1 f) (hn : n ≤ 4000000) (hm : m ≤ 4000000) (hq : q1 ≤ 4000000) :
    Calls Try.prog 28 #[jac p a n c b m d, .slice f1 q1 c1] w (Res1 w (xbyV p xs ys f) (xbyC p xs ys f)) := by
  have hl := hide hs.len
  have hl2 := hide ht.len
  have hl3 := hide hf.len
  have hb0 := bl1 w (.cells #[.int .i64 p, .slice a n c, .slice b m d] 24)
  have e0 : (w.alloc (.cells #[.int .i64 p, .slice a n c, .slice b m d] 24)).cell? ⟨w.heap.size, 0, none⟩ = some (.int .i64 p) := by simp [go_sem]
  have e1 : (w.alloc (.cells #[.int .i64 p, .slice a n c, .slice b m d] 24)).cell? ⟨w.heap.size, 1, none⟩ = some (.slice a n c) := by simp [go_sem]
  have e2 : (w.alloc (.cells #[.int .i64 p, .slice a n c, .slice b m d] 24)).cell? ⟨w.heap.size, 2, none⟩ = some (.slice b m d) := by simp [go_sem]
  have g1 := hs.below hb0
  have g2 := ht.below hb0
  have g3 := hf.below hb0
  cases hj : jacB p xs ys
  · have HC := hide (show xbyC p xs ys f = 1 by simp [xbyC, hj])
    have HV := hide (show xbyV p xs ys f = [] by simp [xbyV, HC.out])
    have HJ := hide hj
    clear hj
    go_enter Try.func28, Try.ntmps28
    go_wp2_with fail
    refine (l03Is_any _ _ _ _ _ _ _ _ _ _ g1 g2 hn hm).mono ?_
    rintro e w1 ⟨rfl, t1⟩
    rw [HJ.out]
    have B1 := bnext hb0 t1
    have k0 := cell_be t1 e0
    have k1 := cell_be t1 e1
    have k2 := cell_be t1 e2
    go_wp2
    go_ret2
    exact Res1.nil HV.out HC.out B1
  cases hp : polyB p f
  · have HC := hide (show xbyC p xs ys f = 1 by simp [xbyC, hp])
    have HV := hide (show xbyV p xs ys f = [] by simp [xbyV, HC.out])
    have HJ := hide hj
    have HQ := hide hp
    clear hj hp
    go_enter Try.func28, Try.ntmps28
    go_wp2_with fail
    refine (l03Is_any _ _ _ _ _ _ _ _ _ _ g1 g2 hn hm).mono ?_
    rintro e w1 ⟨rfl, t1⟩
    rw [HJ.out]
    have B1 := bnext hb0 t1
    have k0 := cell_be t1 e0
    have k1 := cell_be t1 e1
    have k2 := cell_be t1 e2
    go_wp2_with fail
    refine (l01Poly_any _ _ _ _ _ _ (g3.below t1) hq).mono ?_
    rintro e w2 ⟨rfl, rfl⟩
    rw [HQ.out]
    have B2 := B1
    have s1 := g1.below t1
    have s2 := g2.below t1
    have s3 := g3.below t1
    go_wp2
    go_ret2
    exact Res1.nil HV.out HC.out B2
  have HE := hide (show xbyC p xs ys f = if f.length ≤ xs.length + 1 then 0 else 2 by simp [xbyC, hj, hp])
  have HJ := hide hj
  have HQ := hide hp
  obtain ⟨hpr, n1, n2, n3, hx, hy⟩ := jacB_rng hj
  obtain ⟨hP, hp2⟩ := primeB_lo hpr
  have q25 := (polyB_rng hp).1
  rw [hl.out] at n1 n2 n3
  rw [hl2.out] at n3
  rw [hl3.out] at q25
  have HX := hide hx
  have HY := hide (posB_are hy)
  have HA := hide (polyB_rng hp).2.1
  have v1 : IntKind.i64.wrap ((n : Int) + 1) = (n : Int) + 1 := IntWalk.i64_in _ (by omega)
  have N3 := hide n3
  clear hj hp hpr hx hy n3
  by_cases hle : q1 ≤ n + 1
  · have HC := hide (show xbyC p xs ys f = 0 by rw [HE.out, hl.out, hl3.out, if_pos hle])
    have HV := hide (show xbyV p xs ys f = expL p xs ys f by simp [xbyV, HC.out])
    have hni : ¬ (n : Int) < (q1 : Int) - 1 := by omega
    have hni2 : ¬ (n : Int) + 1 < (q1 : Int) := by omega
    go_enter Try.func28, Try.ntmps28
    go_wp2_with fail
    refine (l03Is_any _ _ _ _ _ _ _ _ _ _ g1 g2 hn hm).mono ?_
    rintro e w1 ⟨rfl, t1⟩
    rw [HJ.out]
    have B1 := bnext hb0 t1
    have k0 := cell_be t1 e0
    have k1 := cell_be t1 e1
    have k2 := cell_be t1 e2
    go_wp2_with fail
    refine (l01Poly_any _ _ _ _ _ _ (g3.below t1) hq).mono ?_
    rintro e w2 ⟨rfl, rfl⟩
    rw [HQ.out]
    have B2 := B1
    have s1 := g1.below t1
    have s2 := g2.below t1
    have s3 := g3.below t1
    go_wp2_with fail
    refine (l10Expand_any p a n c xs b m d ys f1 q1 c1 f _ (s1) (s2) (s3) hle HJ.out HQ.out).mono ?_
    rintro e w4 ⟨a4, c4, rfl, ho, t4⟩
    have B4 := bnext B2 t4
    have hz := B2.size
    go_wp2
    go_ret2
    exact Res1.own HC.out (by rw [HV.out]) (by rw [HV.out]; exact ho.mono hz) (by rw [HV.out, expL_len, hl3.out]; omega) B4
  · have HC := hide (show xbyC p xs ys f = 2 by rw [HE.out, hl.out, hl3.out, if_neg hle])
    have HV := hide (show xbyV p xs ys f = [] by simp [xbyV, HC.out])
    have hni : (n : Int) < (q1 : Int) - 1 := by omega
    have hni2 : (n : Int) + 1 < (q1 : Int) := by omega
    go_enter Try.func28, Try.ntmps28
    go_wp2_with fail
    refine (l03Is_any _ _ _ _ _ _ _ _ _ _ g1 g2 hn hm).mono ?_
    rintro e w1 ⟨rfl, t1⟩
    rw [HJ.out]
    have B1 := bnext hb0 t1
    have k0 := cell_be t1 e0
    have k1 := cell_be t1 e1
    have k2 := cell_be t1 e2
    go_wp2_with fail
    refine (l01Poly_any _ _ _ _ _ _ (g3.below t1) hq).mono ?_
    rintro e w2 ⟨rfl, rfl⟩
    rw [HQ.out]
    have B2 := B1
    have s1 := g1.below t1
    have s2 := g2.below t1
    have s3 := g3.below t1
    go_wp2
    go_ret2
    exact Res1.nil HV.out HC.out B2
end Go.Proofs.Ytgaafhcnfeipbaa
