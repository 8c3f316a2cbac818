/- Merged texts. -/
import Derived.Test.YtdjifjlgllohmaaDoorYDS25
import Derived.Test.YtdjifjlgllohmaaDoorYDS29
import Derived.Test.YtdjifjlgllohmaaDoorYDS18
import Derived.Test.YtdjifjlgllohmaaDoorYDS14
import Derived.Test.YtdjifjlgllohmaaDoorYDS17
import Derived.Test.YtdjifjlgllohmaaDoorYDS32
import Derived.Test.YtdjifjlgllohmaaDoorYDS30
/- Contracts: l04Norm, l04Regular, l04Code of the model. -/
namespace Go.Proofs.YtdjifjlgllohmaaDoor
open Go.RowKit
set_option linter.unusedVariables false
set_option linter.unusedSimpArgs false

/-- Whether P(k) is told. -/
def regB (p : Int) (xs : List Int) (k : Nat) : Bool := decide (2 * k ≤ xs.length) && decide (k ≤ ordM p xs)
/-- The error of moments and a number of a polynomial. -/
def l4C (p : Int) (xs : List Int) (k lo : Int) : Int := if mcd p xs k lo 12 = 0 then (if regB p xs k.toNat then 0 else 5) else mcd p xs k lo 12

set_option maxRecDepth 100000 in
set_option maxHeartbeats 1600000 in
theorem l04Norm_any (p : Int) (a2 : Option Addr) (n2 c2 : Nat) (xs : List Int) (a1 : Option Addr) (n1 c1 : Nat) (f : List Int) (i : Nat) (ii : Int) (w : World) (h2 : SL w a2 n2 c2 xs) (h1 : SL w a1 n1 c1 f)
    (b1 : n1 ≤ 400) (b2 : n2 ≤ 1000) (h0 : 1 ≤ n1) (hii : ii = i) (hn : 2 * n1 + i ≤ n2 + 1) (hp : 2 ≤ p) (hp2 : p ≤ 10007) (hf : areB p f = true) (hx : areB p xs = true) (ht : trimL (mulM p f f) = mulM p f f) :
    Calls Tryd.prog 44 #[mom p a2 n2 c2, .slice a1 n1 c1, .int .i64 ii] w fun e w' => e = .returned (.int .i64 (nrI p f xs i)) ∧ Below w.heap.size w w' := by
  subst hii
  have Ht := hide ht
  clear ht
  have hb0 := bl1 w (.cells #[.int .i64 p, .slice a2 n2 c2] 30)
  have hlen := h1.len
  have hsq : (mulM p f f).length = 2 * n1 - 1 := by rw [mulM_mlen, hlen]; unfold mlen; rw [if_neg (by omega)]; omega
  replace hlen := hide hlen
  replace hsq := hide hsq
  have Hq := hide (show nrI p f xs i = dotK p (mulM p f f) xs i (mulM p f f).length from rfl)
  replace h1 := h1.below hb0
  replace h2 := h2.below hb0
  go_enter Tryd.func44, Tryd.ntmps44
  go_upto_region 1 with fail
  generalize hwx : w.alloc (.cells #[.int .i64 p, .slice a2 n2 c2] 30) = wx at *
  have m0 : wx.cell? ⟨w.heap.size, 0, none⟩ = some (.int .i64 p) := by rw [← hwx]; simp [go_sem]
  have m1 : wx.cell? ⟨w.heap.size, 1, none⟩ = some (.slice a2 n2 c2) := by rw [← hwx]; simp [go_sem]
  clear hwx
  have hm := (Below.refl wx.heap.size wx).drew
  have F : ∀ w', Below wx.heap.size wx w' → w'.cell? ⟨w.heap.size, 0, none⟩ = some (.int .i64 p) ∧ w'.cell? ⟨w.heap.size, 1, none⟩ = some (.slice a2 n2 c2) := fun w' hb => ⟨cell_be hb m0, cell_be hb m1⟩
  refine region_E (fun w' => w'.cell? ⟨w.heap.size, 0, none⟩ = some (.int .i64 p) ∧ w'.cell? ⟨w.heap.size, 1, none⟩ = some (.slice a2 n2 c2)) 99 (by kernel_rfl) (F _ hm) ?_
  intro hS
  refine anyE_takeH 0 rfl (by kernel_rfl) (fun _ _ _ h => h) hS (by rfl) (v := ?_) ?_ ?_
  rotate_left
  · intro w' hSw; (try dsimp only at hSw); go_simp; (try with_reducible rfl)
  try simp only [Act.put, List.setIfInBounds_toArray, List.set_cons_zero, List.set_cons_succ]
  refine anyE_takeH 1 rfl (by kernel_rfl) (fun _ _ _ h => h) hS (by rfl) (v := ?_) ?_ ?_
  rotate_left
  · intro w' hSw; (try dsimp only at hSw); go_simp; (try with_reducible rfl)
  try simp only [Act.put, List.setIfInBounds_toArray, List.set_cons_zero, List.set_cons_succ]
  refine anyE_takeH 2 rfl (by kernel_rfl) (fun _ _ _ h => h) hS (by rfl) (v := ?_) ?_ ?_
  rotate_left
  · intro w' hSw; (try dsimp only at hSw); go_simp; (try with_reducible rfl)
  try simp only [Act.put, List.setIfInBounds_toArray, List.set_cons_zero, List.set_cons_succ]
  refine anyE_takeH 3 rfl (by kernel_rfl) (fun _ _ _ h => h) hS (by rfl) (v := ?_) ?_ ?_
  rotate_left
  · intro w' hSw; (try dsimp only at hSw); go_simp; (try with_reducible rfl)
  try simp only [Act.put, List.setIfInBounds_toArray, List.set_cons_zero, List.set_cons_succ]
  refine anyE_takeH 4 rfl (by kernel_rfl) (fun _ _ _ h => h) hS (by rfl) (v := ?_) ?_ ?_
  rotate_left
  · intro w' hSw; (try dsimp only at hSw); go_simp; (try with_reducible rfl)
  try simp only [Act.put, List.setIfInBounds_toArray, List.set_cons_zero, List.set_cons_succ]
  refine anyE_takeH 6 rfl (by kernel_rfl) (fun _ _ _ h => h) hS (by rfl) (v := ?_) ?_ ?_
  rotate_left
  · intro w' hSw; (try dsimp only at hSw); go_simp; (try with_reducible rfl)
  try simp only [Act.put, List.setIfInBounds_toArray, List.set_cons_zero, List.set_cons_succ]
  clear hS
  obtain ⟨u0, hu0⟩ : ∃ u, u = wx.drew := ⟨_, rfl⟩
  rw [← hu0] at hm ⊢
  clear hu0
  refine anyE_oneL 5 (by kernel_rfl) rfl (fun K' hK' => ?_)
  go_simp
  refine (l01TimesP _ _ _ _ _ _ _ _ _ _ (h1.below hm) (h1.below hm) (by omega) (by omega) hp hp2 hf hf Ht.out).mono ?_
  rintro e u1 ⟨a', c', rfl, ho, lx⟩
  dsimp only
  replace hm := bnext hm lx
  refine hK'.out _ _ (F _ hm) ?_
  clear hK' K'
  try simp only [Act.put, List.setIfInBounds_toArray, List.set_cons_zero, List.set_cons_succ]
  refine anyE_oneL 7 (by kernel_rfl) rfl (fun K' hK' => ?_)
  go_simp
  refine (l02Apply_any _ _ _ _ _ _ _ _ _ i _ _ (h2.below hm) ho.sl (by have := hsq.out; omega) b2 rfl (by have := hsq.out; omega) hp hp2 (mulM_areB hp _ _) hx).mono ?_
  rintro e u2 ⟨rfl, lx2⟩
  dsimp only
  rw [← Hq.out]
  replace hm := bnext hm lx2
  refine hK'.out _ _ (F _ hm) ?_
  clear hK' K'
  try simp only [Act.put, List.setIfInBounds_toArray, List.set_cons_zero, List.set_cons_succ]
  refine anyE_oneL 8 (by kernel_rfl) rfl (fun K' hK' => ?_)
  go_simp
  refine hK'.out _ _ (F _ hm) ?_
  clear hK' K'
  refine anyE_doneL (by kernel_rfl) ?_
  go_wp2
  go_ret
  exact ⟨rfl, hb0.trans (hm.mono hb0.size)⟩
set_option maxRecDepth 100000 in
set_option maxHeartbeats 1600000 in
theorem l04Regular_any (p : Int) (a2 : Option Addr) (n2 c2 : Nat) (xs : List Int) (k : Nat) (w : World) (h2 : SL w a2 n2 c2 xs) (hm : momB p xs = true) (hk : k ≤ 1000) :
    Calls Tryd.prog 61 #[mom p a2 n2 c2, .int .i64 k] w fun e w' => e = .returned (.bool (regB p xs k)) ∧ Below w.heap.size w w' := by
  have hb0 := bl1 w (.cells #[.int .i64 p, .slice a2 n2 c2] 30)
  have hl := h2.len
  have vk : IntKind.i64.wrap (2 * (k : Int)) = 2 * (k : Int) := IntWalk.i64_in _ (by omega)
  replace h2 := h2.below hb0
  by_cases hg : 2 * k ≤ n2
  · have hr : regB p xs k = decide (k ≤ ordM p xs) := by unfold regB; rw [hl]; simp [hg]
    have hg' : 2 * (k : Int) ≤ (n2 : Int) := by omega
    replace hr := hide hr
    replace hl := hide hl
    clear hg
    go_enter Tryd.func61, Tryd.ntmps61
    go_upto_region 1 with fail
    generalize hwx : w.alloc (.cells #[.int .i64 p, .slice a2 n2 c2] 30) = wx at *
    have m0 : wx.cell? ⟨w.heap.size, 0, none⟩ = some (.int .i64 p) := by rw [← hwx]; simp [go_sem]
    have m1 : wx.cell? ⟨w.heap.size, 1, none⟩ = some (.slice a2 n2 c2) := by rw [← hwx]; simp [go_sem]
    clear hwx
    go_wp2_with fail
    refine (l02Order_any p _ _ _ xs _ h2 hm).mono ?_
    rintro e w1 ⟨rfl, t1⟩
    go_wp2
    go_ret
    refine ⟨?_, hb0.trans (t1.mono hb0.size)⟩
    rw [hr.out]
    simp [go_sem]
  · have hr : regB p xs k = false := by unfold regB; rw [hl]; simp [hg]
    have hg' : ¬ 2 * (k : Int) ≤ (n2 : Int) := by omega
    replace hr := hide hr
    replace hl := hide hl
    clear hg
    go_enter Tryd.func61, Tryd.ntmps61
    go_upto_region 1 with fail
    generalize hwx : w.alloc (.cells #[.int .i64 p, .slice a2 n2 c2] 30) = wx at *
    have m0 : wx.cell? ⟨w.heap.size, 0, none⟩ = some (.int .i64 p) := by rw [← hwx]; simp [go_sem]
    have m1 : wx.cell? ⟨w.heap.size, 1, none⟩ = some (.slice a2 n2 c2) := by rw [← hwx]; simp [go_sem]
    clear hwx
    go_wp2
    go_ret
    exact ⟨by rw [hr.out]; rfl, hb0⟩
set_option maxRecDepth 100000 in
set_option maxHeartbeats 1600000 in
theorem l04Code_any (p : Int) (a2 : Option Addr) (n2 c2 : Nat) (xs : List Int) (k lo : Int) (w : World) (h2 : SL w a2 n2 c2 xs) (hn : n2 ≤ 4000000) (hlo : 0 ≤ lo) :
    Calls Tryd.prog 42 #[mom p a2 n2 c2, .int .i64 k, .int .i64 lo] w fun e w' => e = .returned (.int .i64 (l4C p xs k lo)) ∧ Below w.heap.size w w' := by
  have hb0 := bl1 w (.cells #[.int .i64 p, .slice a2 n2 c2] 30)
  replace h2 := h2.below hb0
  cases hM : momB p xs
  · have hC : l4C p xs k lo = 1 := by unfold l4C mcd; rw [hM]; rfl
    replace hC := hide hC
    replace hM := hide hM
    go_enter Tryd.func42, Tryd.ntmps42
    go_upto_region 1 with fail
    generalize hwx : w.alloc (.cells #[.int .i64 p, .slice a2 n2 c2] 30) = wx at *
    have m0 : wx.cell? ⟨w.heap.size, 0, none⟩ = some (.int .i64 p) := by rw [← hwx]; simp [go_sem]
    have m1 : wx.cell? ⟨w.heap.size, 1, none⟩ = some (.slice a2 n2 c2) := by rw [← hwx]; simp [go_sem]
    clear hwx
    go_wp2_with fail
    refine (l02Are_any p _ _ _ xs _ h2 hn).mono ?_
    rintro e w1 ⟨rfl, t1⟩
    rw [hM.out]
    go_wp2
    go_ret
    exact ⟨by rw [hC.out]; rfl, hb0.trans (t1.mono hb0.size)⟩
  by_cases hk : lo ≤ k ∧ k ≤ 12
  rotate_left
  · have hC : l4C p xs k lo = 2 := by unfold l4C mcd; rw [hM, if_neg hk]; rfl
    replace hC := hide hC
    replace hM := hide hM
    go_enter Tryd.func42, Tryd.ntmps42
    go_upto_region 1 with fail
    generalize hwx : w.alloc (.cells #[.int .i64 p, .slice a2 n2 c2] 30) = wx at *
    have m0 : wx.cell? ⟨w.heap.size, 0, none⟩ = some (.int .i64 p) := by rw [← hwx]; simp [go_sem]
    have m1 : wx.cell? ⟨w.heap.size, 1, none⟩ = some (.slice a2 n2 c2) := by rw [← hwx]; simp [go_sem]
    clear hwx
    go_wp2_with fail
    refine (l02Are_any p _ _ _ xs _ h2 hn).mono ?_
    rintro e w1 ⟨rfl, t1⟩
    rw [hM.out]
    go_wp2_with fail
    refine (l01In_no _ _ _ _ hk).mono ?_
    rintro e v2 ⟨rfl, rfl⟩
    go_wp2
    go_ret
    exact ⟨by rw [hC.out]; rfl, hb0.trans (t1.mono hb0.size)⟩
  obtain ⟨K, rfl⟩ : ∃ K : Nat, k = K := ⟨k.toNat, by omega⟩
  have hC : l4C p xs K lo = if regB p xs K then 0 else 5 := by unfold l4C mcd; rw [hM, if_pos hk]; rfl
  obtain ⟨k1, k2⟩ := hk
  replace hC := hide hC
  have HM := hide hM
  clear hM
  go_enter Tryd.func42, Tryd.ntmps42
  go_upto_region 1 with fail
  generalize hwx : w.alloc (.cells #[.int .i64 p, .slice a2 n2 c2] 30) = wx at *
  have m0 : wx.cell? ⟨w.heap.size, 0, none⟩ = some (.int .i64 p) := by rw [← hwx]; simp [go_sem]
  have m1 : wx.cell? ⟨w.heap.size, 1, none⟩ = some (.slice a2 n2 c2) := by rw [← hwx]; simp [go_sem]
  clear hwx
  go_wp2_with fail
  refine (l02Are_any p _ _ _ xs _ h2 hn).mono ?_
  rintro e w1 ⟨rfl, t1⟩
  rw [HM.out]
  have hB := hb0.trans (t1.mono hb0.size)
  replace m0 := cell_be t1 m0
  replace m1 := cell_be t1 m1
  replace h2 := h2.below t1
  go_wp2_with fail
  refine (l01In_yes _ _ _ _ k1 k2).mono ?_
  rintro e v2 ⟨rfl, rfl⟩
  go_wp2_with fail
  refine (l04Regular_any p _ _ _ xs K _ h2 HM.out (by omega)).mono ?_
  rintro e w2 ⟨rfl, t2⟩
  replace hB := hB.trans (t2.mono hB.size)
  cases hr : regB p xs K
  · replace hr := hide hr
    go_wp2
    go_ret
    exact ⟨by rw [hC.out, hr.out]; rfl, hB⟩
  · replace hr := hide hr
    go_wp2
    go_ret
    exact ⟨by rw [hC.out, hr.out]; rfl, hB⟩
end Go.Proofs.YtdjifjlgllohmaaDoor
/- Contracts: JacobiOfMoments, OrthogonalPolynomial, NormOf of the program. -/
namespace Go.Proofs.YtdjifjlgllohmaaDoor
open Go.RowKit
set_option linter.unusedVariables false
set_option linter.unusedSimpArgs false

theorem reg_TL {p : Int} (hP : primeB p = true) {xs : List Int} (hx : areB p xs = true) (hl : xs.length ≤ 24) (k : Nat) : regB p xs k = true ↔ TL p xs k := by
  unfold regB
  simp only [Bool.and_eq_true, decide_eq_true_eq]
  constructor
  · rintro ⟨h1, h2⟩ j hj
    exact ⟨by omega, (ord_told hP hx hl (by omega)).1 h2 j hj⟩
  · intro h
    by_cases h0 : k = 0
    · subst h0; exact ⟨by omega, by omega⟩
    · have h1 := (h (k - 1) (by omega)).1
      exact ⟨by omega, (ord_told hP hx hl (by omega)).2 h.told⟩
def jomC (p : Int) (xs : List Int) (n : Int) : Int := if mcd p xs n 1 12 = 0 then (if regB p xs n.toNat then 0 else 5) else mcd p xs n 1 12
def jomP (p : Int) (xs : List Int) (n : Int) : Int := if jomC p xs n = 0 then p else 0
def jomV (p : Int) (xs : List Int) (n : Int) : List Int := if jomC p xs n = 0 then (jdL p xs n.toNat).1 else []
def jomU (p : Int) (xs : List Int) (n : Int) : List Int := if jomC p xs n = 0 then (jdL p xs n.toNat).2 else []
theorem jom_err {p : Int} {xs : List Int} {n C : Int} (h : jomC p xs n = C) (hC : C ≠ 0) : jomP p xs n = 0 ∧ jomV p xs n = [] ∧ jomU p xs n = [] := by simp [jomP, jomV, jomU, h, hC]
theorem jom_ok {p : Int} {xs : List Int} {n : Int} (h : jomC p xs n = 0) : jomP p xs n = p ∧ jomV p xs n = (jdL p xs n.toNat).1 ∧ jomU p xs n = (jdL p xs n.toNat).2 := by simp [jomP, jomV, jomU, h]
def opoC (p : Int) (xs : List Int) (n : Int) : Int := if mcd p xs n 0 12 = 0 then (if regB p xs n.toNat then 0 else 5) else mcd p xs n 0 12
def opoV (p : Int) (xs : List Int) (n : Int) : List Int := if opoC p xs n = 0 then opL p xs n.toNat else []
def nofC (p : Int) (xs : List Int) (n : Int) : Int := if mcd p xs n 0 12 = 0 then (if regB p xs n.toNat && decide (2 * n.toNat + 1 ≤ xs.length) then 0 else 5) else mcd p xs n 0 12
def nofV (p : Int) (xs : List Int) (n : Int) : Int := if nofC p xs n = 0 then opH p xs n.toNat else 0
theorem mcd_ok {p : Int} {xs : List Int} {k lo hi : Int} (h : mcd p xs k lo hi = 0) : momB p xs = true ∧ lo ≤ k ∧ k ≤ hi := by
  unfold mcd at h
  by_cases hm : momB p xs = true
  · rw [if_pos hm] at h
    by_cases hr : lo ≤ k ∧ k ≤ hi
    · exact ⟨hm, hr⟩
    · rw [if_neg hr] at h; cases h
  · rw [if_neg hm] at h; cases h
theorem mcd_cases (p : Int) (xs : List Int) (k lo hi : Int) : mcd p xs k lo hi = 0 ∨ mcd p xs k lo hi = 1 ∨ mcd p xs k lo hi = 2 := by
  unfold mcd
  split
  · split
    · exact .inl rfl
    · exact .inr (.inr rfl)
  · exact .inr (.inl rfl)

set_option maxRecDepth 100000 in
set_option maxHeartbeats 3200000 in
theorem jomWork (p : Int) (a2 : Option Addr) (n2 c2 : Nat) (xs : List Int) (k bm bn : Nat) (ae : Addr) (W : World) (hb : (W.cell? ⟨bm, 0, none⟩ = some (.int .i64 p) ∧ W.cell? ⟨bm, 1, none⟩ = some (.slice a2 n2 c2) ∧ W.cell? ⟨bn, 0, none⟩ = some (.int .i64 k) ∧ ErrV W ae ∧ SL W a2 n2 c2 xs)) (hP : primeB p = true) (hx : areB p xs = true) (b2 : n2 ≤ 24) (hk : k ≤ 12) :
    Calls Tryd.prog 48 #[.pointer (some ⟨bm, 0, none⟩), .pointer (some ⟨bn, 0, none⟩)] W fun e w' => Below W.heap.size W w' ∧ ((∃ a c b d, e = .returned (jac p a k c b k d) ∧ TL p xs k ∧ Own W.heap.size w' a c (jdL p xs k).1 ∧ Own W.heap.size w' b d (jdL p xs k).2 ∧ ∀ y, blk a = some y → blk b ≠ some y) ∨ (e = .panicked (chE ae) ∧ ¬ TL p xs k)) := by
  obtain ⟨m0, m1, m2, he, h2⟩ := hb
  have hl2 := hide h2.len
  have hb0 := bl1 W (.cells #[.int .i64 0, .slice none 0 0, .slice none 0 0] 27)
  replace m0 := cell_al m0 (.cells #[.int .i64 0, .slice none 0 0, .slice none 0 0] 27)
  replace m1 := cell_al m1 (.cells #[.int .i64 0, .slice none 0 0, .slice none 0 0] 27)
  replace m2 := cell_al m2 (.cells #[.int .i64 0, .slice none 0 0, .slice none 0 0] 27)
  go_enter Tryd.func48, Tryd.ntmps48
  go_wp2_with fail
  refine (orthoAt_any p a2 n2 c2 xs k ae (W.alloc (.cells #[.int .i64 0, .slice none 0 0, .slice none 0 0] 27)) (he.below hb0) (h2.below hb0) hP hx b2 hk).mono ?_
  rintro e w1 ⟨hb1, (⟨a, c, b, d, f, g, rfl, hT, oa, ob, of, ne⟩ | ⟨rfl, hno⟩)⟩
  · have zz := hb1.size
    simp at zz
    have r0 : w1.cell? ⟨W.heap.size, 0, none⟩ = some (.int .i64 0) := cell_be hb1 (by simp [go_sem])
    have y0 : w1.frozen? ⟨W.heap.size, 0, none⟩ = false := (hb1.frozen (by simp)).trans (by simp [go_sem])
    have r1 : w1.cell? ⟨W.heap.size, 1, none⟩ = some (.slice none 0 0) := cell_be hb1 (by simp [go_sem])
    have y1 : w1.frozen? ⟨W.heap.size, 1, none⟩ = false := (hb1.frozen (by simp)).trans (by simp [go_sem])
    have r2 : w1.cell? ⟨W.heap.size, 2, none⟩ = some (.slice none 0 0) := cell_be hb1 (by simp [go_sem])
    have y2 : w1.frozen? ⟨W.heap.size, 2, none⟩ = false := (hb1.frozen (by simp)).trans (by simp [go_sem])
    have hB1 := bnext hb0 hb1
    clear hb1 of
    replace y0 := frz_al r0 y0 (.cells #[.int .i64 p, .slice a k c, .slice b k d] 27)
    replace r0 := cell_al r0 (.cells #[.int .i64 p, .slice a k c, .slice b k d] 27)
    replace y1 := frz_al r1 y1 (.cells #[.int .i64 p, .slice a k c, .slice b k d] 27)
    replace r1 := cell_al r1 (.cells #[.int .i64 p, .slice a k c, .slice b k d] 27)
    replace y2 := frz_al r2 y2 (.cells #[.int .i64 p, .slice a k c, .slice b k d] 27)
    replace r2 := cell_al r2 (.cells #[.int .i64 p, .slice a k c, .slice b k d] 27)
    have pa := bl1 w1 (.cells #[.int .i64 p, .slice a k c, .slice b k d] 27)
    replace oa := oa.below pa
    replace ob := ob.below pa
    replace hB1 := hB1.trans (pa.mono hB1.size)
    go_wp2
    refine bodyPost_ret (v := jac p a k c b k d) (by simp [results, Tryd.results48, go_sem, r0, r1, r2]) rfl ⟨((hB1.setCell (by simp) _).setCell (by simp) _).setCell (by simp) _, .inl ⟨a, c, b, d, rfl, hT, ?_, ?_, fun y hy => (ne y hy).1⟩⟩
    · exact (((oa.setLow (x := ⟨W.heap.size, 0, none⟩) (by simp) _).setLow (x := ⟨W.heap.size, 1, none⟩) (by simp) _).setLow (x := ⟨W.heap.size, 2, none⟩) (by simp) _).mono (by simp)
    · exact (((ob.setLow (x := ⟨W.heap.size, 0, none⟩) (by simp) _).setLow (x := ⟨W.heap.size, 1, none⟩) (by simp) _).setLow (x := ⟨W.heap.size, 2, none⟩) (by simp) _).mono (by simp)
  · go_wp2
    exact ⟨rfl, bnext hb0 hb1, .inr ⟨rfl, hno⟩⟩
set_option maxRecDepth 100000 in
set_option maxHeartbeats 3200000 in
theorem opoWork (p : Int) (a2 : Option Addr) (n2 c2 : Nat) (xs : List Int) (k bm bn : Nat) (ae : Addr) (W : World) (hb : (W.cell? ⟨bm, 0, none⟩ = some (.int .i64 p) ∧ W.cell? ⟨bm, 1, none⟩ = some (.slice a2 n2 c2) ∧ W.cell? ⟨bn, 0, none⟩ = some (.int .i64 k) ∧ ErrV W ae ∧ SL W a2 n2 c2 xs)) (hP : primeB p = true) (hx : areB p xs = true) (b2 : n2 ≤ 24) (hk : k ≤ 12) :
    Calls Tryd.prog 51 #[.pointer (some ⟨bm, 0, none⟩), .pointer (some ⟨bn, 0, none⟩)] W fun e w' => Below W.heap.size W w' ∧ ((∃ f g, e = .returned (.slice f (k + 1) g) ∧ TL p xs k ∧ Own W.heap.size w' f g (opL p xs k)) ∨ (e = .panicked (chE ae) ∧ ¬ TL p xs k)) := by
  obtain ⟨m0, m1, m2, he, h2⟩ := hb
  have hl2 := hide h2.len
  go_enter Tryd.func51, Tryd.ntmps51
  go_wp2_with fail
  refine (orthoAt_any p a2 n2 c2 xs k ae W (he.below (Below.refl W.heap.size W)) (h2.below (Below.refl W.heap.size W)) hP hx b2 hk).mono ?_
  rintro e w1 ⟨hb1, (⟨a, c, b, d, f, g, rfl, hT, oa, ob, of, ne⟩ | ⟨rfl, hno⟩)⟩
  · have pa := bl1 w1 (.cells #[.int .i64 p, .slice a k c, .slice b k d] 27)
    have hB1 := hb1.trans (pa.mono hb1.size)
    replace of := of.below pa
    clear hb1 oa ob pa
    go_wp2
    go_ret
    exact ⟨hB1, .inl ⟨f, g, rfl, hT, of⟩⟩
  · go_wp2
    exact ⟨rfl, hb1, .inr ⟨rfl, hno⟩⟩
set_option maxRecDepth 100000 in
set_option maxHeartbeats 3200000 in
theorem nofWork (p : Int) (a2 : Option Addr) (n2 c2 : Nat) (xs : List Int) (k bm bn : Nat) (ae : Addr) (W : World) (hb : (W.cell? ⟨bm, 0, none⟩ = some (.int .i64 p) ∧ W.cell? ⟨bm, 1, none⟩ = some (.slice a2 n2 c2) ∧ W.cell? ⟨bn, 0, none⟩ = some (.int .i64 k) ∧ ErrV W ae ∧ SL W a2 n2 c2 xs)) (hP : primeB p = true) (hx : areB p xs = true) (b2 : n2 ≤ 24) (hk : k ≤ 12) :
    Calls Tryd.prog 53 #[.pointer (some ⟨bm, 0, none⟩), .pointer (some ⟨bn, 0, none⟩)] W fun e w' => Below W.heap.size W w' ∧ ((e = .returned (.int .i64 (opH p xs k)) ∧ TL p xs k ∧ 2 * k + 1 ≤ n2) ∨ (e = .panicked (chE ae) ∧ ¬ (TL p xs k ∧ 2 * k + 1 ≤ n2))) := by
  obtain ⟨m0, m1, m2, he, h2⟩ := hb
  have hl2 := hide h2.len
  go_enter Tryd.func53, Tryd.ntmps53
  go_wp2_with fail
  refine (orthoAt_any p a2 n2 c2 xs k ae W (he.below (Below.refl W.heap.size W)) (h2.below (Below.refl W.heap.size W)) hP hx b2 hk).mono ?_
  rintro e w1 ⟨hb1, (⟨a, c, b, d, f, g, rfl, hT, oa, ob, of, ne⟩ | ⟨rfl, hno⟩)⟩
  · have pa := bl1 w1 (.cells #[.int .i64 p, .slice a k c, .slice b k d] 27)
    have hB1 := hb1.trans (pa.mono hb1.size)
    have sf := (of.below pa).sl
    rw [(opL_len (primeB_lo hP).1 xs k (by omega)).1] at sf
    have hs2 := h2.below hB1
    replace m0 := cell_al (cell_be hb1 m0) (.cells #[.int .i64 p, .slice a k c, .slice b k d] 27)
    replace m1 := cell_al (cell_be hb1 m1) (.cells #[.int .i64 p, .slice a k c, .slice b k d] 27)
    replace m2 := cell_al (cell_be hb1 m2) (.cells #[.int .i64 p, .slice a k c, .slice b k d] 27)
    have hEq : nrI p (opL p xs k) xs 0 = opH p xs k := rfl
    by_cases hN : 2 * k + 1 ≤ n2
    · clear of oa ob hb1
      go_wp2_with fail
      refine (sqn_ok p a2 n2 c2 xs f (k + 1) g (opL p xs k) _ hs2 sf (by omega) (by omega) (by omega) (by omega) (primeB_lo hP).1 (primeB_lo hP).2 (opL_small (primeB_lo hP).1 xs k (by omega)).are hx).mono ?_
      rintro e w2 ⟨rfl, hb2⟩
      rw [hEq]
      go_wp2
      go_ret
      exact ⟨bnext hB1 hb2, .inl ⟨rfl, hT, hN⟩⟩
    · clear of oa ob hb1
      go_wp2_with fail
      refine (sqn_no p a2 n2 c2 xs f (k + 1) g (opL p xs k) ae _ hs2 sf (he.below hB1) (by omega) (by omega) (by omega) (by omega) (primeB_lo hP).1 (primeB_lo hP).2 (opL_small (primeB_lo hP).1 xs k (by omega)).are hx).mono ?_
      rintro e w2 ⟨rfl, hb2⟩
      go_wp2
      exact ⟨rfl, bnext hB1 hb2, .inr ⟨rfl, fun h => hN h.2⟩⟩
  · go_wp2
    exact ⟨rfl, hb1, .inr ⟨rfl, fun h => hno h.1⟩⟩
set_option maxRecDepth 100000 in
set_option maxHeartbeats 3200000 in
theorem implJacobiOfMoments (p : Int) (a2 : Option Addr) (n2 c2 : Nat) (xs : List Int) (k : Int) (ae : Addr) (w : World) (he : ErrV w ae) (h2 : SL w a2 n2 c2 xs) (hn : n2 ≤ 4000000) :
    Calls Tryd.prog 15 #[mom p a2 n2 c2, .int .i64 k] w (ResJ w (jomP p xs k) (jomV p xs k) (jomU p xs k) (jomC p xs k)) := by
  have hb0 := bl3 w (.cells #[.int .i64 p, .slice a2 n2 c2] 30) (.cells #[.int .i64 k] 2) (.cells #[.int .i64 0, .slice none 0 0, .slice none 0 0] 27)
  have hl2 := hide h2.len
  replace h2 := h2.below hb0
  replace he := he.below hb0
  obtain ⟨C, hC⟩ : ∃ C, mcd p xs k 1 12 = C := ⟨_, rfl⟩
  by_cases hz : C = 0
  rotate_left
  · have HC := hide (show jomC p xs k = C by unfold jomC; rw [hC, if_neg hz])
    have HE := hide (jom_err HC.out hz)
    have hz' : ¬ (C = 0) := hz
    go_enter Tryd.func15, Tryd.ntmps15
    go_wp2_with fail
    refine (checkMoments_any _ _ _ _ _ _ _ _ C _ h2 hn hC).mono ?_
    rintro e w1 ⟨rfl, hb1⟩
    have m0 : w1.cell? ⟨w.heap.size, 0, none⟩ = some (.int .i64 p) := cell_be hb1 (by simp [go_sem])
    have m1 : w1.cell? ⟨w.heap.size, 1, none⟩ = some (.slice a2 n2 c2) := cell_be hb1 (by simp [go_sem])
    have m2 : w1.cell? ⟨w.heap.size + 1, 0, none⟩ = some (.int .i64 k) := cell_be hb1 (by simp [go_sem])
    have r0 : w1.cell? ⟨w.heap.size + 1 + 1, 0, none⟩ = some (.int .i64 0) := cell_be hb1 (by simp [go_sem])
    have y0 : w1.frozen? ⟨w.heap.size + 1 + 1, 0, none⟩ = false := (hb1.frozen (by simp)).trans (by simp [go_sem])
    have r1 : w1.cell? ⟨w.heap.size + 1 + 1, 1, none⟩ = some (.slice none 0 0) := cell_be hb1 (by simp [go_sem])
    have y1 : w1.frozen? ⟨w.heap.size + 1 + 1, 1, none⟩ = false := (hb1.frozen (by simp)).trans (by simp [go_sem])
    have r2 : w1.cell? ⟨w.heap.size + 1 + 1, 2, none⟩ = some (.slice none 0 0) := cell_be hb1 (by simp [go_sem])
    have y2 : w1.frozen? ⟨w.heap.size + 1 + 1, 2, none⟩ = false := (hb1.frozen (by simp)).trans (by simp [go_sem])
    have hB1 := bnext hb0 hb1
    clear hb1 hC hz
    go_wp2
    refine bodyPost_ret (v := .tuple #[jac 0 none 0 0 none 0 0, .int .i64 C]) (by simp [results, Tryd.results15, go_sem, r0, r1, r2]) rfl ?_
    exact ResJ.nil HE.out.1 HE.out.2.1 HE.out.2.2 HC.out (((hB1.setCell (by simp <;> omega) _).setCell (by simp <;> omega) _).setCell (by simp <;> omega) _)
  · subst hz
    obtain ⟨hm, hk1, hk2⟩ := mcd_ok hC
    obtain ⟨hP, q1, q2, hx⟩ := momB_rng hm
    obtain ⟨K, rfl⟩ : ∃ K : Nat, k = K := ⟨k.toNat, by omega⟩
    have hb2 : n2 ≤ 24 := by have := hl2.out; omega
    have hK : K ≤ 12 := by omega
    have hreg := hide (reg_TL hP hx q2 K)
    have HG := hide (show TL p xs K → jomC p xs (K : Int) = 0 by intro h; unfold jomC; rw [hC, if_pos rfl, Int.toNat_natCast, if_pos (hreg.out.2 h)])
    have HB := hide (show ¬ TL p xs K → jomC p xs (K : Int) = 5 by intro h; unfold jomC; rw [hC, if_pos rfl, Int.toNat_natCast, if_neg (fun h' => h (hreg.out.1 h'))])
    have hent : EnterF 48 := fun args w => by kernel_rfl
    go_enter Tryd.func15, Tryd.ntmps15
    go_wp2_with fail
    refine (checkMoments_any _ _ _ _ _ _ _ _ 0 _ h2 hn hC).mono ?_
    rintro e w1 ⟨rfl, hb1⟩
    have m0 : w1.cell? ⟨w.heap.size, 0, none⟩ = some (.int .i64 p) := cell_be hb1 (by simp [go_sem])
    have m1 : w1.cell? ⟨w.heap.size, 1, none⟩ = some (.slice a2 n2 c2) := cell_be hb1 (by simp [go_sem])
    have m2 : w1.cell? ⟨w.heap.size + 1, 0, none⟩ = some (.int .i64 (K : Int)) := cell_be hb1 (by simp [go_sem])
    have r0 : w1.cell? ⟨w.heap.size + 1 + 1, 0, none⟩ = some (.int .i64 0) := cell_be hb1 (by simp [go_sem])
    have y0 : w1.frozen? ⟨w.heap.size + 1 + 1, 0, none⟩ = false := (hb1.frozen (by simp)).trans (by simp [go_sem])
    have r1 : w1.cell? ⟨w.heap.size + 1 + 1, 1, none⟩ = some (.slice none 0 0) := cell_be hb1 (by simp [go_sem])
    have y1 : w1.frozen? ⟨w.heap.size + 1 + 1, 1, none⟩ = false := (hb1.frozen (by simp)).trans (by simp [go_sem])
    have r2 : w1.cell? ⟨w.heap.size + 1 + 1, 2, none⟩ = some (.slice none 0 0) := cell_be hb1 (by simp [go_sem])
    have y2 : w1.frozen? ⟨w.heap.size + 1 + 1, 2, none⟩ = false := (hb1.frozen (by simp)).trans (by simp [go_sem])
    have hB1 := bnext hb0 hb1
    replace h2 := h2.below hb1
    replace he := he.below hb1
    have z1 := hb1.size
    simp at z1
    clear hb1 hC hm hk1 hk2 q1 q2
    go_wp2_with fail
    refine (doorJ 48 #[.pointer (some ⟨w.heap.size, 0, none⟩), .pointer (some ⟨w.heap.size + 1, 0, none⟩)] ae _ (¬ TL p xs K) (fun v W => ∃ a c b d, v = jac p a K c b K d ∧ TL p xs K ∧ Own (w1.heap.size + 2) W a c (jdL p xs K).1 ∧ Own (w1.heap.size + 2) W b d (jdL p xs K).2 ∧ ∀ y, blk a = some y → blk b ≠ some y) hent ?_ ?_).mono ?_
    · rintro v W W' ⟨a, c, b, d, rfl, hT, oa, ob, ne⟩ hA
      exact ⟨a, c, b, d, rfl, hT, oa.agr hA (fun g hg => oa.low g hg), ob.agr hA (fun g hg => ob.low g hg), ne⟩
    · intro W hW hz
      refine (jomWork p a2 n2 c2 xs K w.heap.size (w.heap.size + 1) ae W ⟨cell_be hW m0, cell_be hW m1, cell_be hW m2, he.below hW, h2.below hW⟩ hP hx hb2 hK).mono ?_
      rintro e w' ⟨hb, (⟨a, c, b, d, rfl, hT, oa, ob, ne⟩ | ⟨rfl, hno⟩)⟩
      · exact ⟨hb, .inl ⟨p, a, K, c, b, K, d, rfl, a, c, b, d, rfl, hT, oa.mono hz, ob.mono hz, ne⟩⟩
      · exact ⟨hb, .inr ⟨rfl, hno⟩⟩
    rintro e w2 ⟨hb2', (⟨q, a', n', c', b', m', d', hee, a, c, b, d, hv, hT, oa, ob, ne⟩ | ⟨rfl, hno⟩)⟩
    · rw [hv] at hee
      subst hee
      clear hv
      have HC := hide (HG.out hT)
      have HO := hide (jom_ok HC.out)
      replace y0 := (hb2'.frozen (by simp <;> omega)).trans y0
      replace r0 := cell_be hb2' r0
      replace y1 := (hb2'.frozen (by simp <;> omega)).trans y1
      replace r1 := cell_be hb2' r1
      replace y2 := (hb2'.frozen (by simp <;> omega)).trans y2
      replace r2 := cell_be hb2' r2
      have hB2 := bnext hB1 hb2'
      clear hb2' m0 m1 m2
      have hjl := hide (jdL_len p xs K)
      go_wp2
      refine bodyPost_ret (v := .tuple #[jac p a K c b K d, .int .i64 0]) (by simp [results, Tryd.results15, go_sem, r0, r1, r2]) rfl ?_
      refine ResJ.mk HO.out.1 HC.out ?_ ?_ ⟨?_, ?_, ?_⟩ ?_ ?_ (((hB2.setCell (by simp <;> omega) _).setCell (by simp <;> omega) _).setCell (by simp <;> omega) _)
      · rw [HO.out.2.1, Int.toNat_natCast, hjl.out.1]
      · rw [HO.out.2.2, Int.toNat_natCast, hjl.out.2]
      · rw [HO.out.2.1, Int.toNat_natCast]
        exact OZ.of (((oa.setLow (x := ⟨w.heap.size + 1 + 1, 0, none⟩) (by simp; omega) _).setLow (x := ⟨w.heap.size + 1 + 1, 1, none⟩) (by simp; omega) _).setLow (x := ⟨w.heap.size + 1 + 1, 2, none⟩) (by simp; omega) _) hjl.out.1.symm |>.mono (by omega) (Nat.le_refl _)
      · rw [HO.out.2.2, Int.toNat_natCast]
        exact OZ.of (((ob.setLow (x := ⟨w.heap.size + 1 + 1, 0, none⟩) (by simp; omega) _).setLow (x := ⟨w.heap.size + 1 + 1, 1, none⟩) (by simp; omega) _).setLow (x := ⟨w.heap.size + 1 + 1, 2, none⟩) (by simp; omega) _) hjl.out.2.symm |>.mono (by omega) (Nat.le_refl _)
      · by_cases h0 : blk a = none
        · left
          rcases oa.shape with ⟨_, _, hh⟩ | ⟨g', cur, hh, _⟩
          · have := hjl.out.1; rw [hh] at this; exact this.symm
          · rw [hh] at h0; cases h0
        · right; right
          intro hh
          obtain ⟨y, hy⟩ := Option.ne_none_iff_exists'.1 h0
          exact ne y hy (by rw [← hh]; exact hy)
      · rw [HO.out.2.1, Int.toNat_natCast, hjl.out.1]; omega
      · rw [HO.out.2.2, Int.toNat_natCast, hjl.out.2]; omega
    · have HC := hide (HB.out hno)
      have HE := hide (jom_err HC.out (by decide))
      replace y0 := (hb2'.frozen (by simp <;> omega)).trans y0
      replace r0 := cell_be hb2' r0
      replace y1 := (hb2'.frozen (by simp <;> omega)).trans y1
      replace r1 := cell_be hb2' r1
      replace y2 := (hb2'.frozen (by simp <;> omega)).trans y2
      replace r2 := cell_be hb2' r2
      have hB2 := bnext hB1 hb2'
      clear hb2' m0 m1 m2
      go_wp2
      refine bodyPost_ret (v := .tuple #[jac 0 none 0 0 none 0 0, .int .i64 5]) (by simp [results, Tryd.results15, go_sem, r0, r1, r2]) rfl ?_
      exact ResJ.nil HE.out.1 HE.out.2.1 HE.out.2.2 HC.out (((hB2.setCell (by simp <;> omega) _).setCell (by simp <;> omega) _).setCell (by simp <;> omega) _)
set_option maxRecDepth 100000 in
set_option maxHeartbeats 3200000 in
theorem implOrthogonalPolynomial (p : Int) (a2 : Option Addr) (n2 c2 : Nat) (xs : List Int) (k : Int) (ae : Addr) (w : World) (he : ErrV w ae) (h2 : SL w a2 n2 c2 xs) (hn : n2 ≤ 4000000) :
    Calls Tryd.prog 22 #[mom p a2 n2 c2, .int .i64 k] w (Res1 w (opoV p xs k) (opoC p xs k)) := by
  have hb0 := bl2 w (.cells #[.int .i64 p, .slice a2 n2 c2] 30) (.cells #[.int .i64 k] 2)
  have hl2 := hide h2.len
  replace h2 := h2.below hb0
  replace he := he.below hb0
  obtain ⟨C, hC⟩ : ∃ C, mcd p xs k 0 12 = C := ⟨_, rfl⟩
  by_cases hz : C = 0
  rotate_left
  · have HC := hide (show opoC p xs k = C by unfold opoC; rw [hC, if_neg hz])
    have HE := hide (show opoV p xs k = [] by unfold opoV; rw [HC.out, if_neg hz])
    have hz' : ¬ (C = 0) := hz
    go_enter Tryd.func22, Tryd.ntmps22
    go_wp2_with fail
    refine (checkMoments_any _ _ _ _ _ _ _ _ C _ h2 hn hC).mono ?_
    rintro e w1 ⟨rfl, hb1⟩
    have m0 : w1.cell? ⟨w.heap.size, 0, none⟩ = some (.int .i64 p) := cell_be hb1 (by simp [go_sem])
    have m1 : w1.cell? ⟨w.heap.size, 1, none⟩ = some (.slice a2 n2 c2) := cell_be hb1 (by simp [go_sem])
    have m2 : w1.cell? ⟨w.heap.size + 1, 0, none⟩ = some (.int .i64 k) := cell_be hb1 (by simp [go_sem])
    have hB1 := bnext hb0 hb1
    clear hb1 hC hz
    go_wp2
    go_ret2
    exact Res1.nil HE.out HC.out hB1
  · subst hz
    obtain ⟨hm, hk1, hk2⟩ := mcd_ok hC
    obtain ⟨hP, q1, q2, hx⟩ := momB_rng hm
    obtain ⟨K, rfl⟩ : ∃ K : Nat, k = K := ⟨k.toNat, by omega⟩
    have hb2 : n2 ≤ 24 := by have := hl2.out; omega
    have hK : K ≤ 12 := by omega
    have hreg := hide (reg_TL hP hx q2 K)
    have HG := hide (show TL p xs K → opoC p xs (K : Int) = 0 by intro h; unfold opoC; rw [hC, if_pos rfl, Int.toNat_natCast, if_pos (hreg.out.2 h)])
    have HB := hide (show ¬ TL p xs K → opoC p xs (K : Int) = 5 by intro h; unfold opoC; rw [hC, if_pos rfl, Int.toNat_natCast, if_neg (fun h' => h (hreg.out.1 h'))])
    have hent : EnterF 51 := fun args w => by kernel_rfl
    go_enter Tryd.func22, Tryd.ntmps22
    go_wp2_with fail
    refine (checkMoments_any _ _ _ _ _ _ _ _ 0 _ h2 hn hC).mono ?_
    rintro e w1 ⟨rfl, hb1⟩
    have m0 : w1.cell? ⟨w.heap.size, 0, none⟩ = some (.int .i64 p) := cell_be hb1 (by simp [go_sem])
    have m1 : w1.cell? ⟨w.heap.size, 1, none⟩ = some (.slice a2 n2 c2) := cell_be hb1 (by simp [go_sem])
    have m2 : w1.cell? ⟨w.heap.size + 1, 0, none⟩ = some (.int .i64 (K : Int)) := cell_be hb1 (by simp [go_sem])
    have hB1 := bnext hb0 hb1
    replace h2 := h2.below hb1
    replace he := he.below hb1
    have z1 := hb1.size
    simp at z1
    clear hb1 hC hm hk1 hk2 q1 q2
    go_wp2_with fail
    refine (doorS 51 #[.pointer (some ⟨w.heap.size, 0, none⟩), .pointer (some ⟨w.heap.size + 1, 0, none⟩)] ae _ (¬ TL p xs K) (fun v W => ∃ f g, v = .slice f (K + 1) g ∧ TL p xs K ∧ Own (w1.heap.size + 1) W f g (opL p xs K)) hent ?_ ?_).mono ?_
    · rintro v W W' ⟨f, g, rfl, hT, of⟩ hA
      exact ⟨f, g, rfl, hT, of.agr hA (fun g hg => of.low g hg)⟩
    · intro W hW hz
      refine (opoWork p a2 n2 c2 xs K w.heap.size (w.heap.size + 1) ae W ⟨cell_be hW m0, cell_be hW m1, cell_be hW m2, he.below hW, h2.below hW⟩ hP hx hb2 hK).mono ?_
      rintro e w' ⟨hb, (⟨f, g, rfl, hT, of⟩ | ⟨rfl, hno⟩)⟩
      · exact ⟨hb, .inl ⟨f, K + 1, g, rfl, f, g, rfl, hT, of.mono hz⟩⟩
      · exact ⟨hb, .inr ⟨rfl, hno⟩⟩
    rintro e w2 ⟨hb2', (⟨a', n', c', hee, f, g, hv, hT, of⟩ | ⟨rfl, hno⟩)⟩
    · rw [hv] at hee
      subst hee
      clear hv
      have HC := hide (HG.out hT)
      have HO := hide (show opoV p xs (K : Int) = opL p xs K by unfold opoV; rw [HC.out, if_pos rfl, Int.toNat_natCast])
      have hB2 := bnext hB1 hb2'
      clear hb2' m0 m1 m2
      have hjl := hide (opL_len (primeB_lo hP).1 xs K (by omega)).1
      go_wp2
      go_ret2
      exact Res1.own HC.out (by rw [HO.out, hjl.out]) (by rw [HO.out]; exact of.mono (by omega)) (by rw [HO.out, hjl.out]; omega) hB2
    · have HC := hide (HB.out hno)
      have HE := hide (show opoV p xs (K : Int) = [] by unfold opoV; rw [HC.out]; rfl)
      have hB2 := bnext hB1 hb2'
      clear hb2' m0 m1 m2
      go_wp2
      go_ret2
      exact Res1.nil HE.out HC.out hB2
set_option maxRecDepth 100000 in
set_option maxHeartbeats 3200000 in
theorem implNormOf (p : Int) (a2 : Option Addr) (n2 c2 : Nat) (xs : List Int) (k : Int) (ae : Addr) (w : World) (he : ErrV w ae) (h2 : SL w a2 n2 c2 xs) (hn : n2 ≤ 4000000) :
    Calls Tryd.prog 27 #[mom p a2 n2 c2, .int .i64 k] w (fun e w' => e = .returned (.tuple #[.int .i64 (nofV p xs k), .int .i64 (nofC p xs k)]) ∧ Below w.heap.size w w') := by
  have hb0 := bl2 w (.cells #[.int .i64 p, .slice a2 n2 c2] 30) (.cells #[.int .i64 k] 2)
  have hl2 := hide h2.len
  replace h2 := h2.below hb0
  replace he := he.below hb0
  obtain ⟨C, hC⟩ : ∃ C, mcd p xs k 0 12 = C := ⟨_, rfl⟩
  by_cases hz : C = 0
  rotate_left
  · have HC := hide (show nofC p xs k = C by unfold nofC; rw [hC, if_neg hz])
    have HE := hide (show nofV p xs k = 0 by unfold nofV; rw [HC.out, if_neg hz])
    have hz' : ¬ (C = 0) := hz
    go_enter Tryd.func27, Tryd.ntmps27
    go_wp2_with fail
    refine (checkMoments_any _ _ _ _ _ _ _ _ C _ h2 hn hC).mono ?_
    rintro e w1 ⟨rfl, hb1⟩
    have m0 : w1.cell? ⟨w.heap.size, 0, none⟩ = some (.int .i64 p) := cell_be hb1 (by simp [go_sem])
    have m1 : w1.cell? ⟨w.heap.size, 1, none⟩ = some (.slice a2 n2 c2) := cell_be hb1 (by simp [go_sem])
    have m2 : w1.cell? ⟨w.heap.size + 1, 0, none⟩ = some (.int .i64 k) := cell_be hb1 (by simp [go_sem])
    have hB1 := bnext hb0 hb1
    clear hb1 hC hz
    go_wp2
    go_ret2
    exact ⟨ret_int2 HE.out.symm HC.out.symm, hB1⟩
  · subst hz
    obtain ⟨hm, hk1, hk2⟩ := mcd_ok hC
    obtain ⟨hP, q1, q2, hx⟩ := momB_rng hm
    obtain ⟨K, rfl⟩ : ∃ K : Nat, k = K := ⟨k.toNat, by omega⟩
    have hb2 : n2 ≤ 24 := by have := hl2.out; omega
    have hK : K ≤ 12 := by omega
    have hreg := hide (reg_TL hP hx q2 K)
    have HG := hide (show TL p xs K → 2 * K + 1 ≤ n2 → nofC p xs (K : Int) = 0 by intro h h'; unfold nofC; rw [hC, if_pos rfl, Int.toNat_natCast, hreg.out.2 h, hl2.out]; simp [h'])
    have HB := hide (show ¬ (TL p xs K ∧ 2 * K + 1 ≤ n2) → nofC p xs (K : Int) = 5 by intro h; unfold nofC; rw [hC, if_pos rfl, Int.toNat_natCast, if_neg (fun h' => h (by simp only [Bool.and_eq_true, decide_eq_true_eq] at h'; exact ⟨hreg.out.1 h'.1, by have := h'.2; have := hl2.out; omega⟩))])
    have hent : EnterF 53 := fun args w => by kernel_rfl
    go_enter Tryd.func27, Tryd.ntmps27
    go_wp2_with fail
    refine (checkMoments_any _ _ _ _ _ _ _ _ 0 _ h2 hn hC).mono ?_
    rintro e w1 ⟨rfl, hb1⟩
    have m0 : w1.cell? ⟨w.heap.size, 0, none⟩ = some (.int .i64 p) := cell_be hb1 (by simp [go_sem])
    have m1 : w1.cell? ⟨w.heap.size, 1, none⟩ = some (.slice a2 n2 c2) := cell_be hb1 (by simp [go_sem])
    have m2 : w1.cell? ⟨w.heap.size + 1, 0, none⟩ = some (.int .i64 (K : Int)) := cell_be hb1 (by simp [go_sem])
    have hB1 := bnext hb0 hb1
    replace h2 := h2.below hb1
    replace he := he.below hb1
    have z1 := hb1.size
    simp at z1
    clear hb1 hC hm hk1 hk2 q1 q2
    go_wp2_with fail
    refine (doorI 53 #[.pointer (some ⟨w.heap.size, 0, none⟩), .pointer (some ⟨w.heap.size + 1, 0, none⟩)] ae _ (¬ (TL p xs K ∧ 2 * K + 1 ≤ n2)) (fun v W => v = .int .i64 (opH p xs K) ∧ TL p xs K ∧ 2 * K + 1 ≤ n2) hent ?_ ?_).mono ?_
    · rintro v W W' h hA
      exact h
    · intro W hW hz
      refine (nofWork p a2 n2 c2 xs K w.heap.size (w.heap.size + 1) ae W ⟨cell_be hW m0, cell_be hW m1, cell_be hW m2, he.below hW, h2.below hW⟩ hP hx hb2 hK).mono ?_
      rintro e w' ⟨hb, (⟨rfl, hT⟩ | ⟨rfl, hno⟩)⟩
      · exact ⟨hb, .inl ⟨_, rfl, rfl, hT⟩⟩
      · exact ⟨hb, .inr ⟨rfl, hno⟩⟩
    rintro e w2 ⟨hb2', (⟨x, hee, hv, hT, hN⟩ | ⟨rfl, hno⟩)⟩
    · rw [hv] at hee
      subst hee
      clear hv
      have HC := hide (HG.out hT hN)
      have HO := hide (show nofV p xs (K : Int) = opH p xs K by unfold nofV; rw [HC.out, if_pos rfl, Int.toNat_natCast])
      have hB2 := bnext hB1 hb2'
      clear hb2' m0 m1 m2
      go_wp2
      go_ret2
      exact ⟨ret_int2 HO.out.symm HC.out.symm, hB2⟩
    · have HC := hide (HB.out hno)
      have HE := hide (show nofV p xs (K : Int) = 0 by unfold nofV; rw [HC.out]; rfl)
      have hB2 := bnext hB1 hb2'
      clear hb2' m0 m1 m2
      go_wp2
      go_ret2
      exact ⟨ret_int2 HE.out.symm HC.out.symm, hB2⟩
end Go.Proofs.YtdjifjlgllohmaaDoor
