/- Contracts: PolyOf, AssociatedOf, ValueOf, WronskiAt (program and model). -/
import Derived.Test.YtgaafhcnfeipbaaRe
import Derived.Test.YtgaafhcnfeipbaaVa
namespace Go.Proofs.Ytgaafhcnfeipbaa
open Go.RowKit
set_option linter.unusedVariables false
set_option linter.unusedSimpArgs false

def polC (p : Int) (xs ys : List Int) (k : Int) : Int := jcd p xs ys k 0 xs.length
def polV (p : Int) (xs ys : List Int) (k : Int) : List Int := if polC p xs ys k = 0 then polJ p xs ys k.toNat else []
def secV (p : Int) (xs ys : List Int) (k : Int) : List Int := if polC p xs ys k = 0 then secJ p xs ys k.toNat else []
def vofC (p : Int) (xs ys : List Int) (k x : Int) : Int := if polC p xs ys k = 0 then (if 0 ≤ x ∧ x < p then 0 else 2) else polC p xs ys k
def vofV (p : Int) (xs ys : List Int) (k x : Int) : Int := if vofC p xs ys k x = 0 then evM p (polJ p xs ys k.toNat) x else 0
def wroC (p : Int) (xs ys : List Int) (k : Int) : Int := jcd p xs ys k 0 ((xs.length : Int) - 1)
def wroM (p : Int) (xs ys : List Int) (k : Nat) : List Int := addM p (mulM p (polJ p xs ys k) (secJ p xs ys (k + 1))) (mulM p (secJ p xs ys k) (polJ p xs ys (k + 1))) (p - 1)
def wroV (p : Int) (xs ys : List Int) (k : Int) : List Int := if wroC p xs ys k = 0 then wroM p xs ys k.toNat else []
/-- The polynomials as the closures hand them out: behind the last one it comes again. -/
def gP (p : Int) (xs ys : List Int) (n i : Nat) : List Int := polJ p xs ys (min i n)
def gS (p : Int) (xs ys : List Int) (n i : Nat) : List Int := secJ p xs ys (min i n)
theorem gP_step (p : Int) (xs ys : List Int) (n i : Nat) : gP p xs ys n (i + 2) = if i + 1 < n then stp p (xs.getD (i + 1) 0) (ys.getD (i + 1) 0) (gP p xs ys n (i + 1)) (gP p xs ys n i) else gP p xs ys n (i + 1) := by
  unfold gP
  split
  · next h => rw [Nat.min_eq_left (show i + 2 ≤ n by omega), Nat.min_eq_left (show i + 1 ≤ n by omega), Nat.min_eq_left (show i ≤ n by omega)]; exact polJ_step p xs ys i
  · next h => rw [Nat.min_eq_right (show n ≤ i + 2 by omega), Nat.min_eq_right (show n ≤ i + 1 by omega)]
theorem gS_step (p : Int) (xs ys : List Int) (n i : Nat) : gS p xs ys n (i + 2) = if i + 1 < n then stp p (xs.getD (i + 1) 0) (ys.getD (i + 1) 0) (gS p xs ys n (i + 1)) (gS p xs ys n i) else gS p xs ys n (i + 1) := by
  unfold gS
  split
  · next h => rw [Nat.min_eq_left (show i + 2 ≤ n by omega), Nat.min_eq_left (show i + 1 ≤ n by omega), Nat.min_eq_left (show i ≤ n by omega)]; exact secJ_step p xs ys i
  · next h => rw [Nat.min_eq_right (show n ≤ i + 2 by omega), Nat.min_eq_right (show n ≤ i + 1 by omega)]
theorem Small.up {p : Int} {m m' : Nat} {f : List Int} (h : Small p m f) (hm : m ≤ m') : Small p m' f := ⟨h.1, Nat.le_trans h.2 hm⟩
theorem gP_small {p : Int} (hp : 2 ≤ p) (xs ys : List Int) (n i : Nat) (hn : n ≤ 12) : Small p 24 (gP p xs ys n i) := (polJ_small hp xs ys (min i n) (by omega)).up (by omega)
theorem gS_small {p : Int} (hp : 2 ≤ p) (xs ys : List Int) (n i : Nat) (hn : n ≤ 12) : Small p 24 (gS p xs ys n i) := (secJ_small hp xs ys (min i n) (by omega)).up (by omega)
theorem gP_one {p : Int} (hp : 2 ≤ p) (xs ys : List Int) (n : Nat) (hn : 1 ≤ n) : gP p xs ys n 1 = linM p (xs.getD 0 0) := by
  unfold gP
  rw [Nat.min_eq_left hn]
  exact polJ_one hp xs ys
theorem gS_one (p : Int) (xs ys : List Int) (n : Nat) (hn : 1 ≤ n) : gS p xs ys n 1 = [1] := by
  unfold gS
  rw [Nat.min_eq_left hn]
  rfl
/-- A kept list as the result of a call. -/
theorem Kept.res {B z ze : Nat} {w w' : World} {a : Option Addr} {c : Nat} {f : List Int} (h : Kept w.heap.size B z ze w' a c f) : OZ w.heap.size w'.heap.size w' a f.length c f := by
  obtain ⟨l, hh, h1, h2, _, _, h5⟩ := h
  exact h5.mono h1 h2
theorem gP_zero (p : Int) (xs ys : List Int) (n : Nat) : gP p xs ys n 0 = [1] := by unfold gP; rw [Nat.zero_min]; rfl
theorem gS_zero (p : Int) (xs ys : List Int) (n : Nat) : gS p xs ys n 0 = [] := by unfold gS; rw [Nat.zero_min]; rfl
theorem gP_le {p : Int} {xs ys : List Int} {n k : Nat} (h : k ≤ n) : gP p xs ys n k = polJ p xs ys k := by unfold gP; rw [Nat.min_eq_left h]
theorem gS_le {p : Int} {xs ys : List Int} {n k : Nat} (h : k ≤ n) : gS p xs ys n k = secJ p xs ys k := by unfold gS; rw [Nat.min_eq_left h]
section
variable {z ze B : Nat} {w0 w : World} {p : Int} {a : Option Addr} {n c : Nat} {b : Option Addr} {d : Nat} {xs ys : List Int}
theorem RInv.polys (h : RInv z ze B w0 w p a n c b d 0 [1] (linM p (xs.getD 0 0))) (hp : 2 ≤ p) (hn : 1 ≤ n) : RInv z ze B w0 w p a n c b d 0 (gP p xs ys n 0) (gP p xs ys n 1) := by
  rw [gP_zero, gP_one hp xs ys n hn]
  exact h
theorem RInv.seconds (h : RInv z ze B w0 w p a n c b d 0 [] [1]) (hn : 1 ≤ n) : RInv z ze B w0 w p a n c b d 0 (gS p xs ys n 0) (gS p xs ys n 1) := by
  rw [gS_zero, gS_one p xs ys n hn]
  exact h
end
set_option maxRecDepth 100000 in
set_option maxHeartbeats 1600000 in
theorem implPolyOf (p : Int) (a : Option Addr) (n c : Nat) (xs : List Int) (b : Option Addr) (m d : Nat) (ys : List Int) (k : Int) (w : World) (hs : SL w a n c xs) (ht : SL w b m d ys) (hn : n ≤ 4000000) (hm : m ≤ 4000000) :
    Calls Try.prog 78 #[jac p a n c b m d, .int .i64 k] w (Res1 w (polV p xs ys k) (polC p xs ys k)) := by
  have hl := hide hs.len
  have hl2 := hide ht.len
  have hb0 := bl1 w (.cells #[.int .i64 p, .slice a n c, .slice b m d] 24)
  have g1 := hs.below hb0
  have g2 := ht.below hb0
  have hcd : ∀ C, polC p xs ys k = C → Hid (jcd p xs ys k 0 (n : Int) = C) := fun C h => hide (by rw [← h, polC, hl.out])
  have hbd := (Below.refl (w.alloc (.cells #[.int .i64 p, .slice a n c, .slice b m d] 24)).heap.size (w.alloc (.cells #[.int .i64 p, .slice a n c, .slice b m d] 24))).drew
  have F : ∀ w', Below (w.alloc (.cells #[.int .i64 p, .slice a n c, .slice b m d] 24)).heap.size (w.alloc (.cells #[.int .i64 p, .slice a n c, .slice b m d] 24)) w' → w'.cell? ⟨w.heap.size, 0, none⟩ = some (.int .i64 p) ∧ w'.cell? ⟨w.heap.size, 1, none⟩ = some (.slice a n c) ∧ w'.cell? ⟨w.heap.size, 2, none⟩ = some (.slice b m d) := fun w' h => ⟨cell_be h (by simp [go_sem]), cell_be h (by simp [go_sem]), cell_be h (by simp [go_sem])⟩
  rcases jcd_cases p xs ys k 0 (xs.length : Int) with hc | hc | ⟨hc, hj, q1, q2⟩
  · have Hb := hide (show polC p xs ys k = 1 from hc)
    have HC := hide (show polC p xs ys k = 1 by exact hc)
    have HV := hide (show polV p xs ys k = [] by simp [polV, HC.out])
    have Hcd := hcd _ Hb.out
    clear hc hcd
    go_enter Try.func78, Try.ntmps78
    go_upto_region 1 with fail
    go_region_held3 (fun w' => w'.cell? ⟨w.heap.size, 0, none⟩ = some (.int .i64 p) ∧ w'.cell? ⟨w.heap.size, 1, none⟩ = some (.slice a n c) ∧ w'.cell? ⟨w.heap.size, 2, none⟩ = some (.slice b m d))
      (exact F _ (by assumption))
      (first
      | (go_at_call 58; refine (sizeOf_any _ _ _ _ _ _ _ _ hn).mono ?_; rintro e w1 ⟨rfl, hb1⟩; have hm1 := bnext hbd hb1)
      | (go_at_call 73; refine (checkJacobi_any _ _ _ _ _ _ _ _ _ _ _ _ _ _ (g1.below hm1) (g2.below hm1) hn hm Hcd.out).mono ?_; rintro e w2 ⟨rfl, hb2⟩; have hm2 := bnext hm1 hb2))
    have hB2 := bnext hb0 hm2
    have z2 := hm2.size
    simp at z2
    go_wp2
    go_ret2
    exact Res1.nil HV.out HC.out hB2
  · have Hb := hide (show polC p xs ys k = 2 from hc)
    have HC := hide (show polC p xs ys k = 2 by exact hc)
    have HV := hide (show polV p xs ys k = [] by simp [polV, HC.out])
    have Hcd := hcd _ Hb.out
    clear hc hcd
    go_enter Try.func78, Try.ntmps78
    go_upto_region 1 with fail
    go_region_held3 (fun w' => w'.cell? ⟨w.heap.size, 0, none⟩ = some (.int .i64 p) ∧ w'.cell? ⟨w.heap.size, 1, none⟩ = some (.slice a n c) ∧ w'.cell? ⟨w.heap.size, 2, none⟩ = some (.slice b m d))
      (exact F _ (by assumption))
      (first
      | (go_at_call 58; refine (sizeOf_any _ _ _ _ _ _ _ _ hn).mono ?_; rintro e w1 ⟨rfl, hb1⟩; have hm1 := bnext hbd hb1)
      | (go_at_call 73; refine (checkJacobi_any _ _ _ _ _ _ _ _ _ _ _ _ _ _ (g1.below hm1) (g2.below hm1) hn hm Hcd.out).mono ?_; rintro e w2 ⟨rfl, hb2⟩; have hm2 := bnext hm1 hb2))
    have hB2 := bnext hb0 hm2
    have z2 := hm2.size
    simp at z2
    go_wp2
    go_ret2
    exact Res1.nil HV.out HC.out hB2
  · obtain ⟨hpr, n1, n2, n3, hx, hy⟩ := jacB_rng hj
    obtain ⟨hp, hp2⟩ := primeB_lo hpr
    have Hj := hide hj
    have Hpr := hide hpr
    have Hx := hide hx
    have Hy := hide (posB_are hy)
    rw [hl.out] at n1 n2 n3
    rw [hl2.out] at n3
    subst n3
    rw [hl.out] at q2
    have Hb := hide (show polC p xs ys k = 0 from hc)
    have Hcd := hcd _ Hb.out
    clear hc hcd hj hpr hx hy
    obtain ⟨K, rfl⟩ : ∃ K : Nat, k = K := ⟨k.toNat, by omega⟩
    have HC := hide (show polC p xs ys (K : Int) = 0 from Hb.out)
    have HV := hide (show polV p xs ys (K : Int) = polJ p xs ys K by simp [polV, HC.out])
    go_enter Try.func78, Try.ntmps78
    go_upto_region 1 with fail
    go_region_held3 (fun w' => w'.cell? ⟨w.heap.size, 0, none⟩ = some (.int .i64 p) ∧ w'.cell? ⟨w.heap.size, 1, none⟩ = some (.slice a m c) ∧ w'.cell? ⟨w.heap.size, 2, none⟩ = some (.slice b m d))
      (exact F _ (by assumption))
      (first
      | (go_at_call 58; refine (sizeOf_any _ _ _ _ _ _ _ _ hn).mono ?_; rintro e w1 ⟨rfl, hb1⟩; have hm1 := bnext hbd hb1)
      | (go_at_call 73; refine (checkJacobi_any _ _ _ _ _ _ _ _ _ _ _ _ _ _ (g1.below hm1) (g2.below hm1) hn hm Hcd.out).mono ?_; rintro e w2 ⟨rfl, hb2⟩; have hm2 := bnext hm1 hb2))
    have hB2 := bnext hb0 hm2
    have z2 := hm2.size
    simp at z2
    have f0 : w2.cell? ⟨w.heap.size, 0, none⟩ = some (.int .i64 p) := cell_be hm2 (by simp [go_sem])
    have f1 : w2.cell? ⟨w.heap.size, 1, none⟩ = some (.slice a m c) := cell_be hm2 (by simp [go_sem])
    have f2 : w2.cell? ⟨w.heap.size, 2, none⟩ = some (.slice b m d) := cell_be hm2 (by simp [go_sem])
    have hbd2 := (Below.refl w2.heap.size w2).drew
    have F2 : ∀ w', Below w2.heap.size w2 w' → w'.cell? ⟨w.heap.size, 0, none⟩ = some (.int .i64 p) ∧ w'.cell? ⟨w.heap.size, 1, none⟩ = some (.slice a m c) ∧ w'.cell? ⟨w.heap.size, 2, none⟩ = some (.slice b m d) := fun w' h => ⟨cell_be h f0, cell_be h f1, cell_be h f2⟩
    have hBd := hB2.trans (hbd2.mono (by omega))
    go_wp2_with fail
    refine (polysOf_any p _ _ _ xs _ _ ys 0 0 w _ hs n1 hp hp2 Hx.out hB2 (Nat.zero_le _)).mono ?_
    rintro e w3 ⟨B, rfl, hBB, hR, hb3⟩
    go_wp2_with fail
    refine (goOn_any p _ _ _ xs _ _ ys K (gP p xs ys m) 0 0 B w _ hs ht Hpr.out Hx.out Hy.out (by omega) (by omega) (gP_step p xs ys m) (fun i => gP_small hp xs ys m i n2) (hR.polys hp n1) (.inr (Nat.zero_le _))).mono ?_
    rintro e w4 ⟨ac, cc, rfl, hk, hR2, ht4⟩
    rw [gP_le (by omega)] at hk ⊢
    have hB4 := hR2.hb
    have hlen := (polJ_small hp xs ys K (by omega))
    go_wp2
    go_ret2
    exact Res1.some HC.out (by rw [HV.out]) (by rw [HV.out]; exact hk.res) (by rw [HV.out]; exact Nat.le_trans hlen.2 (by omega)) hB4
end Go.Proofs.Ytgaafhcnfeipbaa
