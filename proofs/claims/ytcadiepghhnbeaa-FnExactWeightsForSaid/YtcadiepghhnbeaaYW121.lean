/- Merged texts. -/
import Derived.Test.YtcadiepghhnbeaaYW120
import Derived.Test.YtcadiepghhnbeaaYW110
/- Contracts: polysOf, associatesOf. -/
namespace Go.Proofs.Ytcadiepghhnbeaa
open Go.RowKit
set_option linter.unusedVariables false
set_option linter.unusedSimpArgs false

set_option maxRecDepth 100000 in
set_option maxHeartbeats 600000 in
theorem polysOf_any (p : Int) (a : Option Addr) (n c : Nat) (xs : List Int) (b : Option Addr) (d : Nat) (ys : List Int) (z ze : Nat) (w0 w : World) (hs : SL w0 a n c xs) (hn : 1 ≤ n) (hp : 2 ≤ p) (hp2 : p ≤ 10007) (hx : areB p xs = true) (hb : Below w0.heap.size w0 w) (hz : ze ≤ w.heap.size) :
    Calls Try.prog 68 #[jac p a n c b n d] w fun e w' => ∃ B, e = .returned (rclo B) ∧ w.heap.size ≤ B ∧ RInv z ze B w0 w' p a n c b d 0 [1] (linM p (xs.getD 0 0)) ∧ Below w.heap.size w w' := by
  obtain ⟨b1, o1, rfl, hw1, hc1⟩ := hs.at (by omega)
  have hbx := bl1 w (.cells #[.int .i64 p, .slice (some ⟨b1, o1, none⟩) n c, .slice b n d] 45)
  have e1 : (w.alloc (.cells #[.int .i64 p, .slice (some ⟨b1, o1, none⟩) n c, .slice b n d] 45)).cell? ⟨b1, o1, none⟩ = some (.int .i64 (xs.getD 0 0)) := cell_al (cell_be hb (hc1 0 (by omega))) _
  have f0 : (w.alloc (.cells #[.int .i64 p, .slice (some ⟨b1, o1, none⟩) n c, .slice b n d] 45)).cell? ⟨w.heap.size, 0, none⟩ = some (.int .i64 p) := by simp [go_sem]
  have f1 : (w.alloc (.cells #[.int .i64 p, .slice (some ⟨b1, o1, none⟩) n c, .slice b n d] 45)).cell? ⟨w.heap.size, 1, none⟩ = some (.slice (some ⟨b1, o1, none⟩) n c) := by simp [go_sem]
  have f2 : (w.alloc (.cells #[.int .i64 p, .slice (some ⟨b1, o1, none⟩) n c, .slice b n d] 45)).cell? ⟨w.heap.size, 2, none⟩ = some (.slice b n d) := by simp [go_sem]
  have x1 := getD_rng hx hp 0
  obtain ⟨x, hxx⟩ : ∃ x, xs.getD 0 0 = x := ⟨_, rfl⟩
  rw [hxx] at e1 x1 ⊢
  have hlt : (0 : Int) < (n : Int) := by omega
  have hn0 : 0 < n := hn
  have hn1 : ¬ n = 0 := by omega
  have hs0 := hb.size
  have hsz : w.heap.size + 1 = (w.alloc (.cells #[.int .i64 p, .slice (some ⟨b1, o1, none⟩) n c, .slice b n d] 45)).heap.size := by simp
  clear hc1 hxx hs hx
  go_enter Try.func68, Try.ntmps68
  go_wp2
  generalize (w.alloc (.cells #[.int .i64 p, .slice (some ⟨b1, o1, none⟩) n c, .slice b n d] 45)) = wx at *
  have hd0 := (Below.refl wx.heap.size wx).drew
  have hd1 : Below wx.heap.size wx (wx.alloc (.cells #[.int .i64 1] 2)).drew := (bl1 wx _).drew
  have L1 : Own wx.heap.size (wx.alloc (.cells #[.int .i64 1] 2)).drew (some ⟨wx.heap.size, 0, none⟩) 1 [1] := (litOwn wx wx.heap.size (Nat.le_refl _) 1).below (Below.refl _ _).drew
  have F : ∀ w', Below wx.heap.size wx w' → w'.cell? ⟨w.heap.size, 0, none⟩ = some (.int .i64 p) ∧ w'.cell? ⟨w.heap.size, 1, none⟩ = some (.slice (some ⟨b1, o1, none⟩) n c) ∧ w'.cell? ⟨w.heap.size, 2, none⟩ = some (.slice b n d) ∧ w'.cell? ⟨b1, o1, none⟩ = some (.int .i64 x) := fun w' h => ⟨cell_be h f0, cell_be h f1, cell_be h f2, cell_be h e1⟩
  have hB0 : Below w0.heap.size w0 wx := hb.trans (hbx.mono hs0)
  go_region_held3 (fun w' => w'.cell? ⟨w.heap.size, 0, none⟩ = some (.int .i64 p) ∧ w'.cell? ⟨w.heap.size, 1, none⟩ = some (.slice (some ⟨b1, o1, none⟩) n c) ∧ w'.cell? ⟨w.heap.size, 2, none⟩ = some (.slice b n d) ∧ w'.cell? ⟨b1, o1, none⟩ = some (.int .i64 x))
    (first | exact F _ (by assumption) | exact F _ (hm3.alloc (by have := hb3.size; simp at this ⊢; omega) _))
    (first
    | (go_at_call 91; refine (linear_any p x _ hp hp2 x1.1 x1.2).mono ?_; rintro e w3 ⟨rfl, ho3, hb3⟩; have hm3 := bnext hd1 hb3)
    | (go_at_call 91; refine (linear_any p x _ hp hp2 x1.1 x1.2).mono ?_; rintro e w3 ⟨rfl, ho3, hb3⟩; have hm3 := bnext hd0 hb3)
    | (go_at_call 90
       have zz := hb3.size
       simp at zz ho3
       have K1 : Kept w0.heap.size w3.heap.size z ze w3 (some ⟨wx.heap.size, 0, none⟩) 1 [1] := ⟨wx.heap.size, w3.heap.size, by omega, Nat.le_refl _, .inl (Nat.le_refl _), .inr (by omega), OZ.of (L1.below hb3) rfl⟩
       have K2 : Kept w0.heap.size w3.heap.size z ze w3 (some ⟨wx.heap.size + 1, 0, none⟩) 2 (linM p x) := ⟨wx.heap.size + 1, w3.heap.size, by omega, Nat.le_refl _, .inl (Nat.le_refl _), .inr (by omega), OZ.of ho3 rfl⟩
       refine (recurrence_any p _ n c b d _ 1 [1] _ 2 (linM p x) z ze w0 _ (hB0.trans (hm3.mono (by omega))) K1 K2 (by omega)).mono ?_
       rintro e w4 ⟨rfl, hR, hb4⟩
       have hm4 := bnext hm3 hb4)
    | (go_at_call 90
       have zz := hm3.size
       simp at ho3
       have hx3 := bl1 w3 (.cells #[.int .i64 1] 2)
       have hz3 : (w3.alloc (.cells #[.int .i64 1] 2)).heap.size = w3.heap.size + 1 := by simp
       have K1 : Kept w0.heap.size (w3.alloc (.cells #[.int .i64 1] 2)).heap.size z ze (w3.alloc (.cells #[.int .i64 1] 2)) (some ⟨w3.heap.size, 0, none⟩) 1 [1] := ⟨w3.heap.size, (w3.alloc (.cells #[.int .i64 1] 2)).heap.size, by omega, Nat.le_refl _, .inl (Nat.le_refl _), .inr (by omega), OZ.of (litOwn w3 w3.heap.size (Nat.le_refl _) 1) rfl⟩
       have K2 : Kept w0.heap.size (w3.alloc (.cells #[.int .i64 1] 2)).heap.size z ze (w3.alloc (.cells #[.int .i64 1] 2)) (some ⟨wx.heap.size, 0, none⟩) 2 (linM p x) := ⟨wx.heap.size, (w3.alloc (.cells #[.int .i64 1] 2)).heap.size, by omega, Nat.le_refl _, .inl (Nat.le_refl _), .inr (by omega), OZ.of (ho3.below hx3) rfl⟩
       refine (recurrence_any p _ n c b d _ 1 [1] _ 2 (linM p x) z ze w0 _ (hB0.trans ((bnext hm3 hx3).mono (by omega))) K1 K2 (by omega)).mono ?_
       rintro e w4 ⟨rfl, hR, hb4⟩
       have hm4 := bnext (bnext hm3 hx3) hb4))
  all_goals
    go_wp2
    go_ret
    exact ⟨_, rfl, by (have := hm3.size; simp at *; omega), (by first | exact hR | simpa using hR), hbx.trans (hm4.mono (by omega))⟩
end Go.Proofs.Ytcadiepghhnbeaa
/- Contracts: PolyOf, AssociatedOf, ValueOf, WronskiAt (program and model). -/
namespace Go.Proofs.Ytcadiepghhnbeaa
open Go.RowKit
set_option linter.unusedVariables false
set_option linter.unusedSimpArgs false

def polC (p : Int) (xs ys : List Int) (k : Int) : Int := jcd p xs ys k 0 xs.length
def polV (p : Int) (xs ys : List Int) (k : Int) : List Int := if polC p xs ys k = 0 then polJ p xs ys k.toNat else []
def secV (p : Int) (xs ys : List Int) (k : Int) : List Int := if polC p xs ys k = 0 then secJ p xs ys k.toNat else []
def vofC (p : Int) (xs ys : List Int) (k x : Int) : Int := if polC p xs ys k = 0 then (if 0 ≤ x ∧ x < p then 0 else 2) else polC p xs ys k
def vofV (p : Int) (xs ys : List Int) (k x : Int) : Int := if vofC p xs ys k x = 0 then evM p (polJ p xs ys k.toNat) x else 0
def wroC (p : Int) (xs ys : List Int) (k : Int) : Int := jcd p xs ys k 0 ((xs.length : Int) - 1)
def wroM (p : Int) (xs ys : List Int) (k : Nat) : List Int := addM p (mulM p (polJ p xs ys k) (secJ p xs ys (k + 1))) (mulM p (secJ p xs ys k) (polJ p xs ys (k + 1))) (p - 1)
def wroV (p : Int) (xs ys : List Int) (k : Int) : List Int := if wroC p xs ys k = 0 then wroM p xs ys k.toNat else []
/-- The polynomials as the closures hand them out: behind the last one it comes again. -/
def gP (p : Int) (xs ys : List Int) (n i : Nat) : List Int := polJ p xs ys (min i n)
def gS (p : Int) (xs ys : List Int) (n i : Nat) : List Int := secJ p xs ys (min i n)
theorem gP_step (p : Int) (xs ys : List Int) (n i : Nat) : gP p xs ys n (i + 2) = if i + 1 < n then stp p (xs.getD (i + 1) 0) (ys.getD (i + 1) 0) (gP p xs ys n (i + 1)) (gP p xs ys n i) else gP p xs ys n (i + 1) := by
  unfold gP
  split
  · next h => rw [Nat.min_eq_left (show i + 2 ≤ n by omega), Nat.min_eq_left (show i + 1 ≤ n by omega), Nat.min_eq_left (show i ≤ n by omega)]; exact polJ_step p xs ys i
  · next h => rw [Nat.min_eq_right (show n ≤ i + 2 by omega), Nat.min_eq_right (show n ≤ i + 1 by omega)]
theorem gS_step (p : Int) (xs ys : List Int) (n i : Nat) : gS p xs ys n (i + 2) = if i + 1 < n then stp p (xs.getD (i + 1) 0) (ys.getD (i + 1) 0) (gS p xs ys n (i + 1)) (gS p xs ys n i) else gS p xs ys n (i + 1) := by
  unfold gS
  split
  · next h => rw [Nat.min_eq_left (show i + 2 ≤ n by omega), Nat.min_eq_left (show i + 1 ≤ n by omega), Nat.min_eq_left (show i ≤ n by omega)]; exact secJ_step p xs ys i
  · next h => rw [Nat.min_eq_right (show n ≤ i + 2 by omega), Nat.min_eq_right (show n ≤ i + 1 by omega)]
theorem Small.up {p : Int} {m m' : Nat} {f : List Int} (h : Small p m f) (hm : m ≤ m') : Small p m' f := ⟨h.1, Nat.le_trans h.2 hm⟩
theorem gP_small {p : Int} (hp : 2 ≤ p) (xs ys : List Int) (n i : Nat) (hn : n ≤ 12) : Small p 24 (gP p xs ys n i) := (polJ_small hp xs ys (min i n) (by omega)).up (by omega)
theorem gS_small {p : Int} (hp : 2 ≤ p) (xs ys : List Int) (n i : Nat) (hn : n ≤ 12) : Small p 24 (gS p xs ys n i) := (secJ_small hp xs ys (min i n) (by omega)).up (by omega)
theorem gP_one {p : Int} (hp : 2 ≤ p) (xs ys : List Int) (n : Nat) (hn : 1 ≤ n) : gP p xs ys n 1 = linM p (xs.getD 0 0) := by
  unfold gP
  rw [Nat.min_eq_left hn]
  exact polJ_one hp xs ys
theorem gS_one (p : Int) (xs ys : List Int) (n : Nat) (hn : 1 ≤ n) : gS p xs ys n 1 = [1] := by
  unfold gS
  rw [Nat.min_eq_left hn]
  rfl
/-- A kept list as the result of a call. -/
theorem Kept.res {B z ze : Nat} {w w' : World} {a : Option Addr} {c : Nat} {f : List Int} (h : Kept w.heap.size B z ze w' a c f) : OZ w.heap.size w'.heap.size w' a f.length c f := by
  obtain ⟨l, hh, h1, h2, _, _, h5⟩ := h
  exact h5.mono h1 h2
theorem gP_zero (p : Int) (xs ys : List Int) (n : Nat) : gP p xs ys n 0 = [1] := by unfold gP; rw [Nat.zero_min]; rfl
theorem gS_zero (p : Int) (xs ys : List Int) (n : Nat) : gS p xs ys n 0 = [] := by unfold gS; rw [Nat.zero_min]; rfl
theorem gP_le {p : Int} {xs ys : List Int} {n k : Nat} (h : k ≤ n) : gP p xs ys n k = polJ p xs ys k := by unfold gP; rw [Nat.min_eq_left h]
theorem gS_le {p : Int} {xs ys : List Int} {n k : Nat} (h : k ≤ n) : gS p xs ys n k = secJ p xs ys k := by unfold gS; rw [Nat.min_eq_left h]
section
variable {z ze B : Nat} {w0 w : World} {p : Int} {a : Option Addr} {n c : Nat} {b : Option Addr} {d : Nat} {xs ys : List Int}
theorem RInv.polys (h : RInv z ze B w0 w p a n c b d 0 [1] (linM p (xs.getD 0 0))) (hp : 2 ≤ p) (hn : 1 ≤ n) : RInv z ze B w0 w p a n c b d 0 (gP p xs ys n 0) (gP p xs ys n 1) := by
  rw [gP_zero, gP_one hp xs ys n hn]
  exact h
theorem RInv.seconds (h : RInv z ze B w0 w p a n c b d 0 [] [1]) (hn : 1 ≤ n) : RInv z ze B w0 w p a n c b d 0 (gS p xs ys n 0) (gS p xs ys n 1) := by
  rw [gS_zero, gS_one p xs ys n hn]
  exact h
end
end Go.Proofs.Ytcadiepghhnbeaa
