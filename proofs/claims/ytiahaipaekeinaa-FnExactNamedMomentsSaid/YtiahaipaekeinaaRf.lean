/- Contracts: PolyOf, AssociatedOf, ValueOf, WronskiAt (program and model). -/
import Derived.Test.YtiahaipaekeinaaRe
import Derived.Test.YtiahaipaekeinaaVa
namespace Go.Proofs.Ytiahaipaekeinaa
open Go.RowKit
set_option linter.unusedVariables false
set_option linter.unusedSimpArgs false

def polC (p : Int) (xs ys : List Int) (k : Int) : Int := jcd p xs ys k 0 xs.length
def polV (p : Int) (xs ys : List Int) (k : Int) : List Int := if polC p xs ys k = 0 then polJ p xs ys k.toNat else []
def secV (p : Int) (xs ys : List Int) (k : Int) : List Int := if polC p xs ys k = 0 then secJ p xs ys k.toNat else []
def vofC (p : Int) (xs ys : List Int) (k x : Int) : Int := if polC p xs ys k = 0 then (if 0 ≤ x ∧ x < p then 0 else 2) else polC p xs ys k
def vofV (p : Int) (xs ys : List Int) (k x : Int) : Int := if vofC p xs ys k x = 0 then evM p (polJ p xs ys k.toNat) x else 0
def wroC (p : Int) (xs ys : List Int) (k : Int) : Int := jcd p xs ys k 0 ((xs.length : Int) - 1)
def wroM (p : Int) (xs ys : List Int) (k : Nat) : List Int := addM p (mulM p (polJ p xs ys k) (secJ p xs ys (k + 1))) (mulM p (secJ p xs ys k) (polJ p xs ys (k + 1))) (p - 1)
def wroV (p : Int) (xs ys : List Int) (k : Int) : List Int := if wroC p xs ys k = 0 then wroM p xs ys k.toNat else []
/-- The polynomials as the closures hand them out: behind the last one it comes again. -/
def gP (p : Int) (xs ys : List Int) (n i : Nat) : List Int := polJ p xs ys (min i n)
def gS (p : Int) (xs ys : List Int) (n i : Nat) : List Int := secJ p xs ys (min i n)
theorem gP_step (p : Int) (xs ys : List Int) (n i : Nat) : gP p xs ys n (i + 2) = if i + 1 < n then stp p (xs.getD (i + 1) 0) (ys.getD (i + 1) 0) (gP p xs ys n (i + 1)) (gP p xs ys n i) else gP p xs ys n (i + 1) := by
  unfold gP
  split
  · next h => rw [Nat.min_eq_left (show i + 2 ≤ n by omega), Nat.min_eq_left (show i + 1 ≤ n by omega), Nat.min_eq_left (show i ≤ n by omega)]; exact polJ_step p xs ys i
  · next h => rw [Nat.min_eq_right (show n ≤ i + 2 by omega), Nat.min_eq_right (show n ≤ i + 1 by omega)]
theorem gS_step (p : Int) (xs ys : List Int) (n i : Nat) : gS p xs ys n (i + 2) = if i + 1 < n then stp p (xs.getD (i + 1) 0) (ys.getD (i + 1) 0) (gS p xs ys n (i + 1)) (gS p xs ys n i) else gS p xs ys n (i + 1) := by
  unfold gS
  split
  · next h => rw [Nat.min_eq_left (show i + 2 ≤ n by omega), Nat.min_eq_left (show i + 1 ≤ n by omega), Nat.min_eq_left (show i ≤ n by omega)]; exact secJ_step p xs ys i
  · next h => rw [Nat.min_eq_right (show n ≤ i + 2 by omega), Nat.min_eq_right (show n ≤ i + 1 by omega)]
theorem Small.up {p : Int} {m m' : Nat} {f : List Int} (h : Small p m f) (hm : m ≤ m') : Small p m' f := ⟨h.1, Nat.le_trans h.2 hm⟩
theorem gP_small {p : Int} (hp : 2 ≤ p) (xs ys : List Int) (n i : Nat) (hn : n ≤ 12) : Small p 24 (gP p xs ys n i) := (polJ_small hp xs ys (min i n) (by omega)).up (by omega)
theorem gS_small {p : Int} (hp : 2 ≤ p) (xs ys : List Int) (n i : Nat) (hn : n ≤ 12) : Small p 24 (gS p xs ys n i) := (secJ_small hp xs ys (min i n) (by omega)).up (by omega)
theorem gP_one {p : Int} (hp : 2 ≤ p) (xs ys : List Int) (n : Nat) (hn : 1 ≤ n) : gP p xs ys n 1 = linM p (xs.getD 0 0) := by
  unfold gP
  rw [Nat.min_eq_left hn]
  exact polJ_one hp xs ys
theorem gS_one (p : Int) (xs ys : List Int) (n : Nat) (hn : 1 ≤ n) : gS p xs ys n 1 = [1] := by
  unfold gS
  rw [Nat.min_eq_left hn]
  rfl
/-- A kept list as the result of a call. -/
theorem Kept.res {B z ze : Nat} {w w' : World} {a : Option Addr} {c : Nat} {f : List Int} (h : Kept w.heap.size B z ze w' a c f) : OZ w.heap.size w'.heap.size w' a f.length c f := by
  obtain ⟨l, hh, h1, h2, _, _, h5⟩ := h
  exact h5.mono h1 h2
theorem gP_zero (p : Int) (xs ys : List Int) (n : Nat) : gP p xs ys n 0 = [1] := by unfold gP; rw [Nat.zero_min]; rfl
theorem gS_zero (p : Int) (xs ys : List Int) (n : Nat) : gS p xs ys n 0 = [] := by unfold gS; rw [Nat.zero_min]; rfl
theorem gP_le {p : Int} {xs ys : List Int} {n k : Nat} (h : k ≤ n) : gP p xs ys n k = polJ p xs ys k := by unfold gP; rw [Nat.min_eq_left h]
theorem gS_le {p : Int} {xs ys : List Int} {n k : Nat} (h : k ≤ n) : gS p xs ys n k = secJ p xs ys k := by unfold gS; rw [Nat.min_eq_left h]
section
variable {z ze B : Nat} {w0 w : World} {p : Int} {a : Option Addr} {n c : Nat} {b : Option Addr} {d : Nat} {xs ys : List Int}
theorem RInv.polys (h : RInv z ze B w0 w p a n c b d 0 [1] (linM p (xs.getD 0 0))) (hp : 2 ≤ p) (hn : 1 ≤ n) : RInv z ze B w0 w p a n c b d 0 (gP p xs ys n 0) (gP p xs ys n 1) := by
  rw [gP_zero, gP_one hp xs ys n hn]
  exact h
theorem RInv.seconds (h : RInv z ze B w0 w p a n c b d 0 [] [1]) (hn : 1 ≤ n) : RInv z ze B w0 w p a n c b d 0 (gS p xs ys n 0) (gS p xs ys n 1) := by
  rw [gS_zero, gS_one p xs ys n hn]
  exact h
end
end Go.Proofs.Ytiahaipaekeinaa
