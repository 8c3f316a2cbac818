/- Merged texts. -/
import Derived.Test.YtnojmghmkoojfaaYRs26
import Derived.Test.YtnojmghmkoojfaaYRs25
import Derived.Test.YtnojmghmkoojfaaYRs18
import Derived.Test.YtnojmghmkoojfaaYRs16
import Derived.Test.YtnojmghmkoojfaaYRs21
import Derived.Deep.DeepFit
/- Contracts: PolyOf, AssociatedOf, ValueOf, WronskiAt (program and model). -/
namespace Go.Proofs.Ytnojmghmkoojfaa
open Go.RowKit
set_option linter.unusedVariables false
set_option linter.unusedSimpArgs false

def polC (p : Int) (xs ys : List Int) (k : Int) : Int := jcd p xs ys k 0 xs.length
def polV (p : Int) (xs ys : List Int) (k : Int) : List Int := if polC p xs ys k = 0 then polJ p xs ys k.toNat else []
def secV (p : Int) (xs ys : List Int) (k : Int) : List Int := if polC p xs ys k = 0 then secJ p xs ys k.toNat else []
def vofC (p : Int) (xs ys : List Int) (k x : Int) : Int := if polC p xs ys k = 0 then (if 0 ≤ x ∧ x < p then 0 else 2) else polC p xs ys k
def vofV (p : Int) (xs ys : List Int) (k x : Int) : Int := if vofC p xs ys k x = 0 then evM p (polJ p xs ys k.toNat) x else 0
def wroC (p : Int) (xs ys : List Int) (k : Int) : Int := jcd p xs ys k 0 ((xs.length : Int) - 1)
def wroM (p : Int) (xs ys : List Int) (k : Nat) : List Int := addM p (mulM p (polJ p xs ys k) (secJ p xs ys (k + 1))) (mulM p (secJ p xs ys k) (polJ p xs ys (k + 1))) (p - 1)
def wroV (p : Int) (xs ys : List Int) (k : Int) : List Int := if wroC p xs ys k = 0 then wroM p xs ys k.toNat else []
/-- The polynomials as the closures hand them out: behind the last one it comes again. -/
def gP (p : Int) (xs ys : List Int) (n i : Nat) : List Int := polJ p xs ys (min i n)
def gS (p : Int) (xs ys : List Int) (n i : Nat) : List Int := secJ p xs ys (min i n)
theorem gP_step (p : Int) (xs ys : List Int) (n i : Nat) : gP p xs ys n (i + 2) = if i + 1 < n then stp p (xs.getD (i + 1) 0) (ys.getD (i + 1) 0) (gP p xs ys n (i + 1)) (gP p xs ys n i) else gP p xs ys n (i + 1) := by
  unfold gP
  split
  · next h => rw [Nat.min_eq_left (show i + 2 ≤ n by omega), Nat.min_eq_left (show i + 1 ≤ n by omega), Nat.min_eq_left (show i ≤ n by omega)]; exact polJ_step p xs ys i
  · next h => rw [Nat.min_eq_right (show n ≤ i + 2 by omega), Nat.min_eq_right (show n ≤ i + 1 by omega)]
theorem gS_step (p : Int) (xs ys : List Int) (n i : Nat) : gS p xs ys n (i + 2) = if i + 1 < n then stp p (xs.getD (i + 1) 0) (ys.getD (i + 1) 0) (gS p xs ys n (i + 1)) (gS p xs ys n i) else gS p xs ys n (i + 1) := by
  unfold gS
  split
  · next h => rw [Nat.min_eq_left (show i + 2 ≤ n by omega), Nat.min_eq_left (show i + 1 ≤ n by omega), Nat.min_eq_left (show i ≤ n by omega)]; exact secJ_step p xs ys i
  · next h => rw [Nat.min_eq_right (show n ≤ i + 2 by omega), Nat.min_eq_right (show n ≤ i + 1 by omega)]
theorem Small.up {p : Int} {m m' : Nat} {f : List Int} (h : Small p m f) (hm : m ≤ m') : Small p m' f := ⟨h.1, Nat.le_trans h.2 hm⟩
theorem gP_small {p : Int} (hp : 2 ≤ p) (xs ys : List Int) (n i : Nat) (hn : n ≤ 12) : Small p 24 (gP p xs ys n i) := (polJ_small hp xs ys (min i n) (by omega)).up (by omega)
theorem gS_small {p : Int} (hp : 2 ≤ p) (xs ys : List Int) (n i : Nat) (hn : n ≤ 12) : Small p 24 (gS p xs ys n i) := (secJ_small hp xs ys (min i n) (by omega)).up (by omega)
theorem gP_one {p : Int} (hp : 2 ≤ p) (xs ys : List Int) (n : Nat) (hn : 1 ≤ n) : gP p xs ys n 1 = linM p (xs.getD 0 0) := by
  unfold gP
  rw [Nat.min_eq_left hn]
  exact polJ_one hp xs ys
theorem gS_one (p : Int) (xs ys : List Int) (n : Nat) (hn : 1 ≤ n) : gS p xs ys n 1 = [1] := by
  unfold gS
  rw [Nat.min_eq_left hn]
  rfl
/-- A kept list as the result of a call. -/
theorem Kept.res {B z ze : Nat} {w w' : World} {a : Option Addr} {c : Nat} {f : List Int} (h : Kept w.heap.size B z ze w' a c f) : OZ w.heap.size w'.heap.size w' a f.length c f := by
  obtain ⟨l, hh, h1, h2, _, _, h5⟩ := h
  exact h5.mono h1 h2
theorem gP_zero (p : Int) (xs ys : List Int) (n : Nat) : gP p xs ys n 0 = [1] := by unfold gP; rw [Nat.zero_min]; rfl
theorem gS_zero (p : Int) (xs ys : List Int) (n : Nat) : gS p xs ys n 0 = [] := by unfold gS; rw [Nat.zero_min]; rfl
theorem gP_le {p : Int} {xs ys : List Int} {n k : Nat} (h : k ≤ n) : gP p xs ys n k = polJ p xs ys k := by unfold gP; rw [Nat.min_eq_left h]
theorem gS_le {p : Int} {xs ys : List Int} {n k : Nat} (h : k ≤ n) : gS p xs ys n k = secJ p xs ys k := by unfold gS; rw [Nat.min_eq_left h]
section
variable {z ze B : Nat} {w0 w : World} {p : Int} {a : Option Addr} {n c : Nat} {b : Option Addr} {d : Nat} {xs ys : List Int}
theorem RInv.polys (h : RInv z ze B w0 w p a n c b d 0 [1] (linM p (xs.getD 0 0))) (hp : 2 ≤ p) (hn : 1 ≤ n) : RInv z ze B w0 w p a n c b d 0 (gP p xs ys n 0) (gP p xs ys n 1) := by
  rw [gP_zero, gP_one hp xs ys n hn]
  exact h
theorem RInv.seconds (h : RInv z ze B w0 w p a n c b d 0 [] [1]) (hn : 1 ≤ n) : RInv z ze B w0 w p a n c b d 0 (gS p xs ys n 0) (gS p xs ys n 1) := by
  rw [gS_zero, gS_one p xs ys n hn]
  exact h
end
end Go.Proofs.Ytnojmghmkoojfaa
/- Contracts: AffineJacobi (program and model). -/
namespace Go.Proofs.Ytnojmghmkoojfaa
open Go.RowKit
set_option linter.unusedVariables false
set_option linter.unusedSimpArgs false

def afA (p a c : Int) (xs : List Int) (m : Nat) : Nat → Int := fun j => if j < m then (a * xs.getD j 0 + c) % p else xs.getD j 0
def afB (p a : Int) (ys : List Int) (m : Nat) : Nat → Int := fun j => if 0 < j ∧ j < m then a * a % p * ys.getD j 0 % p else ys.getD j 0
theorem afA_step (p a c : Int) (xs : List Int) (N m : Nat) : (tab N (afA p a c xs m)).set m ((a * xs.getD m 0 + c) % p) = tab N (afA p a c xs (m + 1)) := by
  rw [tab_set]
  apply tab_congr
  intro j _
  unfold afA
  by_cases e : j = m
  · subst e; simp
  · rw [if_neg e]
    by_cases h : j < m
    · rw [if_pos h, if_pos (by omega)]
    · rw [if_neg h, if_neg (by omega)]
theorem afB_step (p a : Int) (ys : List Int) (N m : Nat) (hm : 0 < m) : (tab N (afB p a ys m)).set m (a * a % p * ys.getD m 0 % p) = tab N (afB p a ys (m + 1)) := by
  rw [tab_set]
  apply tab_congr
  intro j _
  unfold afB
  by_cases e : j = m
  · subst e; simp [hm]
  · rw [if_neg e]
    by_cases h : 0 < j ∧ j < m
    · rw [if_pos h, if_pos (by omega)]
    · rw [if_neg h, if_neg (by omega)]
theorem afB_one (p a : Int) (ys : List Int) (N : Nat) : tab N (afB p a ys 0) = tab N (afB p a ys 1) := by
  apply tab_congr
  intro j _
  unfold afB
  rw [if_neg (by omega), if_neg (by omega)]
theorem afA_zero (p a c : Int) (xs : List Int) (N : Nat) (h : xs.length = N) : tab N (afA p a c xs 0) = xs := by
  conv => rhs; rw [tab_of xs N h]
  apply tab_congr
  intro j _
  unfold afA
  rw [if_neg (by omega)]
theorem afB_zero (p a : Int) (ys : List Int) (N : Nat) (h : ys.length = N) : tab N (afB p a ys 0) = ys := by
  conv => rhs; rw [tab_of ys N h]
  apply tab_congr
  intro j _
  unfold afB
  rw [if_neg (by omega)]
def affC (p : Int) (xs ys : List Int) (a c : Int) : Int := if jacB p xs ys then (if (1 ≤ a ∧ a < p) ∧ (0 ≤ c ∧ c < p) then 0 else 2) else 1
def affP (p : Int) (xs ys : List Int) (a c : Int) : Int := if affC p xs ys a c = 0 then p else 0
def affV (p : Int) (xs ys : List Int) (a c : Int) : List Int := if affC p xs ys a c = 0 then tab xs.length (afA p a c xs xs.length) else []
def affU (p : Int) (xs ys : List Int) (a c : Int) : List Int := if affC p xs ys a c = 0 then tab xs.length (afB p a ys xs.length) else []
/-- Two rows of the call's own, apart from each other. -/
theorem JZ.rows {lo hi : Nat} {w : World} {a : Option Addr} {n c : Nat} {xs : List Int} {b : Option Addr} {m d : Nat} {ys : List Int} (h : JZ lo hi w a n c xs b m d ys) (h1 : n ≠ 0) (h2 : m ≠ 0) :
    ∃ ga gb, a = some ⟨ga, 0, none⟩ ∧ b = some ⟨gb, 0, none⟩ ∧ ga ≠ gb ∧ lo ≤ ga ∧ ga < hi ∧ lo ≤ gb ∧ gb < hi ∧ Own lo w a c xs ∧ Own lo w b d ys := by
  have e1 := h.1.len
  have e2 := h.2.1.len
  rcases h.1.2 with h0 | ⟨o1, g1, k1, q1⟩
  · exact absurd h0 h1
  rcases h.2.1.2 with h0 | ⟨o2, g2, k2, q2⟩
  · exact absurd h0 h2
  obtain ⟨ga, ra, x1, x2, _⟩ := o1.blkG (by omega)
  obtain ⟨gb, rb, y1, y2, _⟩ := o2.blkG (by omega)
  subst ra
  subst rb
  cases k1
  cases k2
  refine ⟨ga, gb, rfl, rfl, ?_, x1, q1, y1, q2, o1, o2⟩
  rcases h.2.2 with h0 | h0 | h0
  · exact absurd h0 h1
  · exact absurd h0 h2
  · intro e
    exact h0 (by simp [blk, e])
end Go.Proofs.Ytnojmghmkoojfaa
