/- Contracts: ReverseJacobi (program and model). -/
import Derived.Test.YtgaafhcnfeipbaaRv
import Derived.Test.YtgaafhcnfeipbaaAx
namespace Go.Proofs.Ytgaafhcnfeipbaa
open Go.RowKit
set_option linter.unusedVariables false
set_option linter.unusedSimpArgs false

def rvA (n : Nat) (xs : List Int) : List Int := tab n (fun j => xs.getD (n - 1 - j) 0)
def rvG (n : Nat) (ys : List Int) : Nat → Int := fun j => if 1 ≤ j then ys.getD (n - j) 0 else ys.getD j 0
def rvB (n : Nat) (ys : List Int) : List Int := tab n (rvG n ys)
def revC (p : Int) (xs ys : List Int) : Int := if jacB p xs ys then 0 else 1
def revP (p : Int) (xs ys : List Int) : Int := if revC p xs ys = 0 then p else 0
def revV (p : Int) (xs ys : List Int) : List Int := if revC p xs ys = 0 then rvA xs.length xs else []
def revU (p : Int) (xs ys : List Int) : List Int := if revC p xs ys = 0 then rvB xs.length ys else []
theorem rvA_of (n : Nat) (xs : List Int) : tab (0 + n) (fun j => if 0 ≤ j then xs.getD (0 + (0 + n - 1 - j)) 0 else xs.getD j 0) = rvA n xs := by
  unfold rvA
  rw [Nat.zero_add]
  apply tab_congr
  intro j hj
  rw [if_pos (by omega)]
  congr 1; omega
theorem rvB_of (n : Nat) (ys : List Int) (hn : 1 ≤ n) : tab (1 + (n - 1)) (fun j => if 1 ≤ j then ys.getD (1 + (1 + (n - 1) - 1 - j)) 0 else ys.getD j 0) = rvB n ys := by
  unfold rvB
  rw [show 1 + (n - 1) = n by omega]
  apply tab_congr
  intro j hj
  unfold rvG
  by_cases h : 1 ≤ j
  · rw [if_pos h, if_pos h]
    congr 1; omega
  · rw [if_neg h, if_neg h]
theorem rvB_one (ys : List Int) : rvB 1 ys = tab 1 (fun j => ys.getD j 0) := by
  unfold rvB
  apply tab_congr
  intro j hj
  unfold rvG
  rw [if_neg (by omega)]
theorem own_lit0 (w : World) : Own w.heap.size (w.alloc (.cells #[] 2)) (some ⟨w.heap.size, 0, none⟩) 0 [] :=
  World.ownsRow_lit w (base := w.heap.size) (e := 2) (size := 1) #[] 0 (Nat.le_refl _) (by decide) rfl
theorem own_lit0' (w : World) (q : Nat) (hq : q = w.heap.size) (B : Nat) (hB : B ≤ q) : Own B (w.alloc (.cells #[] 2)) (some ⟨q, 0, none⟩) 0 [] := by subst hq; exact (own_lit0 w).mono hB
theorem own_lit1 (w : World) (v : Int) : Own w.heap.size (w.alloc (.cells #[.int .i64 v] 2)) (some ⟨w.heap.size, 0, none⟩) 1 [v] :=
  World.ownsRow_lit w (base := w.heap.size) (e := 2) (size := 1) #[.int .i64 v] 1 (Nat.le_refl _) (by first | decide | simp) rfl
theorem own_lit1' (w : World) (v : Int) (q : Nat) (hq : q = w.heap.size) (B : Nat) (hB : B ≤ q) : Own B (w.alloc (.cells #[.int .i64 v] 2)) (some ⟨q, 0, none⟩) 1 [v] := by subst hq; exact (own_lit1 w v).mono hB
end Go.Proofs.Ytgaafhcnfeipbaa
