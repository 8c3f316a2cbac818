/- Merged texts. -/
import Derived.Test.YtpoabedlcljibaaYW118
import Derived.Test.YtpoabedlcljibaaYW12
import Derived.Test.YtpoabedlcljibaaYW126
import Derived.Test.YtpoabedlcljibaaYW124
import Derived.Deep.AppendLies
import Derived.Deep.RegionHeld3
import Derived.Deep.DrawnRows
import Derived.Test.YtpoabedlcljibaaYW123
/- Contracts: addList, AddMoments (program). -/
namespace Go.Proofs.Ytpoabedlcljibaa
open Go.RowKit
set_option linter.unusedVariables false
set_option linter.unusedSimpArgs false

/-- The first m numbers of a sum. -/
def alH (p k : Int) (xs ys : List Int) (m : Nat) : Nat → Int := fun j => if j < m then (xs.getD j 0 + k * ys.getD j 0) % p else 0
theorem alH_step (p k : Int) (xs ys : List Int) (N m : Nat) : (tab N (alH p k xs ys m)).set m ((xs.getD m 0 + k * ys.getD m 0) % p) = tab N (alH p k xs ys (m + 1)) := by
  rw [tab_set]
  apply tab_congr
  intro j _
  unfold alH
  by_cases e : j = m
  · subst e; simp
  · rw [if_neg e]
    by_cases h : j < m
    · rw [if_pos h, if_pos (by omega)]
    · rw [if_neg h, if_neg (by omega)]
theorem alH_all (p k : Int) (xs ys : List Int) (N : Nat) (h : xs.length = N) : tab N (alH p k xs ys N) = addlM p k xs ys := by
  unfold addlM
  rw [h]
  apply tab_congr
  intro j hj
  unfold alH
  rw [if_pos hj]
theorem addlM_nil (p k : Int) (ys : List Int) : addlM p k [] ys = [] := rfl
def adC (p : Int) (xs : List Int) (q : Int) (ys : List Int) (k : Int) : Int := if momB p xs && momB q ys then (if p = q ∧ xs.length = ys.length ∧ 0 ≤ k ∧ k < p then 0 else 2) else 1
def adV (p : Int) (xs : List Int) (q : Int) (ys : List Int) (k : Int) : List Int := if adC p xs q ys k = 0 then addlM p k xs ys else []
def adP (p : Int) (xs : List Int) (q : Int) (ys : List Int) (k : Int) : Int := if adC p xs q ys k = 0 then p else 0
end Go.Proofs.Ytpoabedlcljibaa
/- Contracts: ReverseJacobi (program and model). -/
namespace Go.Proofs.Ytpoabedlcljibaa
open Go.RowKit
set_option linter.unusedVariables false
set_option linter.unusedSimpArgs false

def rvA (n : Nat) (xs : List Int) : List Int := tab n (fun j => xs.getD (n - 1 - j) 0)
def rvG (n : Nat) (ys : List Int) : Nat → Int := fun j => if 1 ≤ j then ys.getD (n - j) 0 else ys.getD j 0
def rvB (n : Nat) (ys : List Int) : List Int := tab n (rvG n ys)
def revC (p : Int) (xs ys : List Int) : Int := if jacB p xs ys then 0 else 1
def revP (p : Int) (xs ys : List Int) : Int := if revC p xs ys = 0 then p else 0
def revV (p : Int) (xs ys : List Int) : List Int := if revC p xs ys = 0 then rvA xs.length xs else []
def revU (p : Int) (xs ys : List Int) : List Int := if revC p xs ys = 0 then rvB xs.length ys else []
theorem rvA_of (n : Nat) (xs : List Int) : tab (0 + n) (fun j => if 0 ≤ j then xs.getD (0 + (0 + n - 1 - j)) 0 else xs.getD j 0) = rvA n xs := by
  unfold rvA
  rw [Nat.zero_add]
  apply tab_congr
  intro j hj
  rw [if_pos (by omega)]
  congr 1; omega
theorem rvB_of (n : Nat) (ys : List Int) (hn : 1 ≤ n) : tab (1 + (n - 1)) (fun j => if 1 ≤ j then ys.getD (1 + (1 + (n - 1) - 1 - j)) 0 else ys.getD j 0) = rvB n ys := by
  unfold rvB
  rw [show 1 + (n - 1) = n by omega]
  apply tab_congr
  intro j hj
  unfold rvG
  by_cases h : 1 ≤ j
  · rw [if_pos h, if_pos h]
    congr 1; omega
  · rw [if_neg h, if_neg h]
theorem rvB_one (ys : List Int) : rvB 1 ys = tab 1 (fun j => ys.getD j 0) := by
  unfold rvB
  apply tab_congr
  intro j hj
  unfold rvG
  rw [if_neg (by omega)]
theorem own_lit0 (w : World) : Own w.heap.size (w.alloc (.cells #[] 2)) (some ⟨w.heap.size, 0, none⟩) 0 [] :=
  World.ownsRow_lit w (base := w.heap.size) (e := 2) (size := 1) #[] 0 (Nat.le_refl _) (by decide) rfl
theorem own_lit0' (w : World) (q : Nat) (hq : q = w.heap.size) (B : Nat) (hB : B ≤ q) : Own B (w.alloc (.cells #[] 2)) (some ⟨q, 0, none⟩) 0 [] := by subst hq; exact (own_lit0 w).mono hB
theorem own_lit1 (w : World) (v : Int) : Own w.heap.size (w.alloc (.cells #[.int .i64 v] 2)) (some ⟨w.heap.size, 0, none⟩) 1 [v] :=
  World.ownsRow_lit w (base := w.heap.size) (e := 2) (size := 1) #[.int .i64 v] 1 (Nat.le_refl _) (by first | decide | simp) rfl
theorem own_lit1' (w : World) (v : Int) (q : Nat) (hq : q = w.heap.size) (B : Nat) (hB : B ≤ q) : Own B (w.alloc (.cells #[.int .i64 v] 2)) (some ⟨q, 0, none⟩) 1 [v] := by subst hq; exact (own_lit1 w v).mono hB
theorem reverse_row (B g o n cap c : Nat) (h : Nat → Int) (w : World) (ho : Own B w (some ⟨g, 0, none⟩) cap (tab (o + n) h)) (hn2 : n ≤ 1000) (ho2 : o ≤ 1000) :
    Calls Try.prog 87 #[.slice (some ⟨g, o, none⟩) n c] w fun e w' => e = .returned (.tuple #[]) ∧ Own B w' (some ⟨g, 0, none⟩) cap (tab (o + n) (fun j => if o ≤ j then h (o + (o + n - 1 - j)) else h j)) ∧ Touch g (g + 1) w w' := by
  by_cases hn : 2 ≤ n
  · exact reverse_any B g o n cap c h w ho hn hn2 ho2
  · refine (reverse_small _ _ _ _ (by omega)).mono ?_
    rintro e w' ⟨rfl, rfl⟩
    refine ⟨rfl, ?_, ⟨rfl, rfl, rfl, Nat.le_refl _, fun _ _ _ => rfl⟩⟩
    have e : tab (o + n) (fun j => if o ≤ j then h (o + (o + n - 1 - j)) else h j) = tab (o + n) h := by
      apply tab_congr
      intro j hj
      by_cases h1 : o ≤ j
      · rw [if_pos h1]
        congr 1; omega
      · rw [if_neg h1]
    rw [e]
    exact ho
end Go.Proofs.Ytpoabedlcljibaa
