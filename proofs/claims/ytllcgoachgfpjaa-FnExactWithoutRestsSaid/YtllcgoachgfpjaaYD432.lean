/- Merged texts. -/
import Derived.Test.YtllcgoachgfpjaaYD431
import Derived.Test.YtllcgoachgfpjaaYD430
import Derived.Test.YtllcgoachgfpjaaYD421
import Derived.Test.YtllcgoachgfpjaaYD422
import Derived.Test.YtllcgoachgfpjaaYD423
import Derived.Test.YtllcgoachgfpjaaYD418
import Derived.Handy
/- ruleOf (program) at moved rules. -/
namespace Go.Proofs.Ytllcgoachgfpjaa
open Go.RowKit Go.Sort
set_option linter.unusedVariables false
set_option linter.unusedSimpArgs false

theorem JZ_of {lo hi : Nat} {w : World} {a : Option Addr} {n c : Nat} {xs : List Int} {b : Option Addr} {m d : Nat} {ys : List Int} (h1 : OZ lo hi w a n c xs) (h2 : OZ lo hi w b m d ys) (hd : ∀ g, blk a = some g → blk b ≠ some g) : JZ lo hi w a n c xs b m d ys := by
  refine ⟨h1, h2, ?_⟩
  obtain ⟨_, _, h3⟩ := h1.1
  rcases h3 with h3 | ⟨g, o, rfl, _⟩
  · exact .inl h3
  · exact .inr (.inr fun e => hd g rfl e.symm)
/-- A rule as a result: nodes and weights in new memory. -/
def ResU (w : World) (p : Int) (R : List (Int × Int)) (e : Ending) (w' : World) : Prop :=
  ∃ a c b d, e = .returned (jac p a R.length c b R.length d) ∧ JZ w.heap.size w'.heap.size w' a R.length c (nodesR R) b R.length d (wtsR R) ∧ Below w.heap.size w w'
end Go.Proofs.Ytllcgoachgfpjaa
/- Contracts: MoveRule (program). -/
namespace Go.Proofs.Ytllcgoachgfpjaa
open Go.RowKit Go.Sort
set_option linter.unusedVariables false
set_option linter.unusedSimpArgs false

def mvrR (p : Int) (xs ys : List Int) (a b : Int) : List (Int × Int) := putsR p [] (movW p a b (zipW xs ys))
def mvrC (p : Int) (xs ys : List Int) (a b : Int) : Int := if rulB p xs ys then (if (1 ≤ a ∧ a < p) ∧ 0 ≤ b ∧ b < p then 0 else 2) else 1
def mvrP (p : Int) (xs ys : List Int) (a b : Int) : Int := if mvrC p xs ys a b = 0 then p else 0
def mvrV (p : Int) (xs ys : List Int) (a b : Int) : List Int := if mvrC p xs ys a b = 0 then nodesR (mvrR p xs ys a b) else []
def mvrU (p : Int) (xs ys : List Int) (a b : Int) : List Int := if mvrC p xs ys a b = 0 then wtsR (mvrR p xs ys a b) else []
theorem mvr_err {p : Int} {xs ys : List Int} {a b e : Int} (h : mvrC p xs ys a b = e) (he : e ≠ 0) : mvrP p xs ys a b = 0 ∧ mvrV p xs ys a b = [] ∧ mvrU p xs ys a b = [] := by
  have : mvrC p xs ys a b ≠ 0 := by rw [h]; exact he
  exact ⟨if_neg this, if_neg this, if_neg this⟩
theorem zipW_wts {p : Int} {xs ys : List Int} (hp : 2 ≤ p) (h : areB p ys = true) : ∀ e ∈ zipW xs ys, 0 ≤ e.2 ∧ e.2 < p := by
  intro e he
  obtain ⟨i, hi, rfl⟩ := List.getElem_of_mem he
  rw [zipW_len] at hi
  have := zipW_at xs ys i hi
  rw [List.getD, List.getElem?_eq_getElem (by rw [zipW_len]; exact hi)] at this
  simp only [Option.getD_some] at this
  rw [this]
  exact getD_rng h hp i
theorem movW_len (p A B : Int) (L : List (Int × Int)) : (movW p A B L).length = L.length := mvK_len _ _ _ _ _
theorem movW_at (p A B : Int) (L : List (Int × Int)) (i : Nat) (h : i < L.length) : (movW p A B L).getD i (0, 0) = ((B + A * (L.getD i (0, 0)).1) % p, (L.getD i (0, 0)).2) := by
  unfold movW; rw [mvK_at _ _ _ _ _ _ h, if_pos h]
theorem movW_wts {p A B : Int} {L : List (Int × Int)} (h : ∀ e ∈ L, 0 ≤ e.2 ∧ e.2 < p) : ∀ e ∈ movW p A B L, 0 ≤ e.2 ∧ e.2 < p := by
  intro e he
  obtain ⟨i, hi, rfl⟩ := List.getElem_of_mem he
  rw [movW_len] at hi
  have := movW_at p A B L i hi
  rw [List.getD, List.getElem?_eq_getElem (by rw [movW_len]; exact hi)] at this
  simp only [Option.getD_some] at this
  have hm : L.getD i (0, 0) ∈ L := by rw [List.getD, List.getElem?_eq_getElem hi]; exact List.getElem_mem _
  rw [this]
  exact h (L.getD i (0, 0)) hm
theorem putR_len (p : Int) (r : List (Int × Int)) (x v : Int) : (putR p r x v).length ≤ r.length + 1 := by
  induction r with
  | nil => simp [putR]
  | cons e l ih =>
    unfold putR
    split
    · simp; omega
    · split <;> simp
theorem putsR_len (p : Int) (l : List (Int × Int)) : ∀ r, (putsR p r l).length ≤ r.length + l.length := by
  induction l with
  | nil => intro r; simp [putsR]
  | cons e l ih =>
    intro r
    have := ih (putR p r e.1 e.2)
    have h2 := putR_len p r e.1 e.2
    show (putsR p (putR p r e.1 e.2) l).length ≤ _
    simp
    omega
end Go.Proofs.Ytllcgoachgfpjaa
