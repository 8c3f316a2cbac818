/- Merged texts. -/
import Derived.Test.YtpoabedlcljibaaYW133
import Derived.Test.YtpoabedlcljibaaYW111
import Derived.Test.YtpoabedlcljibaaYW122
import Derived.Deep.DeepFit
import Derived.Test.YtpoabedlcljibaaYW11
/- Contracts: ProductMoments (program and model). -/
namespace Go.Proofs.Ytpoabedlcljibaa
open Go.RowKit
set_option linter.unusedVariables false
set_option linter.unusedSimpArgs false

def prmV (p : Int) (xs f : List Int) : List Int := if fnC p xs f = 0 then prodM p f xs (xs.length + 1 - max f.length 1) else []
def prmP (p : Int) (xs f : List Int) : Int := if fnC p xs f = 0 then p else 0
def prmC (p : Int) (xs f : List Int) : Int := fnC p xs f
theorem funF_dot (p : Int) (f xs : List Int) (n : Nat) : ∀ i, (i = 0 ∨ i + n ≤ xs.length + 1) → funF p f (fun i => (xs.drop i).take n) (tab n (fun _ => 0)) i = tab n (fun j => dotK p f xs j i) := by
  intro i
  induction i with
  | zero => intro _; rfl
  | succ i ih =>
    intro h
    rw [funF, ih (by omega), addlM_dot p f xs n i (by omega)]
theorem own_lit0'' (w : World) (q : Nat) (hq : q = w.heap.size) (B : Nat) (hB : B ≤ q) : Own B (w.alloc (.cells #[] 2)) (some ⟨q, 0, none⟩) 0 [] := by
  subst hq
  have h : Own w.heap.size (w.alloc (.cells #[] 2)) (some ⟨w.heap.size, 0, none⟩) 0 [] := World.ownsRow_lit w (base := w.heap.size) (e := 2) (size := 1) #[] 0 (Nat.le_refl _) (by decide) rfl
  exact h.mono hB
theorem mk_own (W : World) (n : Nat) (hn : n ≤ 1000) : Own W.heap.size (W.alloc (.cells (zrow n) 2)) (some ⟨W.heap.size, 0, none⟩) n (tab n (fun _ => 0)) := by
  have h := (zrow_row W n).own' (Nat.le_refl _) (by rw [tab_len]; unfold maxLen; omega)
  rwa [tab_len] at h
theorem mk_ownD (W v : World) (n : Nat) (hn : n ≤ 1000) (h : Below (W.alloc (.cells (zrow n) 2)).drew.heap.size (W.alloc (.cells (zrow n) 2)).drew v) : Own W.heap.size v (some ⟨W.heap.size, 0, none⟩) n (tab n (fun _ => 0)) :=
  ((mk_own W n hn).below ((Below.refl _ _).drew)).below h
theorem areB_win {p : Int} {xs : List Int} (h : areB p xs = true) (hp : 2 ≤ p) (i n : Nat) : areB p ((xs.drop i).take n) = true := areB_mk fun j hj => by
  have e : ((xs.drop i).take n).getD j 0 = xs.getD (i + j) 0 := by
    simp at hj
    have hij : i + j < xs.length := by omega
    simp [List.getElem?_take, hj, hij]
  rw [e]
  exact getD_rng h hp _
end Go.Proofs.Ytpoabedlcljibaa
/- Contracts: checkPolyOfMoments, IsOrthogonal (program and model). -/
namespace Go.Proofs.Ytpoabedlcljibaa
open Go.RowKit
set_option linter.unusedVariables false
set_option linter.unusedSimpArgs false

theorem ret_b2 {a c : Bool} {b d : Int} (h : a = c) (h' : b = d) : Ending.returned (.tuple #[.bool a, .int .i64 b]) = .returned (.tuple #[.bool c, .int .i64 d]) := by rw [h, h']
def pomC (p : Int) (xs f : List Int) : Int := if momB p xs then (if polyB p f then 0 else 1) else 1
def iorC (p : Int) (xs f : List Int) (k : Int) : Int :=
  if pomC p xs f = 0 then (if 0 ≤ k ∧ k ≤ 12 then (if f.length = 0 ∨ k = 0 then 0 else if (f.length : Int) + k - 1 ≤ xs.length then 0 else 5) else 2) else 1
def iorV (p : Int) (xs f : List Int) (k : Int) : Bool := decide (iorC p xs f k = 0) && (List.range k.toNat).all (fun i => dotK p f xs i f.length == 0)
theorem iorV_bad {p : Int} {xs f : List Int} {k : Int} (h : iorC p xs f k ≠ 0) : iorV p xs f k = false := by simp [iorV, h]
theorem iorV_t {p : Int} {xs f : List Int} {k : Int} (h : iorC p xs f k = 0) (h2 : ∀ i, i < k.toNat → dotK p f xs i f.length = 0) : iorV p xs f k = true := by
  simp only [iorV, h, decide_true, Bool.true_and, List.all_eq_true, List.mem_range, beq_iff_eq]
  exact h2
theorem iorV_f {p : Int} {xs f : List Int} {k : Int} (i : Nat) (hi : i < k.toNat) (h2 : dotK p f xs i f.length ≠ 0) : iorV p xs f k = false := by
  cases e : iorV p xs f k with
  | false => rfl
  | true =>
    unfold iorV at e
    simp only [Bool.and_eq_true, List.all_eq_true, List.mem_range, beq_iff_eq] at e
    exact absurd (e.2 i hi) h2
theorem trimN_nil (xs : List Int) : ∀ k, trimN xs k = 0 ↔ ∀ i, i < k → xs.getD i 0 = 0 := by
  intro k
  induction k with
  | zero => simp [trimN]
  | succ k ih =>
    rw [trimN]
    by_cases h : xs.getD k 0 = 0
    · rw [if_pos h, ih]
      constructor
      · intro h2 i hi
        by_cases e : i = k
        · rw [e]; exact h
        · exact h2 i (by omega)
      · intro h2 i hi
        exact h2 i (by omega)
    · rw [if_neg h]
      constructor
      · intro h2; omega
      · intro h2; exact absurd (h2 k (by omega)) h
theorem pomC_cases (p : Int) (xs f : List Int) : pomC p xs f = 1 ∨ (pomC p xs f = 0 ∧ momB p xs = true ∧ polyB p f = true) := by
  unfold pomC
  cases momB p xs <;> cases polyB p f <;> simp
end Go.Proofs.Ytpoabedlcljibaa
