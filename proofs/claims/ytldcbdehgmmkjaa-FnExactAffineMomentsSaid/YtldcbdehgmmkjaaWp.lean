/- Contracts: ProductMoments (program and model). -/
import Derived.Test.YtldcbdehgmmkjaaWi
import Derived.Test.YtldcbdehgmmkjaaDs
import Derived.Test.YtldcbdehgmmkjaaRx
import Derived.Deep.DeepFit
namespace Go.Proofs.Ytldcbdehgmmkjaa
open Go.RowKit
set_option linter.unusedVariables false
set_option linter.unusedSimpArgs false

def prmV (p : Int) (xs f : List Int) : List Int := if fnC p xs f = 0 then prodM p f xs (xs.length + 1 - max f.length 1) else []
def prmP (p : Int) (xs f : List Int) : Int := if fnC p xs f = 0 then p else 0
def prmC (p : Int) (xs f : List Int) : Int := fnC p xs f
theorem funF_dot (p : Int) (f xs : List Int) (n : Nat) : ∀ i, (i = 0 ∨ i + n ≤ xs.length + 1) → funF p f (fun i => (xs.drop i).take n) (tab n (fun _ => 0)) i = tab n (fun j => dotK p f xs j i) := by
  intro i
  induction i with
  | zero => intro _; rfl
  | succ i ih =>
    intro h
    rw [funF, ih (by omega), addlM_dot p f xs n i (by omega)]
theorem own_lit0'' (w : World) (q : Nat) (hq : q = w.heap.size) (B : Nat) (hB : B ≤ q) : Own B (w.alloc (.cells #[] 2)) (some ⟨q, 0, none⟩) 0 [] := by
  subst hq
  have h : Own w.heap.size (w.alloc (.cells #[] 2)) (some ⟨w.heap.size, 0, none⟩) 0 [] := World.ownsRow_lit w (base := w.heap.size) (e := 2) (size := 1) #[] 0 (Nat.le_refl _) (by decide) rfl
  exact h.mono hB
theorem mk_own (W : World) (n : Nat) (hn : n ≤ 1000) : Own W.heap.size (W.alloc (.cells (zrow n) 2)) (some ⟨W.heap.size, 0, none⟩) n (tab n (fun _ => 0)) := by
  have h := (zrow_row W n).own' (Nat.le_refl _) (by rw [tab_len]; unfold maxLen; omega)
  rwa [tab_len] at h
theorem mk_ownD (W v : World) (n : Nat) (hn : n ≤ 1000) (h : Below (W.alloc (.cells (zrow n) 2)).drew.heap.size (W.alloc (.cells (zrow n) 2)).drew v) : Own W.heap.size v (some ⟨W.heap.size, 0, none⟩) n (tab n (fun _ => 0)) :=
  ((mk_own W n hn).below ((Below.refl _ _).drew)).below h
theorem areB_win {p : Int} {xs : List Int} (h : areB p xs = true) (hp : 2 ≤ p) (i n : Nat) : areB p ((xs.drop i).take n) = true := areB_mk fun j hj => by
  have e : ((xs.drop i).take n).getD j 0 = xs.getD (i + j) 0 := by
    simp at hj
    have hij : i + j < xs.length := by omega
    simp [List.getElem?_take, hj, hij]
  rw [e]
  exact getD_rng h hp _
end Go.Proofs.Ytldcbdehgmmkjaa
