/- Merged texts. -/
import Derived.Test.YtllcgoachgfpjaaYD430
import Derived.Test.YtllcgoachgfpjaaYD421
import Derived.Test.YtllcgoachgfpjaaYD422
import Derived.Test.YtllcgoachgfpjaaYD423
import Derived.Test.YtllcgoachgfpjaaYD418
import Derived.Test.YtllcgoachgfpjaaYD429
import Derived.Test.YtllcgoachgfpjaaYD424
/- Contract: l07Put (model). -/
namespace Go.Proofs.Ytllcgoachgfpjaa
open Go.RowKit Go.Sort
set_option linter.unusedVariables false
set_option linter.unusedSimpArgs false

/-- A rule of a call's own, blocks from lo on. -/
def UOwn (lo : Nat) (w : World) (ga c gb d : Nat) (R : List (Int × Int)) : Prop :=
  Own lo w (some ⟨ga, 0, none⟩) c (nodesR R) ∧ Own lo w (some ⟨gb, 0, none⟩) d (wtsR R) ∧ ga ≠ gb
theorem own_some {lo : Nat} {w : World} {a : Option Addr} {c : Nat} {ys : List Int} {g : Nat} (h : Own lo w a c ys) (hb : blk a = some g) : a = some ⟨g, 0, none⟩ := by
  rcases h.shape with ⟨rfl, _, _⟩ | ⟨g', cur, rfl, _, _, _⟩
  · cases hb
  · cases hb; rfl
theorem own_grows {lo : Nat} {w w' : World} {g s : Nat} {a' : Option Addr} {c' : Nat} {ys : List Int} (h : Own lo w' a' c' ys) (hl : blk a' = blk (some ⟨g, 0, none⟩) ∨ blk a' = some s) : ∃ g', a' = some ⟨g', 0, none⟩ ∧ (g' = g ∨ g' = s) := by
  rcases hl with hl | hl
  · exact ⟨g, own_some h hl, .inl rfl⟩
  · exact ⟨s, own_some h hl, .inr rfl⟩
theorem SL.old {B : Nat} {w w' : World} {a : Option Addr} {n c : Nat} {xs : List Int} (h : SL w a n c xs) (hb : Below B w w') (hl : ∀ g, blk a = some g → g < B) : SL w' a n c xs := by
  obtain ⟨h1, h2, h3⟩ := h
  refine ⟨h1, h2, ?_⟩
  rcases h3 with h3 | ⟨b, off, rfl, hc⟩
  · exact .inl h3
  · exact .inr ⟨b, off, rfl, fun j hj => (hb.cell (hl b rfl)).trans (hc j hj)⟩
end Go.Proofs.Ytllcgoachgfpjaa
/- The parts of moved rules. -/
namespace Go.Proofs.Ytllcgoachgfpjaa
open Go.RowKit Go.Sort
set_option linter.unusedVariables false
set_option linter.unusedSimpArgs false

def mvK (p A B : Int) (L : List (Int × Int)) (k : Nat) : List (Int × Int) := (List.range L.length).map fun i => if i < k then ((B + A * (L.getD i (0, 0)).1) % p, (L.getD i (0, 0)).2) else L.getD i (0, 0)
theorem mvK_len (p A B : Int) (L : List (Int × Int)) (k : Nat) : (mvK p A B L k).length = L.length := by simp [mvK]
theorem mvK_at (p A B : Int) (L : List (Int × Int)) (k i : Nat) (h : i < L.length) : (mvK p A B L k).getD i (0, 0) = if i < k then ((B + A * (L.getD i (0, 0)).1) % p, (L.getD i (0, 0)).2) else L.getD i (0, 0) := by
  rw [List.getD, mvK, List.getElem?_map, List.getElem?_range h]; rfl
theorem mvK_zero (p A B : Int) (L : List (Int × Int)) : mvK p A B L 0 = L :=
  pext (mvK_len _ _ _ _ _) fun i hi => by rw [mvK_len] at hi; rw [mvK_at _ _ _ _ _ _ hi, if_neg (by omega)]
theorem mvK_step (p A B : Int) (L : List (Int × Int)) (k : Nat) (h : k < L.length) : (mvK p A B L k).set k ((B + A * (L.getD k (0, 0)).1) % p, (L.getD k (0, 0)).2) = mvK p A B L (k + 1) := by
  refine pext (by rw [List.length_set, mvK_len, mvK_len]) fun i hi => ?_
  rw [List.length_set, mvK_len] at hi
  rw [pget_set (by rw [mvK_len]; exact hi), mvK_at _ _ _ _ _ _ hi, mvK_at _ _ _ _ _ _ hi]
  by_cases e : k = i
  · subst e; rw [if_pos rfl, if_pos (by omega)]
  · rw [if_neg e]
    by_cases q : i < k
    · rw [if_pos q, if_pos (by omega)]
    · rw [if_neg q, if_neg (by omega)]
def movW (p A B : Int) (L : List (Int × Int)) : List (Int × Int) := mvK p A B L L.length
theorem zipW_len (xs ys : List Int) : (zipW xs ys).length = xs.length := zipK_len _ _ _ _
theorem zipW_at (xs ys : List Int) (i : Nat) (h : i < xs.length) : (zipW xs ys).getD i (0, 0) = (xs.getD i 0, ys.getD i 0) := by
  unfold zipW; rw [zipK_at _ _ _ _ _ h, if_pos h]
end Go.Proofs.Ytllcgoachgfpjaa
