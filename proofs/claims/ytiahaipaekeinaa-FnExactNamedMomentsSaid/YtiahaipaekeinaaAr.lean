/- Contract: areDifferent, a set by a map whose keys are arrays of one number. -/
import Derived.Test.YtiahaipaekeinaaPw
import Derived.Test.YtiahaipaekeinaaDv
import Derived.Maps.OwnSet
import Derived.DeepKeys4
namespace Go.Proofs.Ytiahaipaekeinaa
open Go.RowKit Go.Maps Go.WideMaps
set_option linter.unusedVariables false
set_option linter.unusedSimpArgs false

theorem laidN : laidOutB Try.prog = true := by kernel_rfl
theorem wideN : (match Try.prog.underlying 49 with | some (.array _ _) | some (.struct _) => true | _ => false) = true := by kernel_rfl
theorem rowN : (49 : TypeId) < Try.prog.types.size := of_decide_eq_true (by kernel_rfl)
set_option maxRecDepth 100000 in
theorem lawN : KeyLaw Try.prog 49 := deep_law_laid laidN (m := 2) (by omega) rowN (by kernel_rfl) wideN
theorem keyedN : Keyed Try.prog 49 := Keyed.of_law lawN
def kN (x : Int) : Lit := .string (keyBytes [.int .i64 x])
set_option maxRecDepth 100000 in
theorem keyN {x : Int} (hx : (Lit.int .i64 x).wf = true) : keyOf Try.prog 49 (.agg #[.int .i64 x]) = some (kN x) := by
  have h1 : Try.prog.keyType 49 = true := by kernel_rfl
  have h2 : Try.prog.cellsOf 49 = 1 := by kernel_rfl
  have h3 : Try.prog.cellsOf 2 = 1 := by kernel_rfl
  obtain ⟨d, hd⟩ : ∃ d, Try.prog.types.size = d + 1 := ⟨Try.prog.types.size - 1, (Nat.succ_pred_eq_of_pos (Nat.lt_of_le_of_lt (Nat.zero_le _) rowN)).symm⟩
  simp [keyOf, Try.underlying49, h1, Value.formed, h2, hd, Program.keyLits, Try.underlying2, h3, hx, Value.cells, kN]
theorem kN_inj {x y : Int} (hx : (Lit.int .i64 x).wf = true) (hy : (Lit.int .i64 y).wf = true) (h : kN x = kN y) : x = y := by
  have := lawN.inj (keyN hx) (by rw [h]; exact keyN hy)
  simpa using this
def ksN (xs : List Int) (k : Nat) : List Lit := (xs.take k).map kN
def SnN (xs : List Int) (k : Nat) : DataW Unit := setOf (.lit (.bool true)) (ksN xs k)
theorem ksN_key (xs : List Int) (k : Nat) : ∀ y ∈ ksN xs k, WideAt.IsKeyLit y := fun y hy => by
  obtain ⟨_, _, rfl⟩ := List.mem_map.1 hy
  trivial
theorem SnN_zero (xs : List Int) : SnN xs 0 = .map [] := by simp [SnN, ksN, setOf]
theorem take_snoc (xs : List Int) (k : Nat) (hk : k < xs.length) : xs.take (k + 1) = xs.take k ++ [xs.getD k 0] := by
  rw [List.take_add_one]
  simp [List.getElem?_eq_getElem hk]
theorem SnN_succ (xs : List Int) (k : Nat) (hk : k < xs.length) : SnN xs (k + 1) = (SnN xs k).put (kN (xs.getD k 0)) (.lit (.bool true)) := by
  unfold SnN ksN
  rw [take_snoc xs k hk, List.map_append]
  exact setOf_snoc _ _ _
theorem SnN_has (xs : List Int) (k : Nat) (x : Int) (hx : (Lit.int .i64 x).wf = true) (hxs : ∀ y ∈ xs, (Lit.int .i64 y).wf = true) : Maps.has (SnN xs k) (kN x) = true ↔ x ∈ xs.take k := by
  unfold SnN
  rw [has_setOf _ _ _ (ksN_key xs k), List.any_eq_true]
  constructor
  · rintro ⟨l, hl, h⟩
    obtain ⟨y, hy, rfl⟩ := List.mem_map.1 hl
    have e := kN_inj (hxs y (List.mem_of_mem_take hy)) hx (WideAt.sameKey_eq h)
    exact e ▸ hy
  · intro h
    exact ⟨kN x, List.mem_map.2 ⟨x, h, rfl⟩, WideAt.sameKey_self trivial⟩
theorem SnN_tidy (xs : List Int) (k : Nat) : Tidy (SnN xs k) := tidy_fold _ _ _ tidy_empty (ksN_key xs k)
theorem SnN_size (xs : List Int) (hxs : ∀ y ∈ xs, (Lit.int .i64 y).wf = true) : ∀ k, k ≤ xs.length → Maps.size (SnN xs k) ≤ k ∧ (Maps.size (SnN xs k) = k ↔ (xs.take k).Nodup) := by
  intro k
  induction k with
  | zero => intro _; rw [SnN_zero]; exact ⟨Nat.le_refl _, by simp [Maps.size]⟩
  | succ k ih =>
    intro hk
    obtain ⟨h1, h2⟩ := ih (by omega)
    have hx : (Lit.int .i64 (xs.getD k 0)).wf = true := hxs _ (by rw [List.getD, List.getElem?_eq_getElem (by omega)]; exact List.getElem_mem _)
    have hh := SnN_has xs k _ hx hxs
    rw [SnN_succ xs k (by omega), size_put (SnN_tidy xs k), take_snoc xs k (by omega)]
    by_cases hm : xs.getD k 0 ∈ xs.take k
    · rw [if_pos (hh.2 hm)]
      refine ⟨by omega, ⟨fun h => by omega, fun h => ?_⟩⟩
      rw [List.nodup_append] at h
      exact absurd rfl (h.2.2 _ hm _ (by simp))
    · rw [if_neg (fun h => hm (hh.1 h))]
      refine ⟨by omega, ⟨fun h => ?_, fun h => ?_⟩⟩
      · rw [List.nodup_append]
        refine ⟨h2.1 (by omega), by simp, fun a ha b hb e => ?_⟩
        simp at hb
        exact hm (by rw [List.getD]; rw [hb] at e; rw [← e]; exact ha)
      · rw [List.nodup_append] at h
        have := h2.2 h.1
        omega
def difB (xs : List Int) : Bool := decide xs.Nodup
end Go.Proofs.Ytiahaipaekeinaa
