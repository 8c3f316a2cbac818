/- Merged texts. -/
import Derived.Test.YtpoabedlcljibaaYW113
import Derived.Test.YtpoabedlcljibaaYW115
import Derived.Test.YtpoabedlcljibaaYW16
import Derived.Test.YtpoabedlcljibaaYW110
import Derived.Maps.OwnSet
import Derived.DeepKeys4
/- Contracts: l05Series (model), seriesOf (program): the first numbers of the series of two lists. -/
namespace Go.Proofs.Ytpoabedlcljibaa
open Go.RowKit
set_option linter.unusedVariables false
set_option linter.unusedSimpArgs false

theorem mulb2 {x y : Int} (h1 : 0 ≤ x) (h2 : x ≤ 10007) (h3 : 0 ≤ y) (h4 : y ≤ 10007) : 0 ≤ x * y ∧ x * y ≤ 100140049 := by
  refine ⟨Int.mul_nonneg h1 h3, ?_⟩
  have : x * y ≤ 10007 * 10007 := Int.mul_le_mul h2 h4 h3 (by omega)
  omega
set_option maxRecDepth 100000 in
/-- copy of as many numbers as fit. -/
theorem wp_copyT {w : World} {ops : Array Oper} {rest : List Oper} {o : Oper} {a : Act} {Q : Exit → Act → World → Prop}
    (hgd : o.guard = none) (d s : Operand) (ho : o.op = .call { callee := .builtin .copy, args := #[d, s], argTypes := #[22, 22] })
    (g dLen dCap : Nat) (ys : List Int) (hd : a.eval d = .slice (some ⟨g, 0, none⟩) dLen dCap) (hrow : RowI w g ys) (hdl : dLen = ys.length)
    (sp : Option Addr) (m c k : Nat) (zs : List Int) (hs : a.eval s = .slice sp m c) (hz : SL w sp m c zs) (hk : k = min m ys.length) (B : Nat) (hB : B ≤ g)
    (h : ∀ w', Hid (RowI w' g (zs.take k ++ ys.drop k)) → Below B w w' → wpList Try.prog ops Q rest (a.put o.dst (.int .i64 k)) w') :
    wpList Try.prog ops Q (o :: rest) a w := by
  subst hdl
  obtain ⟨hl, hle, hcs⟩ := hz
  have hkm : k ≤ m := by omega
  have hky : k ≤ ys.length := by omega
  have hkl : (zs.take k).length = k := by simp; omega
  refine wpList_copy_splice hgd d s 22 22 ho 2 Try.underlying22 sizeI (some ⟨g, 0, none⟩) sp ys.length dCap m c hd hs g 0 (ys.map (Value.int .i64)) 2 hrow ((zs.take k).map (Value.int .i64)) ?_ ?_ ?_ ?_ B w (Below.refl _ _) hB ?_
  · rw [List.length_map, hkl]
    omega
  · intro hpos
    refine ⟨rfl, ?_⟩
    have hm0 : 0 < k := by rw [List.length_map, hkl] at hpos; exact hpos
    rcases hcs with h0 | ⟨b, off, rfl, hcell⟩
    · omega
    · refine ⟨_, rfl, fun j v hj => ?_⟩
      have hjk : j < k := by
        have := (List.getElem?_eq_some_iff.1 hj).1
        rw [List.length_map, hkl] at this
        exact this
      rw [Addr.add_lit, hcell j (by omega)]
      simpa [List.getElem?_take, hjk, show j < zs.length by omega] using hj
  · simp [hl]; omega
  · intro u hu
    obtain ⟨_, _, rfl⟩ := List.mem_map.1 hu
    rfl
  · intro w' hw hb
    have e : splice (ys.map (Value.int .i64)) 0 ((zs.take k).map (Value.int .i64)) = (zs.take k ++ ys.drop k).map (Value.int .i64) := by
      simp [splice, hl, Nat.min_eq_left hkm]
    have hw2 := hw.out
    rw [e] at hw2
    have := h w' hw2 hb
    have hmin : min k zs.length = k := by omega
    simpa [goInt, hmin] using this
theorem pad_tabT (f : List Int) (N k : Nat) (hk : k = min f.length N) : f.take k ++ (List.replicate N (0 : Int)).drop k = tab N (fun j => f.getD j 0) := by
  apply ext_tab
  · simp [tab]; omega
  · intro j hj
    have hj' : j < N := by simp at hj; omega
    rw [tab_at _ _ _ hj']
    have hkl : (f.take k).length = k := by simp; omega
    by_cases h : j < k
    · simp [List.getElem?_append_left (show j < (f.take k).length by omega), List.getElem?_take, h]
    · simp [List.getElem?_append_right (show (f.take k).length ≤ j by omega), show ¬ j < f.length by omega, hkl]
      have : ∀ (i : Nat), (List.replicate (N - k) (0 : Int))[i]?.getD 0 = 0 := fun i => by
        by_cases hi : i < N - k <;> simp [hi]
      exact this _
end Go.Proofs.Ytpoabedlcljibaa
/- Contract: areDifferent, a set by a map whose keys are arrays of one number. -/
namespace Go.Proofs.Ytpoabedlcljibaa
open Go.RowKit Go.Maps Go.WideMaps
set_option linter.unusedVariables false
set_option linter.unusedSimpArgs false

theorem laidN : laidOutB Try.prog = true := by kernel_rfl
theorem wideN : (match Try.prog.underlying 66 with | some (.array _ _) | some (.struct _) => true | _ => false) = true := by kernel_rfl
theorem rowN : (66 : TypeId) < Try.prog.types.size := of_decide_eq_true (by kernel_rfl)
set_option maxRecDepth 100000 in
theorem lawN : KeyLaw Try.prog 66 := deep_law_laid laidN (m := 2) (by omega) rowN (by kernel_rfl) wideN
theorem keyedN : Keyed Try.prog 66 := Keyed.of_law lawN
def kN (x : Int) : Lit := .string (keyBytes [.int .i64 x])
set_option maxRecDepth 100000 in
theorem keyN {x : Int} (hx : (Lit.int .i64 x).wf = true) : keyOf Try.prog 66 (.agg #[.int .i64 x]) = some (kN x) := by
  have h1 : Try.prog.keyType 66 = true := by kernel_rfl
  have h2 : Try.prog.cellsOf 66 = 1 := by kernel_rfl
  have h3 : Try.prog.cellsOf 2 = 1 := by kernel_rfl
  obtain ⟨d, hd⟩ : ∃ d, Try.prog.types.size = d + 1 := ⟨Try.prog.types.size - 1, (Nat.succ_pred_eq_of_pos (Nat.lt_of_le_of_lt (Nat.zero_le _) rowN)).symm⟩
  simp [keyOf, Try.underlying66, h1, Value.formed, h2, hd, Program.keyLits, Try.underlying2, h3, hx, Value.cells, kN]
theorem kN_inj {x y : Int} (hx : (Lit.int .i64 x).wf = true) (hy : (Lit.int .i64 y).wf = true) (h : kN x = kN y) : x = y := by
  have := lawN.inj (keyN hx) (by rw [h]; exact keyN hy)
  simpa using this
def ksN (xs : List Int) (k : Nat) : List Lit := (xs.take k).map kN
def SnN (xs : List Int) (k : Nat) : DataW Unit := setOf (.lit (.bool true)) (ksN xs k)
theorem ksN_key (xs : List Int) (k : Nat) : ∀ y ∈ ksN xs k, WideAt.IsKeyLit y := fun y hy => by
  obtain ⟨_, _, rfl⟩ := List.mem_map.1 hy
  trivial
theorem SnN_zero (xs : List Int) : SnN xs 0 = .map [] := by simp [SnN, ksN, setOf]
theorem take_snoc (xs : List Int) (k : Nat) (hk : k < xs.length) : xs.take (k + 1) = xs.take k ++ [xs.getD k 0] := by
  rw [List.take_add_one]
  simp [List.getElem?_eq_getElem hk]
theorem SnN_succ (xs : List Int) (k : Nat) (hk : k < xs.length) : SnN xs (k + 1) = (SnN xs k).put (kN (xs.getD k 0)) (.lit (.bool true)) := by
  unfold SnN ksN
  rw [take_snoc xs k hk, List.map_append]
  exact setOf_snoc _ _ _
theorem SnN_has (xs : List Int) (k : Nat) (x : Int) (hx : (Lit.int .i64 x).wf = true) (hxs : ∀ y ∈ xs, (Lit.int .i64 y).wf = true) : Maps.has (SnN xs k) (kN x) = true ↔ x ∈ xs.take k := by
  unfold SnN
  rw [has_setOf _ _ _ (ksN_key xs k), List.any_eq_true]
  constructor
  · rintro ⟨l, hl, h⟩
    obtain ⟨y, hy, rfl⟩ := List.mem_map.1 hl
    have e := kN_inj (hxs y (List.mem_of_mem_take hy)) hx (WideAt.sameKey_eq h)
    exact e ▸ hy
  · intro h
    exact ⟨kN x, List.mem_map.2 ⟨x, h, rfl⟩, WideAt.sameKey_self trivial⟩
theorem SnN_tidy (xs : List Int) (k : Nat) : Tidy (SnN xs k) := tidy_fold _ _ _ tidy_empty (ksN_key xs k)
theorem SnN_size (xs : List Int) (hxs : ∀ y ∈ xs, (Lit.int .i64 y).wf = true) : ∀ k, k ≤ xs.length → Maps.size (SnN xs k) ≤ k ∧ (Maps.size (SnN xs k) = k ↔ (xs.take k).Nodup) := by
  intro k
  induction k with
  | zero => intro _; rw [SnN_zero]; exact ⟨Nat.le_refl _, by simp [Maps.size]⟩
  | succ k ih =>
    intro hk
    obtain ⟨h1, h2⟩ := ih (by omega)
    have hx : (Lit.int .i64 (xs.getD k 0)).wf = true := hxs _ (by rw [List.getD, List.getElem?_eq_getElem (by omega)]; exact List.getElem_mem _)
    have hh := SnN_has xs k _ hx hxs
    rw [SnN_succ xs k (by omega), size_put (SnN_tidy xs k), take_snoc xs k (by omega)]
    by_cases hm : xs.getD k 0 ∈ xs.take k
    · rw [if_pos (hh.2 hm)]
      refine ⟨by omega, ⟨fun h => by omega, fun h => ?_⟩⟩
      rw [List.nodup_append] at h
      exact absurd rfl (h.2.2 _ hm _ (by simp))
    · rw [if_neg (fun h => hm (hh.1 h))]
      refine ⟨by omega, ⟨fun h => ?_, fun h => ?_⟩⟩
      · rw [List.nodup_append]
        refine ⟨h2.1 (by omega), by simp, fun a ha b hb e => ?_⟩
        simp at hb
        exact hm (by rw [List.getD]; rw [hb] at e; rw [← e]; exact ha)
      · rw [List.nodup_append] at h
        have := h2.2 h.1
        omega
def difB (xs : List Int) : Bool := decide xs.Nodup
end Go.Proofs.Ytpoabedlcljibaa
