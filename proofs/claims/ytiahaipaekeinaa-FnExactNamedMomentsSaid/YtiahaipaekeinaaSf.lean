/- Contracts: l05Series (model), seriesOf (program): the first numbers of the series of two lists. -/
import Derived.Test.YtiahaipaekeinaaSe
import Derived.Test.YtiahaipaekeinaaCs
import Derived.Test.YtiahaipaekeinaaJb
namespace Go.Proofs.Ytiahaipaekeinaa
open Go.RowKit
set_option linter.unusedVariables false
set_option linter.unusedSimpArgs false

theorem mulb2 {x y : Int} (h1 : 0 ≤ x) (h2 : x ≤ 10007) (h3 : 0 ≤ y) (h4 : y ≤ 10007) : 0 ≤ x * y ∧ x * y ≤ 100140049 := by
  refine ⟨Int.mul_nonneg h1 h3, ?_⟩
  have : x * y ≤ 10007 * 10007 := Int.mul_le_mul h2 h4 h3 (by omega)
  omega
set_option maxRecDepth 100000 in
/-- copy of as many numbers as fit. -/
theorem wp_copyT {w : World} {ops : Array Oper} {rest : List Oper} {o : Oper} {a : Act} {Q : Exit → Act → World → Prop}
    (hgd : o.guard = none) (d s : Operand) (ho : o.op = .call { callee := .builtin .copy, args := #[d, s], argTypes := #[22, 22] })
    (g dLen dCap : Nat) (ys : List Int) (hd : a.eval d = .slice (some ⟨g, 0, none⟩) dLen dCap) (hrow : RowI w g ys) (hdl : dLen = ys.length)
    (sp : Option Addr) (m c k : Nat) (zs : List Int) (hs : a.eval s = .slice sp m c) (hz : SL w sp m c zs) (hk : k = min m ys.length) (B : Nat) (hB : B ≤ g)
    (h : ∀ w', Hid (RowI w' g (zs.take k ++ ys.drop k)) → Below B w w' → wpList Try.prog ops Q rest (a.put o.dst (.int .i64 k)) w') :
    wpList Try.prog ops Q (o :: rest) a w := by
  subst hdl
  obtain ⟨hl, hle, hcs⟩ := hz
  have hkm : k ≤ m := by omega
  have hky : k ≤ ys.length := by omega
  have hkl : (zs.take k).length = k := by simp; omega
  refine wpList_copy_splice hgd d s 22 22 ho 2 Try.underlying22 sizeI (some ⟨g, 0, none⟩) sp ys.length dCap m c hd hs g 0 (ys.map (Value.int .i64)) 2 hrow ((zs.take k).map (Value.int .i64)) ?_ ?_ ?_ ?_ B w (Below.refl _ _) hB ?_
  · rw [List.length_map, hkl]
    omega
  · intro hpos
    refine ⟨rfl, ?_⟩
    have hm0 : 0 < k := by rw [List.length_map, hkl] at hpos; exact hpos
    rcases hcs with h0 | ⟨b, off, rfl, hcell⟩
    · omega
    · refine ⟨_, rfl, fun j v hj => ?_⟩
      have hjk : j < k := by
        have := (List.getElem?_eq_some_iff.1 hj).1
        rw [List.length_map, hkl] at this
        exact this
      rw [Addr.add_lit, hcell j (by omega)]
      simpa [List.getElem?_take, hjk, show j < zs.length by omega] using hj
  · simp [hl]; omega
  · intro u hu
    obtain ⟨_, _, rfl⟩ := List.mem_map.1 hu
    rfl
  · intro w' hw hb
    have e : splice (ys.map (Value.int .i64)) 0 ((zs.take k).map (Value.int .i64)) = (zs.take k ++ ys.drop k).map (Value.int .i64) := by
      simp [splice, hl, Nat.min_eq_left hkm]
    have hw2 := hw.out
    rw [e] at hw2
    have := h w' hw2 hb
    have hmin : min k zs.length = k := by omega
    simpa [goInt, hmin] using this
theorem pad_tabT (f : List Int) (N k : Nat) (hk : k = min f.length N) : f.take k ++ (List.replicate N (0 : Int)).drop k = tab N (fun j => f.getD j 0) := by
  apply ext_tab
  · simp [tab]; omega
  · intro j hj
    have hj' : j < N := by simp at hj; omega
    rw [tab_at _ _ _ hj']
    have hkl : (f.take k).length = k := by simp; omega
    by_cases h : j < k
    · simp [List.getElem?_append_left (show j < (f.take k).length by omega), List.getElem?_take, h]
    · simp [List.getElem?_append_right (show (f.take k).length ≤ j by omega), show ¬ j < f.length by omega, hkl]
      have : ∀ (i : Nat), (List.replicate (N - k) (0 : Int))[i]?.getD 0 = 0 := fun i => by
        by_cases hi : i < N - k <;> simp [hi]
      exact this _
end Go.Proofs.Ytiahaipaekeinaa
