/- An append of one number onto an owned list: what the old row holds stays readable, wherever the new one lies. -/
import Derived.Test.YtllcgoachgfpjaaWa
import Derived.Test.YtllcgoachgfpjaaCl
namespace Go.Proofs.Ytllcgoachgfpjaa
open Go.RowKit
set_option linter.unusedVariables false
set_option linter.unusedSimpArgs false
set_option maxRecDepth 100000 in
theorem app_keeps {w w' : World} {v' : Value} {B g0 cap : Nat} {ys : List Int} {ty : TypeId} (hown : Own B w (some ⟨g0, 0, none⟩) cap ys) (ax : Addr) (c : Nat) (z : Int) (hz : w.cell? ax = some (.int .i64 z)) (hmax : ys.length + 1 ≤ 4000000)
    (hr : (Builtin.append_ #[22, 22] ty #[.slice (some ⟨g0, 0, none⟩) ys.length cap, .slice (some ax) 1 c]).run Try.prog w = .ok v' w') :
    ∀ j, j < ys.length → w'.cell? ⟨g0, j, none⟩ = some (.int .i64 (ys.getD j 0)) := by
  intro j hj
  have hc : ∀ i, i < ys.length → w.cell? ⟨g0, i, none⟩ = some (.int .i64 (ys.getD i 0)) := fun i hi => Own.cellG hown i hi
  obtain ⟨i0, hi, hz0, hz1, hz2⟩ := info_parts infoI
  have hnews : ∀ j u, [Value.int .i64 z][j]? = some u → w.cell? (ax.add j) = some u := by
    intro j u hj
    cases j with
    | zero =>
      simp at hj
      subst hj
      have : ax.add 0 = ax := by cases ax; simp [Addr.add]
      rw [this]; exact hz
    | succ j => simp at hj
  have h1 : ∀ u ∈ [Value.int .i64 z], u.oneCell' = true := by
    intro u hu
    simp at hu
    subst hu
    rfl
  by_cases hroom : ys.length + 1 ≤ cap
  · obtain ⟨w1, hr1, ho1, _⟩ := run_append_fits (P := Try.prog) w B 22 ty 2 i0 1 Try.underlying22 hi hz1 g0 ys.length cap (ys.map (Value.int .i64)) hown ax 1 c [.int .i64 z] rfl hnews h1 hroom
    rw [hr] at hr1
    injection hr1 with e1 e2
    subst e2
    have ho2 : Own B w' (some ⟨g0, 0, none⟩) cap (ys ++ [z]) := by
      unfold Own
      have e : (ys ++ [z]).length = ys.length + 1 := by simp
      rw [List.map_append, e]
      exact ho1
    have := Own.cellG ho2 j (by simp; omega)
    rw [this]
    simp [List.getD_eq_getElem?_getD, List.getElem?_append, hj]
  · have hgr := run_append_grow (P := Try.prog) w 22 ty 2 i0 (.int .i64 0) Try.underlying22 hi hz0 ⟨g0, 0, none⟩ ys.length cap (ys.map (Value.int .i64)) (by rw [hz1]; simp) (by
        intro i u hu
        have hiz : i < ys.length := by
          have := (List.getElem?_eq_some_iff.1 hu).1
          simpa using this
        rw [Addr.add_lit, Nat.zero_add, hc i hiz]
        simpa [hiz] using hu) ax 1 c [.int .i64 z] (by rw [hz1]; rfl) hnews (by omega) (by omega) (by
        rw [hz2]
        exact growslice_fits (by omega) (by omega))
    rw [hr] at hgr
    injection hgr with e1 e2
    subst e2
    exact cell_al (by simpa using hc j hj) _
set_option maxRecDepth 100000 in
/-- As op_app1, and the old row stays readable. -/
theorem op_app1K {w : World} {o : Oper} {a : Act} {K : Act → World → Prop} {Q : Exit → Act → World → Prop}
    (s x : Operand) (ho : o.op = .call { callee := .builtin .append, args := #[s, x], argTypes := #[22, 22] })
    (B g0 n cap : Nat) (ys : List Int) (hs : a.eval s = .slice (some ⟨g0, 0, none⟩) n cap) (hn : n = ys.length) (hown : Own B w (some ⟨g0, 0, none⟩) cap ys)
    (ax : Addr) (c : Nat) (z : Int) (hx : a.eval x = .slice (some ax) 1 c) (hz : w.cell? ax = some (.int .i64 z)) (hmax : n + 1 ≤ 4000000) (hB : B ≤ w.heap.size)
    (hK : ∀ ad' cap' w', Own B w' ad' cap' (ys ++ [z]) → w.grownBy w' (some g0) → (blk ad' = some g0 ∨ blk ad' = some w.heap.size) → (∀ j, j < ys.length → w'.cell? ⟨g0, j, none⟩ = some (.int .i64 (ys.getD j 0))) → K (a.put o.dst (.slice ad' (ys ++ [z]).length cap')) w') :
    o.wp Try.prog a w K Q := by
  subst hn
  obtain ⟨i0, hi, hz0, hz1, hz2⟩ := info_parts infoI
  have hnews : ∀ j u, [Value.int .i64 z][j]? = some u → w.cell? (ax.add j) = some u := by
    intro j u hj
    cases j with
    | zero =>
      simp at hj
      subst hj
      have : ax.add 0 = ax := by cases ax; simp [Addr.add]
      rw [this]; exact hz
    | succ j => simp at hj
  have h1 : ∀ u ∈ [Value.int .i64 z], u.oneCell' = true := by
    intro u hu
    simp at hu
    subst hu
    rfl
  obtain ⟨v', w1, hr, hown', hgrow, _, hloc⟩ := run_append_own_at (P := Try.prog) w B 22 o.type 2 i0 (.int .i64 0) 1 8 Try.underlying22 hi hz0 hz1 hz2 rfl (by decide) _ _ _ hown ax 1 c [.int .i64 z] rfl hnews h1 (by unfold maxLen; omega) (by omega) hB
  have keep := app_keeps hown ax c z hz hmax hr
  have hb1 : ∀ (ad : Option Addr) (n c : Nat), (Value.slice ad n c).ownBlock = blk ad := fun ad n c => by cases ad <;> rfl
  rw [hb1] at hgrow hloc
  have hv : ∃ ad' cap', v' = .slice ad' (ys ++ [z]).length cap' := by
    rcases hown'.2 with ⟨h1, h2⟩ | ⟨g, c', cur, h1, h2⟩
    · exact ⟨none, 0, by rw [h1]; congr 1; simp; omega⟩
    · exact ⟨_, c', by rw [h1]; congr 1; simp⟩
  obtain ⟨ad', cap', rfl⟩ := hv
  rw [hb1] at hloc
  unfold Oper.wp execOp
  simp only [ho, resolve, invoke, builtin, Sem.run_bind, Sem.run_pure, Result.andThen_ok, List.map_toArray, List.map_cons, List.map_nil, hs, hx, hr]
  refine hK ad' cap' w1 ?_ hgrow hloc keep
  unfold Own
  have e : (ys ++ [z]).length = ys.length + 1 := by simp
  rw [List.map_append]
  rw [e] at hown' ⊢
  exact hown'
theorem step_app1K {w : World} {ops : Array Oper} {o : Oper} {a : Act} {K : Act → World → Prop} {Q : Exit → Act → World → Prop} {E : Prop}
    (hgd : o.guard = none) (s x : Operand) (ho : o.op = .call { callee := .builtin .append, args := #[s, x], argTypes := #[22, 22] })
    (B g0 n cap : Nat) (ys : List Int) (hs : a.eval s = .slice (some ⟨g0, 0, none⟩) n cap) (hn : n = ys.length) (hown : Own B w (some ⟨g0, 0, none⟩) cap ys)
    (ax : Addr) (c : Nat) (z : Int) (hx : a.eval x = .slice (some ax) 1 c) (hz : w.cell? ax = some (.int .i64 z)) (hmax : n + 1 ≤ 4000000) (hB : B ≤ w.heap.size)
    (hK : ∀ ad' cap' w', Own B w' ad' cap' (ys ++ [z]) → w.grownBy w' (some g0) → (blk ad' = some g0 ∨ blk ad' = some w.heap.size) → (∀ j, j < ys.length → w'.cell? ⟨g0, j, none⟩ = some (.int .i64 (ys.getD j 0))) → K (a.put o.dst (.slice ad' (ys ++ [z]).length cap')) w') :
    if Region.wanted o (yielded ops a.tmps) = true then Oper.wp Try.prog o a w K Q else E := by
  have hw : Region.wanted o (yielded ops a.tmps) = true := by simp [Region.wanted, hgd]
  rw [if_pos hw]
  exact op_app1K s x ho B g0 n cap ys hs hn hown ax c z hx hz hmax hB hK
end Go.Proofs.Ytllcgoachgfpjaa
