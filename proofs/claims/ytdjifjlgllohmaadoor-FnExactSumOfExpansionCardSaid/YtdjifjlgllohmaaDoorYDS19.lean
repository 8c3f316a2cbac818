/- Merged texts. -/
import Derived.Test.YtdjifjlgllohmaaDoorYDS6
import Derived.Maps.AppendAt
import Derived.Deep.AppendLies
import Derived.Test.YtdjifjlgllohmaaDoorYDS18
import Derived.Test.YtdjifjlgllohmaaDoorYDS13
import Derived.Deep.RegionHeld3
import Derived.Deep.DrawnRows
/- An append of one number by laws that say where the new row lies (in a plain region, at an operation, at a step of a region that draws). -/
namespace Go.Proofs.YtdjifjlgllohmaaDoor
open Go.RowKit
set_option linter.unusedVariables false
set_option linter.unusedSimpArgs false
set_option maxRecDepth 100000 in
/-- An append of one number onto an owned row of numbers: only that row and new blocks turn. -/
theorem op_app1 {w : World} {o : Oper} {a : Act} {K : Act → World → Prop} {Q : Exit → Act → World → Prop}
    (s x : Operand) (ho : o.op = .call { callee := .builtin .append, args := #[s, x], argTypes := #[22, 22] })
    (B : Nat) (ad : Option Addr) (n cap : Nat) (ys : List Int) (hs : a.eval s = .slice ad n cap) (hn : n = ys.length) (hown : Own B w ad cap ys)
    (ax : Addr) (c : Nat) (z : Int) (hx : a.eval x = .slice (some ax) 1 c) (hz : w.cell? ax = some (.int .i64 z)) (hmax : n + 1 ≤ 4000000) (hB : B ≤ w.heap.size)
    (hK : ∀ ad' cap' w', Own B w' ad' cap' (ys ++ [z]) → w.grownBy w' (blk ad) → (blk ad' = blk ad ∨ blk ad' = some w.heap.size) → K (a.put o.dst (.slice ad' (ys ++ [z]).length cap')) w') :
    o.wp Tryd.prog a w K Q := by
  subst hn
  obtain ⟨i0, hi, hz0, hz1, hz2⟩ := info_parts infoI
  have hnews : ∀ j u, [Value.int .i64 z][j]? = some u → w.cell? (ax.add j) = some u := by
    intro j u hj
    cases j with
    | zero =>
      simp at hj
      subst hj
      have : ax.add 0 = ax := by cases ax; simp [Addr.add]
      rw [this]; exact hz
    | succ j => simp at hj
  have h1 : ∀ u ∈ [Value.int .i64 z], u.oneCell' = true := by
    intro u hu
    simp at hu
    subst hu
    rfl
  obtain ⟨v', w1, hr, hown', hgrow, _, hloc⟩ := run_append_own_at (P := Tryd.prog) w B 22 o.type 2 i0 (.int .i64 0) 1 8 Tryd.underlying22 hi hz0 hz1 hz2 rfl (by decide) _ _ _ hown ax 1 c [.int .i64 z] rfl hnews h1 (by unfold maxLen; omega) (by omega) hB
  have hb1 : ∀ (ad : Option Addr) (n c : Nat), (Value.slice ad n c).ownBlock = blk ad := fun ad n c => by cases ad <;> rfl
  rw [hb1] at hgrow hloc
  have hv : ∃ ad' cap', v' = .slice ad' (ys ++ [z]).length cap' := by
    rcases hown'.2 with ⟨h1, h2⟩ | ⟨g, c', cur, h1, h2⟩
    · exact ⟨none, 0, by rw [h1]; congr 1; simp; omega⟩
    · exact ⟨_, c', by rw [h1]; congr 1; simp⟩
  obtain ⟨ad', cap', rfl⟩ := hv
  rw [hb1] at hloc
  unfold Oper.wp execOp
  simp only [ho, resolve, invoke, builtin, Sem.run_bind, Sem.run_pure, Result.andThen_ok, List.map_toArray, List.map_cons, List.map_nil, hs, hx, hr]
  refine hK ad' cap' w1 ?_ hgrow hloc
  unfold Own
  have e : (ys ++ [z]).length = ys.length + 1 := by simp
  rw [List.map_append]
  rw [e] at hown' ⊢
  exact hown'
theorem wp_app1 {w : World} {ops : Array Oper} {rest : List Oper} {o : Oper} {a : Act} {Q : Exit → Act → World → Prop}
    (hgd : o.guard = none) (s x : Operand) (ho : o.op = .call { callee := .builtin .append, args := #[s, x], argTypes := #[22, 22] })
    (B : Nat) (ad : Option Addr) (n cap : Nat) (ys : List Int) (hs : a.eval s = .slice ad n cap) (hn : n = ys.length) (hown : Own B w ad cap ys)
    (ax : Addr) (c : Nat) (z : Int) (hx : a.eval x = .slice (some ax) 1 c) (hz : w.cell? ax = some (.int .i64 z)) (hmax : n + 1 ≤ 4000000) (hB : B ≤ w.heap.size)
    (hK : ∀ ad' cap' w', Own B w' ad' cap' (ys ++ [z]) → w.grownBy w' (blk ad) → (blk ad' = blk ad ∨ blk ad' = some w.heap.size) → wpList Tryd.prog ops Q rest (a.put o.dst (.slice ad' (ys ++ [z]).length cap')) w') :
    wpList Tryd.prog ops Q (o :: rest) a w :=
  wpList_plain hgd fun K hK' => op_app1 s x ho B ad n cap ys hs hn hown ax c z hx hz hmax hB fun ad' cap' w' h1 h2 h3 => hK' _ _ (hK ad' cap' w' h1 h2 h3)
theorem step_app1 {w : World} {ops : Array Oper} {o : Oper} {a : Act} {K : Act → World → Prop} {Q : Exit → Act → World → Prop} {E : Prop}
    (hgd : o.guard = none) (s x : Operand) (ho : o.op = .call { callee := .builtin .append, args := #[s, x], argTypes := #[22, 22] })
    (B : Nat) (ad : Option Addr) (n cap : Nat) (ys : List Int) (hs : a.eval s = .slice ad n cap) (hn : n = ys.length) (hown : Own B w ad cap ys)
    (ax : Addr) (c : Nat) (z : Int) (hx : a.eval x = .slice (some ax) 1 c) (hz : w.cell? ax = some (.int .i64 z)) (hmax : n + 1 ≤ 4000000) (hB : B ≤ w.heap.size)
    (hK : ∀ ad' cap' w', Own B w' ad' cap' (ys ++ [z]) → w.grownBy w' (blk ad) → (blk ad' = blk ad ∨ blk ad' = some w.heap.size) → K (a.put o.dst (.slice ad' (ys ++ [z]).length cap')) w') :
    if Region.wanted o (yielded ops a.tmps) = true then Oper.wp Tryd.prog o a w K Q else E := by
  have hw : Region.wanted o (yielded ops a.tmps) = true := by simp [Region.wanted, hgd]
  rw [if_pos hw]
  exact op_app1 s x ho B ad n cap ys hs hn hown ax c z hx hz hmax hB hK
theorem own_blk_ge {B : Nat} {w : World} {a : Option Addr} {c : Nat} {ys : List Int} (h : Own B w a c ys) : ∀ g, blk a = some g → B ≤ g := fun g hg => by
  rcases h.shape with ⟨rfl, _, _⟩ | ⟨g', cur, rfl, hB, _⟩
  · cases hg
  · cases hg; exact hB
theorem grown_row {w w1 w2 : World} {g : Nat} {row : Option Nat} (h : w.grownBy w1 (some g)) (k : w1.grownBy w2 row) (hr : ∀ b, row = some b → w.heap.size ≤ b) : w.grownBy w2 (some g) :=
  ⟨k.os.trans h.os, k.tape.trans h.tape, k.output.trans h.output, Nat.le_trans h.size k.size, fun i hi hne => (k.block i (Nat.lt_of_lt_of_le hi h.size) (fun e => by have := hr i e.symm; omega)).trans (h.block i hi hne)⟩
theorem Own.gk {B : Nat} {w w' : World} {a : Option Addr} {c g : Nat} {ys : List Int} (h : Own B w a c ys) (hg : w.grownBy w' (some g)) (hB : g < B) : Own B w' a c ys :=
  h.keep hg (fun b hb e => by have := own_blk_ge h b hb; cases e; omega)
end Go.Proofs.YtdjifjlgllohmaaDoor
/- Contracts: addList, AddMoments (program). -/
namespace Go.Proofs.YtdjifjlgllohmaaDoor
open Go.RowKit
set_option linter.unusedVariables false
set_option linter.unusedSimpArgs false

/-- The first m numbers of a sum. -/
def alH (p k : Int) (xs ys : List Int) (m : Nat) : Nat → Int := fun j => if j < m then (xs.getD j 0 + k * ys.getD j 0) % p else 0
theorem alH_step (p k : Int) (xs ys : List Int) (N m : Nat) : (tab N (alH p k xs ys m)).set m ((xs.getD m 0 + k * ys.getD m 0) % p) = tab N (alH p k xs ys (m + 1)) := by
  rw [tab_set]
  apply tab_congr
  intro j _
  unfold alH
  by_cases e : j = m
  · subst e; simp
  · rw [if_neg e]
    by_cases h : j < m
    · rw [if_pos h, if_pos (by omega)]
    · rw [if_neg h, if_neg (by omega)]
theorem alH_all (p k : Int) (xs ys : List Int) (N : Nat) (h : xs.length = N) : tab N (alH p k xs ys N) = addlM p k xs ys := by
  unfold addlM
  rw [h]
  apply tab_congr
  intro j hj
  unfold alH
  rw [if_pos hj]
theorem addlM_nil (p k : Int) (ys : List Int) : addlM p k [] ys = [] := rfl
set_option maxRecDepth 100000 in
set_option maxHeartbeats 1600000 in
theorem addList_any (p k : Int) (a1 : Option Addr) (n1 c1 : Nat) (xs : List Int) (a2 : Option Addr) (n2 c2 : Nat) (ys : List Int) (w : World) (h1 : SL w a1 n1 c1 xs) (h2 : SL w a2 n2 c2 ys)
    (b1 : n1 ≤ 1000) (hn : n1 ≤ n2) (hp : 2 ≤ p) (hp2 : p ≤ 10007) (hk0 : 0 ≤ k) (hk1 : k < p) (hx : areB p xs = true) (hy : areB p ys = true) :
    Calls Tryd.prog 124 #[.int .i64 p, .slice a1 n1 c1, .int .i64 k, .slice a2 n2 c2] w fun e w' => ∃ a', e = .returned (.slice a' n1 n1) ∧ Own w.heap.size w' a' n1 (addlM p k xs ys) ∧ Below w.heap.size w w' := by
  have hl1 := hide h1.len
  have Hx := hide hx
  have Hy := hide hy
  clear hx hy
  by_cases h0 : n1 = 0
  · subst h0
    obtain rfl := h1.empty
    go_enter Tryd.func124, Tryd.ntmps124
    go_wp2_with (at_make; refine wp_make rfl _ _ rfl _ _ 0 rfl rfl rfl rfl (by omega) ?_; intro w1 hrow hb hsz)
    refine wp_loop_rounds 1 ?_
    rw [rounds_succ]
    go_wp2
    go_ret
    exact ⟨_, rfl, (hrow.out.own' (Nat.le_refl _) (by simp)), hb⟩
  obtain ⟨b, off, rfl, hbw, hcell⟩ := h1.at (by omega)
  obtain ⟨b', off', rfl, hbw', hcell'⟩ := h2.at (by omega)
  clear h1 h2
  go_enter Tryd.func124, Tryd.ntmps124
  go_wp2_with (at_make; refine wp_make rfl _ _ rfl _ _ n1 rfl rfl rfl rfl (by omega) ?_; intro w1 hrow hb hsz)
  have hrow2 : Hid (RowI w1 w.heap.size (tab n1 (alH p k xs ys 0))) := hide (by
    have := hrow.out
    rw [tab_zero] at this
    have e : tab n1 (alH p k xs ys 0) = tab n1 (fun _ => 0) := tab_congr (fun j _ => by simp [alH])
    rwa [e])
  clear hrow
  go_loopw [17] (fun i wr => ∃ m : Nat, m ≤ n1 ∧ i = .int .i64 m ∧ Hid (RowI wr w.heap.size (tab n1 (alH p k xs ys m))) ∧ Below w.heap.size w wr ∧ w.heap.size < wr.heap.size) (fun i _ => n1 - (intOf i).toNat)
  case atStart => exact ⟨0, by omega, rfl, hrow2, hb, hsz⟩
  case round =>
    obtain ⟨m, hm, rfl, hR, hbr, hsr⟩ := hrel
    clear hrow2 hb hsz
    by_cases hlt : m < n1
    · have e1 : wr.cell? ⟨b, off + m, none⟩ = some (.int .i64 (xs.getD m 0)) := cell_be hbr (hcell m hlt)
      have e2 : wr.cell? ⟨b', off' + m, none⟩ = some (.int .i64 (ys.getD m 0)) := cell_be hbr (hcell' m (by omega))
      have e3 := hR.out.cell m (by rw [tab_len]; omega)
      have hfr := hR.out.free m
      have hset := hR.out.set m ((xs.getD m 0 + k * ys.getD m 0) % p)
      rw [alH_step] at hset
      have r1 := getD_rng Hx.out hp m
      have r2 := getD_rng Hy.out hp m
      obtain ⟨x, hx⟩ : ∃ x, xs.getD m 0 = x := ⟨_, rfl⟩
      obtain ⟨y, hy⟩ : ∃ y, ys.getD m 0 = y := ⟨_, rfl⟩
      rw [hx] at e1 hset r1
      rw [hy] at e2 hset r2
      have Hset := hide hset
      clear hset hcell hcell' hx hy
      have hlt' : (m : Int) < (n1 : Int) := by omega
      have hlt2 : (m : Int) < (n2 : Int) := by omega
      go_wp2_with (go_at_call 107; refine (addNumber_any p x k y _ hp hp2 r1.1 r1.2 hk0 hk1 r2.1 r2.2).mono ?_; rintro e w' ⟨rfl, rfl⟩)
      go_roundw
      case rel => exact ⟨m + 1, by omega, by go_num, Hset, hbr.setCell (by simp) _, by simpa using hsr⟩
      case measure => simp [intOf]; omega
    · obtain rfl : m = n1 := by omega
      have ho : Own w.heap.size wr (some ⟨w.heap.size, 0, none⟩) m (addlM p k xs ys) := by
        have h2 := hR.out
        rw [alH_all _ _ _ _ _ hl1.out] at h2
        have h3 := h2.own' (Nat.le_refl _) (by rw [addlM_len, hl1.out]; unfold maxLen; omega)
        rwa [addlM_len, hl1.out] at h3
      clear hcell hcell'
      go_wp2
      go_ret
      exact ⟨_, rfl, ho, hbr⟩
def adC (p : Int) (xs : List Int) (q : Int) (ys : List Int) (k : Int) : Int := if momB p xs && momB q ys then (if p = q ∧ xs.length = ys.length ∧ 0 ≤ k ∧ k < p then 0 else 2) else 1
def adV (p : Int) (xs : List Int) (q : Int) (ys : List Int) (k : Int) : List Int := if adC p xs q ys k = 0 then addlM p k xs ys else []
def adP (p : Int) (xs : List Int) (q : Int) (ys : List Int) (k : Int) : Int := if adC p xs q ys k = 0 then p else 0
end Go.Proofs.YtdjifjlgllohmaaDoor
