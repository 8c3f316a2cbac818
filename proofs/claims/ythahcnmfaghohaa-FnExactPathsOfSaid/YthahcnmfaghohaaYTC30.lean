/- Merged texts. -/
import Derived.Test.YthahcnmfaghohaaYTC29
import Derived.BigRegion
import Derived.Test.YthahcnmfaghohaaYTC22
import Derived.Test.YthahcnmfaghohaaYTC25
/- Contracts: rows of nodes, slices.Reverse at them, beginnings, HeightsOf. -/
namespace Go.Proofs.Ythahcnmfaghohaa
open Go.RowKit
set_option linter.unusedVariables false
set_option linter.unusedSimpArgs false

theorem infoN : (Try.prog.info? 50).map (fun i => (i.zero, i.size, i.bytes)) = some (some (.pointer none), 1, 8) := by kernel_rfl
def OwnN (B : Nat) (w : World) (a : Option Addr) (cap : Nat) (ys : List Value) : Prop := w.ownsRow B 50 1 (.slice a ys.length cap) ys.length ys
theorem OwnN.nil (B : Nat) (w : World) : OwnN B w none 0 [] := World.ownsRow_nil _ _ _ _
theorem OwnN.below {B : Nat} {w w' : World} {a : Option Addr} {cap : Nat} {ys : List Value} (h : OwnN B w a cap ys) (hb : Below w.heap.size w w') : OwnN B w' a cap ys := by
  refine ⟨h.1, ?_⟩
  rcases h.2 with h' | ⟨g, c, cur, h1, h2, h3, h4⟩
  · exact .inl h'
  · exact .inr ⟨g, c, cur, h1, h2, (hb.block g (lt_of_block h3)).trans h3, h4⟩
theorem OwnN.blkG {B : Nat} {w : World} {a : Option Addr} {c : Nat} {ys : List Value} (h : OwnN B w a c ys) : ∀ g, blk a = some g → B ≤ g := fun g hg => by
  rcases h.2 with ⟨h1, h2⟩ | ⟨g', c', cur, h1, h2, _⟩
  · simp only [Value.slice.injEq] at h1
    rw [h1.1] at hg; cases hg
  · simp only [Value.slice.injEq] at h1
    rw [h1.1] at hg
    simp only [blk, Option.some.injEq] at hg
    omega
theorem OwnN.at {B : Nat} {w : World} {a : Option Addr} {c : Nat} {ys : List Value} (h : OwnN B w a c ys) (h0 : ys.length ≠ 0) : ∃ g, a = some ⟨g, 0, none⟩ ∧ ∀ j, j < ys.length → w.cell? ⟨g, j, none⟩ = ys[j]? := by
  rcases h.2 with ⟨h1, h2⟩ | ⟨g', c', cur, h1, _⟩
  · exact absurd h2 h0
  · simp only [Value.slice.injEq] at h1
    obtain ⟨rfl, _⟩ := h1
    exact ⟨g', rfl, fun j hj => World.ownsRow.cellAt h j (by omega)⟩
set_option maxRecDepth 100000 in
theorem op_appN {w : World} {o : Oper} {a : Act} {K : Act → World → Prop} {Q : Exit → Act → World → Prop}
    (s x : Operand) (ho : o.op = .call { callee := .builtin .append, args := #[s, x], argTypes := #[58, 58] })
    (B : Nat) (ad : Option Addr) (n cap : Nat) (ys : List Value) (hs : a.eval s = .slice ad n cap) (hn : n = ys.length) (hown : OwnN B w ad cap ys)
    (ax : Addr) (c : Nat) (z : Value) (hx : a.eval x = .slice (some ax) 1 c) (hz : w.cell? ax = some z) (hz1' : z.oneCell' = true) (hmax : n + 1 ≤ 4000000) (hB : B ≤ w.heap.size)
    (hK : ∀ ad' cap' w', OwnN B w' ad' cap' (ys ++ [z]) → w.grownBy w' (blk ad) → (blk ad' = blk ad ∨ blk ad' = some w.heap.size) → K (a.put o.dst (.slice ad' (ys ++ [z]).length cap')) w') :
    o.wp Try.prog a w K Q := by
  subst hn
  obtain ⟨i0, hi, hz0, hz1, hz2⟩ := info_parts infoN
  have hnews : ∀ j u, [z][j]? = some u → w.cell? (ax.add j) = some u := by
    intro j u hj
    cases j with
    | zero =>
      simp at hj
      subst hj
      have : ax.add 0 = ax := by cases ax; simp [Addr.add]
      rw [this]; exact hz
    | succ j => simp at hj
  have h1 : ∀ u ∈ [z], u.oneCell' = true := by
    intro u hu
    simp at hu
    subst hu
    exact hz1'
  obtain ⟨v', w1, hr, hown', hgrow, _, hloc⟩ := run_append_own_at (P := Try.prog) w B 58 o.type 50 i0 (.pointer none) 1 8 Try.underlying58 hi hz0 hz1 hz2 rfl (by decide) _ _ _ hown ax 1 c [z] rfl hnews h1 (by unfold maxLen; omega) (by omega) hB
  have hb1 : ∀ (ad : Option Addr) (n c : Nat), (Value.slice ad n c).ownBlock = blk ad := fun ad n c => by cases ad <;> rfl
  rw [hb1] at hgrow hloc
  have hv : ∃ ad' cap', v' = .slice ad' (ys ++ [z]).length cap' := by
    rcases hown'.2 with ⟨h1, h2⟩ | ⟨g, c', cur, h1, h2⟩
    · exact ⟨none, 0, by rw [h1]; congr 1; simp; omega⟩
    · exact ⟨_, c', by rw [h1]; congr 1; simp⟩
  obtain ⟨ad', cap', rfl⟩ := hv
  rw [hb1] at hloc
  unfold Oper.wp execOp
  simp only [ho, resolve, invoke, builtin, Sem.run_bind, Sem.run_pure, Result.andThen_ok, List.map_toArray, List.map_cons, List.map_nil, hs, hx, hr]
  refine hK ad' cap' w1 ?_ hgrow hloc
  unfold OwnN
  have e : (ys ++ [z]).length = ys.length + 1 := by simp
  rw [e] at hown' ⊢
  exact hown'
theorem wp_appN {w : World} {ops : Array Oper} {rest : List Oper} {o : Oper} {a : Act} {Q : Exit → Act → World → Prop}
    (hgd : o.guard = none) (s x : Operand) (ho : o.op = .call { callee := .builtin .append, args := #[s, x], argTypes := #[58, 58] })
    (B : Nat) (ad : Option Addr) (n cap : Nat) (ys : List Value) (hs : a.eval s = .slice ad n cap) (hn : n = ys.length) (hown : OwnN B w ad cap ys)
    (ax : Addr) (c : Nat) (z : Value) (hx : a.eval x = .slice (some ax) 1 c) (hz : w.cell? ax = some z) (hz1' : z.oneCell' = true) (hmax : n + 1 ≤ 4000000) (hB : B ≤ w.heap.size)
    (hK : ∀ ad' cap' w', OwnN B w' ad' cap' (ys ++ [z]) → w.grownBy w' (blk ad) → (blk ad' = blk ad ∨ blk ad' = some w.heap.size) → wpList Try.prog ops Q rest (a.put o.dst (.slice ad' (ys ++ [z]).length cap')) w') :
    wpList Try.prog ops Q (o :: rest) a w :=
  wpList_plain hgd fun K hK' => op_appN s x ho B ad n cap ys hs hn hown ax c z hx hz hz1' hmax hB fun ad' cap' w' h1 h2 h3 => hK' _ _ (hK ad' cap' w' h1 h2 h3)
theorem Touch.putN {lo hi : Nat} {a w : World} (h : Touch lo hi a w) {x : Addr} (h1 : lo ≤ x.block) (h2 : x.block < hi) (u : Value) : Touch lo hi a (w.setCell x u) :=
  h.trans ⟨rfl, rfl, rfl, by simp, fun k hk hd => Below.heap_setCell _ _ _ _ (by omega)⟩
theorem Touch.drN {lo hi : Nat} {a w : World} (h : Touch lo hi a w) : Touch lo hi a w.drew := h.trans ⟨rfl, rfl, rfl, Nat.le_refl _, fun _ _ _ => rfl⟩
def ptr (q : Nat) : Value := .pointer (some ⟨q, 0, none⟩)
def ptV (f : Nat → Nat) (n : Nat) : List Value := (List.range n).map (fun j => ptr (f j))
theorem ptV_len (f : Nat → Nat) (n : Nat) : (ptV f n).length = n := by simp [ptV]
theorem ptV_snoc (f : Nat → Nat) (n : Nat) : ptV f n ++ [ptr (f n)] = ptV f (n + 1) := by simp [ptV, List.range_succ]
theorem ptV_at (f : Nat → Nat) (n : Nat) (j : Nat) (hj : j < n) : (ptV f n)[j]? = some (ptr (f j)) := by simp [ptV, hj]
theorem ptV_congr {f g : Nat → Nat} {n : Nat} (e : ∀ j, j < n → f j = g j) : ptV f n = ptV g n := by
  unfold ptV
  apply List.map_congr_left
  intro j hj
  rw [e j (List.mem_range.1 hj)]
theorem ptV_set (f : Nat → Nat) (n i v : Nat) : (ptV f n).set i (ptr v) = ptV (fun j => if j = i then v else f j) n := by
  apply List.ext_getElem?
  intro j
  rw [List.getElem?_set]
  by_cases hj : j < n
  · by_cases e : i = j
    · subst e
      simp [ptV, hj]
    · have e' : ¬ j = i := fun h => e h.symm
      simp [ptV, hj, e, e']
  · by_cases e : i = j
    · subst e
      simp [ptV, hj]
    · simp [ptV, hj, e]
def rvN (f : Nat → Nat) (n i : Nat) : Nat → Nat := fun j => if j < i ∨ n ≤ j + i then f (n - 1 - j) else f j
theorem rvN_step (f : Nat → Nat) (n i : Nat) (hi : i + 1 < n - i) : ((ptV (rvN f n i) n).set i (ptr (f (n - 1 - i)))).set (n - 1 - i) (ptr (f i)) = ptV (rvN f n (i + 1)) n := by
  rw [ptV_set, ptV_set]
  apply ptV_congr
  intro j hj
  unfold rvN
  by_cases e1 : j = n - 1 - i
  · subst e1
    rw [if_pos rfl, if_pos (by omega)]
    congr 1; omega
  · rw [if_neg e1]
    by_cases e2 : j = i
    · subst e2
      rw [if_pos rfl, if_pos (by omega)]
    · rw [if_neg e2]
      by_cases e3 : j < i ∨ n ≤ j + i
      · rw [if_pos e3, if_pos (by omega)]
      · rw [if_neg e3, if_neg (by omega)]
theorem rvN_zero (f : Nat → Nat) (n : Nat) : ptV (rvN f n 0) n = ptV f n := ptV_congr fun j hj => by
  unfold rvN
  rw [if_neg (by omega)]
theorem rvN_all (f : Nat → Nat) (n i : Nat) (hi : n ≤ 2 * i + 1) (hi2 : i ≤ n) : ptV (rvN f n i) n = ptV (fun j => f (n - 1 - j)) n := ptV_congr fun j hj => by
  unfold rvN
  by_cases e3 : j < i ∨ n ≤ j + i
  · rw [if_pos e3]
  · rw [if_neg e3]
    congr 1; omega
theorem OwnN.cellG {B : Nat} {w : World} {g c : Nat} {f : Nat → Nat} {n : Nat} (h : OwnN B w (some ⟨g, 0, none⟩) c (ptV f n)) (j : Nat) (hj : j < n) : w.cell? ⟨g, j, none⟩ = some (.pointer (some ⟨f j, 0, none⟩)) := by
  have := World.ownsRow.cellAt h j (by rw [ptV_len, Nat.mul_one]; exact hj)
  rw [this, ptV_at _ _ _ hj]
  rfl
theorem OwnN.freeG {B : Nat} {w : World} {g c : Nat} {ys : List Value} (h : OwnN B w (some ⟨g, 0, none⟩) c ys) (j : Nat) : w.frozen? ⟨g, j, none⟩ = false := World.ownsRow.frozenAt h j
theorem OwnN.setG {B : Nat} {w : World} {g c : Nat} {ys : List Value} (h : OwnN B w (some ⟨g, 0, none⟩) c ys) (j : Nat) (u : Value) : OwnN B (w.setCell ⟨g, j, none⟩ u) (some ⟨g, 0, none⟩) c (ys.set j u) := by
  have := (World.ownsRow.stored h j u).1
  unfold OwnN
  rw [List.length_set]
  exact this
set_option maxRecDepth 100000 in
set_option maxHeartbeats 1600000 in
theorem reverseN_any (B g n cap c : Nat) (h : Nat → Nat) (w : World) (ho : OwnN B w (some ⟨g, 0, none⟩) cap (ptV h n)) (hn : 1 ≤ n) (hn2 : n ≤ 1000) :
    Calls Try.prog 49 #[.slice (some ⟨g, 0, none⟩) n c] w fun e w' => e = .returned (.tuple #[]) ∧ OwnN B w' (some ⟨g, 0, none⟩) cap (ptV (fun j => h (n - 1 - j)) n) ∧ Touch g (g + 1) w w' := by
  have ho0 : Hid (OwnN B w (some ⟨g, 0, none⟩) cap (ptV (rvN h n 0) n)) := hide (by rw [rvN_zero]; exact ho)
  clear ho
  have hg0 : Touch g (g + 1) w w := ⟨rfl, rfl, rfl, Nat.le_refl _, fun _ _ _ => rfl⟩
  have v0 : IntKind.i64.wrap ((n : Int) - 1) = (n : Int) - 1 := IntWalk.i64_in _ (by omega)
  go_enter Try.func49, Try.ntmps49
  go_wp2
  clear v0
  go_loopw [2, 3] (fun iv jv wr => ∃ i : Nat, 2 * i ≤ n ∧ iv = .int .i64 i ∧ jv = .int .i64 ((n : Int) - 1 - i) ∧ Hid (OwnN B wr (some ⟨g, 0, none⟩) cap (ptV (rvN h n i) n)) ∧ Touch g (g + 1) w wr) (fun iv _ _ => n - (intOf iv).toNat)
  case atStart => exact ⟨0, by omega, rfl, by go_num, ho0, hg0⟩
  case round =>
    obtain ⟨i, hi, rfl, rfl, hO, ht⟩ := hrel
    clear ho0 hg0
    by_cases hlt : (i : Int) < (n : Int) - 1 - i
    · obtain ⟨k, hk⟩ : ∃ k : Nat, k = n - 1 - i := ⟨_, rfl⟩
      have hki : (n : Int) - 1 - i = (k : Int) := by omega
      have c1 := OwnN.cellG hO.out i (by omega)
      have c2 := OwnN.cellG hO.out k (by omega)
      rw [show rvN h n i i = h i by unfold rvN; rw [if_neg (by omega)]] at c1
      rw [show rvN h n i k = h k by unfold rvN; rw [if_neg (by omega)]] at c2
      have f1 := OwnN.freeG hO.out i
      have f2 := OwnN.freeG hO.out k
      have hs := hide (OwnN.setG (OwnN.setG hO.out i (ptr (h k))) k (ptr (h i)))
      have e := rvN_step h n i (by omega)
      rw [← hk] at e
      rw [e] at hs
      unfold ptr at hs
      obtain ⟨X, hX⟩ : ∃ X, h i = X := ⟨_, rfl⟩
      obtain ⟨Y, hY⟩ : ∃ Y, h k = Y := ⟨_, rfl⟩
      rw [hX] at c1 hs
      rw [hY] at c2 hs
      rw [hki] at hlt ⊢
      have q1 : (i : Int) < (n : Int) := by omega
      have q2 : (k : Int) < (n : Int) := by omega
      have q3 : ¬ (k : Int) < 0 := by omega
      have q4 : (0 : Int) ≤ (k : Int) := by omega
      have q5 : (0 : Int) ≤ (i : Int) := by omega
      have v1 : IntKind.i64.wrap ((k : Int) - 1) = (k : Int) - 1 := IntWalk.i64_in _ (by omega)
      have q6 : k ≠ i := by omega
      have q7 : i ≠ k := by omega
      have Hk := hide hk
      clear hX hY e hO hk hki
      go_wp2_with fail
      go_region
      all_goals go_wp2
      all_goals go_roundw
      all_goals first
        | exact ⟨i + 1, by have := Hk.out; omega, by go_num, by rw [show ((n : Int) - 1 - ((i + 1 : Nat) : Int)) = (k : Int) - 1 by have := Hk.out; omega], hide (hs.out.below ((Below.refl _ _).drew)), ((ht.putN (by simp) (by simp) _).putN (by simp) (by simp) _).drN⟩
        | (simp [intOf]; omega)
    · have e := rvN_all h n i (by omega) (by omega)
      have hO2 := hO.out
      rw [e] at hO2
      have HO := hide hO2
      clear hO hO2 e
      go_wp2
      refine bodyPost_end (v := .tuple #[]) (by simp [results, Try.results49]) rfl ?_
      exact ⟨rfl, HO.out, ht⟩
set_option maxRecDepth 100000 in
set_option maxHeartbeats 1600000 in
theorem beginnings_any (p : Int) (A B : List Int) (s : ByteArray) (i : Int) (Q : Nat → Nat) (lo n : Nat) (w : World) (hC : Chain lo w p A B s i Q n) (hn : n ≤ 24) :
    Calls Try.prog 33 #[.pointer (some ⟨Q n, 0, none⟩)] w fun e w' => ∃ g c, e = .returned (.slice (some ⟨g, 0, none⟩) (n + 1) c) ∧ OwnN w.heap.size w' (some ⟨g, 0, none⟩) c (ptV Q (n + 1)) ∧ Below w.heap.size w w' := by
  have HC := hide hC
  clear hC
  have hO0 : Hid (OwnN w.heap.size w none 0 (ptV (fun j => Q (n - j)) 0)) := hide (OwnN.nil _ _)
  have hr : Below w.heap.size w w := Below.refl _ _
  have hP0 := hide (show (0 ≤ n → (some (⟨Q n, 0, none⟩ : Addr) : Option Addr) = some ⟨Q (n - 0), 0, none⟩) ∧ (¬ 0 ≤ n → (some (⟨Q n, 0, none⟩ : Addr) : Option Addr) = none) from ⟨fun _ => rfl, fun h => absurd (Nat.zero_le _) h⟩)
  go_enter Try.func33, Try.ntmps33
  go_wp2
  go_loopw [0, 3] (fun bv sv wr => ∃ (t : Nat) (bp a : Option Addr) (c : Nat), t ≤ n + 1 ∧ bv = .pointer bp ∧ Hid ((t ≤ n → bp = some ⟨Q (n - t), 0, none⟩) ∧ (¬ t ≤ n → bp = none)) ∧ sv = .slice a t c ∧ Hid (OwnN w.heap.size wr a c (ptV (fun j => Q (n - j)) t)) ∧ Below w.heap.size w wr) (fun _ sv _ => n + 1 - slN sv)
  case atStart => exact ⟨0, _, none, 0, by omega, rfl, hP0, rfl, hO0, hr⟩
  case round =>
    obtain ⟨t, bp, a, c, ht, rfl, hP, rfl, hO, hb⟩ := hrel
    clear hO0 hr hP0
    by_cases hlt : t ≤ n
    · obtain rfl := hP.out.1 hlt
      obtain ⟨bq, hbq⟩ : ∃ bq : Option Addr, (if n - t = 0 then none else some (⟨Q (n - t - 1), 0, none⟩ : Addr)) = bq := ⟨_, rfl⟩
      have HN := hide (show w.cell? ⟨Q (n - t), 0, none⟩ = some (.pointer bq) by rw [← hbq]; exact (HC.out (n - t) (by omega)).2.c0)
      have hP2 := hide (show (t + 1 ≤ n → bq = some ⟨Q (n - (t + 1)), 0, none⟩) ∧ (¬ t + 1 ≤ n → bq = none) from ⟨fun h => by rw [← hbq, if_neg (by omega)]; rfl, fun h => by rw [← hbq, if_pos (by omega)]⟩)
      have hvl := hide (show (ptV (fun j => Q (n - j)) t).length = t from ptV_len _ _)
      have hba := bl1 wr (.cells #[.pointer (some ⟨Q (n - t), 0, none⟩)] 50)
      have hOa := hide (hO.out.below hba)
      have hcl : (wr.alloc (.cells #[.pointer (some ⟨Q (n - t), 0, none⟩)] 50)).cell? ⟨wr.heap.size, 0, none⟩ = some (.pointer (some ⟨Q (n - t), 0, none⟩)) := by simp [go_sem]
      have HZa := hide (show (wr.alloc (.cells #[.pointer (some ⟨Q (n - t), 0, none⟩)] 50)).heap.size = wr.heap.size + 1 by simp)
      have zb := hb.size
      have hst := hide (show ptV (fun j => Q (n - j)) t ++ [Value.pointer (some ⟨Q (n - t), 0, none⟩)] = ptV (fun j => Q (n - j)) (t + 1) from ptV_snoc (fun j => Q (n - j)) t)
      clear hbq hP
      go_wp2_with (at_builtin; with_reducible refine wp_appN rfl _ _ rfl w.heap.size _ _ _ _ rfl hvl.out.symm hOa.out _ _ _ rfl hcl rfl (by omega) (by have := HZa.out; omega) ?_; intro ad' cap' w' hown' hgr hloc; have hbg := OwnN.blkG hOa.out; have hb2 : Below w.heap.size w w' := (hb.trans (hba.mono zb)).grown hgr (by have := HZa.out; omega) hbg; have n0b := cell_be hb2 HN.out)
      have Hown := hide (show OwnN w.heap.size w' ad' cap' (ptV (fun j => Q (n - j)) (t + 1)) by rw [← hst.out]; exact hown')
      clear hown' hgr hloc hOa hO hcl hba hbg
      go_roundw
      case rel => exact ⟨t + 1, bq, ad', cap', by omega, rfl, hP2, by rw [hvl.out], Hown, hb2⟩
      case measure => simp [slN, hvl.out]; omega
    · obtain rfl := hP.out.2 hlt
      obtain rfl : t = n + 1 := by omega
      obtain ⟨g, rfl, _⟩ := OwnN.at hO.out (by rw [ptV_len]; omega)
      have hG : w.heap.size ≤ g := OwnN.blkG hO.out g rfl
      have HG := hide hG
      have zb := hb.size
      clear hlt hG
      go_wp2_with fail
      refine (reverseN_any w.heap.size g (n + 1) c c (fun j => Q (n - j)) wr hO.out (by omega) (by omega)).mono ?_
      rintro e w5 ⟨rfl, o5, t5⟩
      have B5 := below_touch hb t5 HG.out zb
      have e5 : ptV (fun j => (fun j => Q (n - j)) (n + 1 - 1 - j)) (n + 1) = ptV Q (n + 1) := ptV_congr fun j hj => by
        show Q (n - (n + 1 - 1 - j)) = Q j
        congr 1; omega
      rw [e5] at o5
      have O5 := hide o5
      clear e5 o5 t5 hO
      go_wp2
      refine bodyPost_ret (v := .slice (some ⟨g, 0, none⟩) (n + 1) c) (by simp [results, Try.results33]) rfl ?_
      exact ⟨g, c, rfl, O5.out, B5⟩
end Go.Proofs.Ythahcnmfaghohaa
/- Mathematics: the lists of paths, by beginnings and by a recursion, and how many there are. -/
namespace Go.Proofs.Ythahcnmfaghohaa
open Go.RowKit
set_option linter.unusedVariables false
set_option linter.unusedSimpArgs false

def mv (c : Int) : Int := if c = 85 then 1 else if c = 68 then -1 else 0
def okStep (h k left x : Int) : Bool := decide (0 ≤ x ∧ x ≤ h ∧ x - k ≤ left ∧ k - x ≤ left)
def dluL : List Int := [68, 76, 85]
def endH (i : Int) (w : List Int) : Int := w.foldl (fun a c => a + mv c) i
theorem endH_snoc (i : Int) (w : List Int) (c : Int) : endH i (w ++ [c]) = endH i w + mv c := by simp [endH]
/-- the ways on from a beginning, with as many steps left behind them -/
def ext1 (h k left i : Int) (w : List Int) : List (List Int) := (dluL.filter (fun c => okStep h k left (endH i w + mv c))).map (fun c => w ++ [c])
def bfsL (h k i : Int) (N : Nat) : Nat → List (List Int)
  | 0 => [[]]
  | t + 1 => (bfsL h k i N t).flatMap (ext1 h k ((N : Int) - (t + 1)) i)
def recL (h k : Int) : Nat → Int → List (List Int)
  | 0, i => if i > h ∨ k > h ∨ i - k > 0 ∨ k - i > 0 then [] else [[]]
  | n + 1, i => if i > h ∨ k > h ∨ i - k > (n : Int) + 1 ∨ k - i > (n : Int) + 1 then [] else dluL.flatMap (fun c => if i + mv c < 0 then [] else (recL h k n (i + mv c)).map (c :: ·))
theorem recL_bad {h k : Int} {n : Nat} {i : Int} (hb : i > h ∨ k > h ∨ i - k > n ∨ k - i > n) : recL h k n i = [] := by
  cases n with
  | zero => rw [recL, if_pos (by simpa using hb)]
  | succ n => rw [recL, if_pos (by push_cast at hb; exact hb)]
theorem flatMap_fm {α β γ : Type} (P : α → Bool) (f : α → β) (g : β → List γ) : ∀ l : List α, ((l.filter P).map f).flatMap g = l.flatMap (fun c => if P c then g (f c) else [])
  | [] => rfl
  | a :: l => by
    rw [List.filter_cons]
    by_cases h : P a = true
    · rw [if_pos h, List.map_cons, List.flatMap_cons, List.flatMap_cons, flatMap_fm P f g l, if_pos h]
    · rw [if_neg h, List.flatMap_cons, flatMap_fm P f g l, if_neg h, List.nil_append]
theorem rec_step {h k i : Int} {w : List Int} {l : Nat} (hk : k ≤ h) (ho : okStep h k ((l : Int) + 1) (endH i w) = true) :
    (recL h k (l + 1) (endH i w)).map (w ++ ·) = (ext1 h k l i w).flatMap (fun w' => (recL h k l (endH i w')).map (w' ++ ·)) := by
  have ho' := of_decide_eq_true ho
  rw [recL, if_neg (by omega)]
  unfold ext1
  rw [flatMap_fm, List.map_flatMap]
  congr 1
  funext c
  by_cases hc : okStep h k l (endH i w + mv c) = true
  · have hc' := of_decide_eq_true hc
    rw [if_pos hc, if_neg (by omega), List.map_map, endH_snoc]
    apply List.map_congr_left
    intro r _
    simp
  · rw [if_neg hc]
    by_cases hn : endH i w + mv c < 0
    · rw [if_pos hn]; rfl
    · have hc' : ¬ _ := fun q => hc (decide_eq_true q)
      rw [if_neg hn, recL_bad (by omega)]
      rfl
theorem bfs_inv {h k i : Int} {N : Nat} (hk : k ≤ h) (hi : okStep h k N i = true) : ∀ t, t ≤ N →
    (bfsL h k i N t).flatMap (fun w => (recL h k (N - t) (endH i w)).map (w ++ ·)) = recL h k N i ∧ ∀ w ∈ bfsL h k i N t, okStep h k ((N : Int) - t) (endH i w) = true
  | 0, _ => by
    refine ⟨?_, ?_⟩
    · simp [bfsL, endH]
    · intro w hw
      simp [bfsL] at hw
      subst hw
      simpa [endH] using hi
  | t + 1, ht => by
    obtain ⟨i1, i2⟩ := bfs_inv hk hi t (by omega)
    refine ⟨?_, ?_⟩
    · rw [← i1, bfsL, List.flatMap_assoc]
      have e : N - t = (N - (t + 1)) + 1 := by omega
      have aux : ∀ l : List (List Int), (∀ w ∈ l, okStep h k ((N : Int) - t) (endH i w) = true) → l.flatMap (fun w => (ext1 h k ((N : Int) - (t + 1)) i w).flatMap (fun w' => (recL h k (N - (t + 1)) (endH i w')).map (w' ++ ·))) = l.flatMap (fun w => (recL h k (N - t) (endH i w)).map (w ++ ·)) := by
        intro l hl
        induction l with
        | nil => rfl
        | cons w l ih =>
          rw [List.flatMap_cons, List.flatMap_cons, ih (fun w hw => hl w (List.mem_cons_of_mem _ hw))]
          congr 1
          have h1 := hl w (List.mem_cons_self ..)
          rw [e, rec_step hk (by rw [show (((N - (t + 1) : Nat) : Int) + 1) = (N : Int) - t by omega]; exact h1)]
          rw [show ((N - (t + 1) : Nat) : Int) = (N : Int) - (t + 1) by omega]
      exact aux _ i2
    · intro w hw
      rw [bfsL, List.mem_flatMap] at hw
      obtain ⟨u, hu, hw⟩ := hw
      unfold ext1 at hw
      rw [List.mem_map] at hw
      obtain ⟨c, hc, rfl⟩ := hw
      rw [endH_snoc]
      have := (List.mem_filter.1 hc).2
      push_cast
      exact this
/-- the two lists are the same -/
theorem bfs_rec {h k i : Int} {N : Nat} (hk : k ≤ h) (hi : okStep h k N i = true) : bfsL h k i N N = recL h k N i := by
  obtain ⟨i1, i2⟩ := bfs_inv hk hi N (Nat.le_refl _)
  rw [← i1]
  have aux : ∀ l : List (List Int), (∀ w ∈ l, okStep h k ((N : Int) - N) (endH i w) = true) → l = l.flatMap (fun w => (recL h k (N - N) (endH i w)).map (w ++ ·)) := by
    intro l hl
    induction l with
    | nil => rfl
    | cons w l ih =>
      have h1 := of_decide_eq_true (hl w (List.mem_cons_self ..))
      rw [List.flatMap_cons, ← ih (fun w hw => hl w (List.mem_cons_of_mem _ hw)), Nat.sub_self, recL, if_neg (by omega)]
      simp
  exact aux _ i2
theorem bfs_mem {h k i : Int} {N : Nat} : ∀ t, ∀ w ∈ bfsL h k i N t, w.length = t ∧ ∀ c ∈ w, c ∈ dluL
  | 0 => by intro w hw; simp [bfsL] at hw; subst hw; simp
  | t + 1 => by
    intro w hw
    rw [bfsL, List.mem_flatMap] at hw
    obtain ⟨u, hu, hw⟩ := hw
    unfold ext1 at hw
    rw [List.mem_map] at hw
    obtain ⟨c, hc, rfl⟩ := hw
    obtain ⟨h1, h2⟩ := bfs_mem t u hu
    refine ⟨by simp [h1], ?_⟩
    intro d hd
    rw [List.mem_append] at hd
    rcases hd with hd | hd
    · exact h2 d hd
    · simp at hd; subst hd; exact (List.mem_filter.1 hc).1
/-- how many: by the last step -/
def cntR (M : Int) : Nat → Int → Int → Int
  | 0, i, k => if (0 ≤ i ∧ i ≤ M) ∧ i = k then 1 else 0
  | n + 1, i, k => if 0 ≤ k ∧ k ≤ M then cntR M n i (k - 1) + cntR M n i k + cntR M n i (k + 1) else 0
theorem cntR_out {M : Int} : ∀ n i k, (¬ (0 ≤ i ∧ i ≤ M) ∨ ¬ (0 ≤ k ∧ k ≤ M)) → cntR M n i k = 0
  | 0, i, k, h => by
    rw [cntR, if_neg]
    rintro ⟨h1, rfl⟩
    rcases h with h | h
    · exact h h1
    · exact h h1
  | n + 1, i, k, h => by
    rw [cntR]
    split
    · rename_i hk
      have hi : ¬ (0 ≤ i ∧ i ≤ M) := h.resolve_right (fun q => q hk)
      rw [cntR_out n i _ (.inl hi), cntR_out n i _ (.inl hi), cntR_out n i _ (.inl hi)]
      rfl
    · rfl
theorem cntR_far {M : Int} : ∀ (n : Nat) (i k : Int), (i - k > n ∨ k - i > n) → cntR M n i k = 0
  | 0, i, k, h => by
    rw [cntR, if_neg]
    rintro ⟨_, rfl⟩
    simp at h
  | n + 1, i, k, h => by
    rw [cntR, cntR_far n i _ (by push_cast at h; omega), cntR_far n i _ (by push_cast at h; omega), cntR_far n i _ (by push_cast at h; omega)]
    split <;> rfl
/-- by the first step -/
theorem cntR_front {M : Int} : ∀ n i k, cntR M (n + 1) i k = if 0 ≤ i ∧ i ≤ M then cntR M n (i - 1) k + cntR M n i k + cntR M n (i + 1) k else 0
  | 0, i, k => by
    by_cases hi : 0 ≤ i ∧ i ≤ M
    · by_cases hk : 0 ≤ k ∧ k ≤ M
      · rw [if_pos hi, cntR.eq_2, if_pos hk]
        simp only [cntR.eq_1]
        (repeat' split) <;> omega
      · rw [if_pos hi, cntR_out 1 i k (.inr hk), cntR_out 0 _ k (.inr hk), cntR_out 0 _ k (.inr hk), cntR_out 0 _ k (.inr hk)]
        rfl
    · rw [if_neg hi, cntR_out 1 i k (.inl hi)]
  | n + 1, i, k => by
    by_cases hi : 0 ≤ i ∧ i ≤ M
    · by_cases hk : 0 ≤ k ∧ k ≤ M
      · have a1 := cntR_front (M := M) n i (k - 1)
        have a3 := cntR_front (M := M) n i (k + 1)
        have a2 := cntR_front (M := M) n i k
        have b : ∀ x, cntR M (n + 1) x k = cntR M n x (k - 1) + cntR M n x k + cntR M n x (k + 1) := fun x => by rw [cntR.eq_2, if_pos hk]
        have b1 := b (i - 1)
        have b2 := b i
        have b3 := b (i + 1)
        rw [if_pos hi] at a1 a2 a3 ⊢
        rw [cntR.eq_2, if_pos hk]
        omega
      · rw [if_pos hi, cntR_out _ i k (.inr hk), cntR_out _ _ k (.inr hk), cntR_out _ _ k (.inr hk), cntR_out _ _ k (.inr hk)]
        rfl
    · rw [if_neg hi, cntR_out _ i k (.inl hi)]
theorem recL_cnt {M k : Int} (hk : 0 ≤ k) : ∀ (n : Nat) (i : Int), 0 ≤ i → ((recL M k n i).length : Int) = cntR M n i k
  | 0, i, hi => by
    rw [recL, cntR]
    by_cases e : (0 ≤ i ∧ i ≤ M) ∧ i = k
    · rw [if_pos e, if_neg (by omega)]; rfl
    · rw [if_neg e, if_pos (by omega)]; rfl
  | n + 1, i, hi => by
    by_cases hb : i > M ∨ k > M ∨ i - k > (n : Int) + 1 ∨ k - i > (n : Int) + 1
    · rw [recL, if_pos hb]
      rcases hb with h | h | h | h
      · rw [cntR_out _ _ _ (.inl (by omega))]; rfl
      · rw [cntR_out _ _ _ (.inr (by omega))]; rfl
      · rw [cntR_far _ _ _ (.inl (by push_cast; omega))]; rfl
      · rw [cntR_far _ _ _ (.inr (by push_cast; omega))]; rfl
    · rw [recL, if_neg hb, cntR_front, if_pos (by omega)]
      have m1 : i + mv 68 = i - 1 := by simp [mv]; omega
      have m2 : i + mv 76 = i := by simp [mv]
      have m3 : i + mv 85 = i + 1 := by simp [mv]
      simp only [dluL, List.flatMap_cons, List.flatMap_nil, List.append_nil, List.length_append, m1, m2, m3]
      rw [if_neg (show ¬ i < 0 by omega), if_neg (show ¬ i + 1 < 0 by omega), List.length_map, List.length_map]
      push_cast
      rw [recL_cnt hk n i hi, recL_cnt hk n (i + 1) (by omega)]
      by_cases h0 : i - 1 < 0
      · rw [if_pos h0, cntR_out n (i - 1) k (.inl (by omega))]
        simp
      · rw [if_neg h0, List.length_map, recL_cnt hk n (i - 1) (by omega)]
        omega
theorem addAt_val {p : Int} {row : List Int} (hn : nnL row) (t : Nat) {x : Int} (hx : 0 ≤ x) (hb : totL row + x < p) (j : Nat) (hj : j < row.length) : (addAt p row t x).getD j 0 = row.getD j 0 + if j = t then x else 0 := by
  rw [(addAt_small hn t hx hb).1, getD_setI]
  by_cases e : j = t
  · subst e
    rw [if_pos ⟨rfl, hj⟩, if_pos rfl]
  · rw [if_neg (fun q => e q.1), if_neg e]; omega
theorem bitL_cnt (m : Nat) : bitL (cntL m 1) := fun j => by rw [cntL_at]; split <;> simp
theorem rnds_val {p : Int} {m : Nat} {v : List Int} (hl : v.length = m) (hv : nnL v) (hb : 3 * totL v < p) : ∀ h, h ≤ m → ∀ j, j < m → (rndsP p (cntL m 1) (cntL m 1) v h).getD j 0 = (if j + 1 < h then v.getD (j + 1) 0 else 0) + (if j < h then v.getD j 0 else 0) + (if 1 ≤ j ∧ j ≤ h then v.getD (j - 1) 0 else 0)
  | 0, _, j, hj => by
    rw [rndsP, zeroD, if_neg (by omega), if_neg (by omega), if_neg (by omega)]; rfl
  | h + 1, hh, j, hj => by
    have ih := rnds_val hl hv hb h (by omega)
    obtain ⟨i1, i2⟩ := rnds_small (p := p) (bitL_cnt m) (bitL_cnt m) hv hb h (by omega)
    have hle := totN_le hv (h + 1) v.length (by omega)
    rw [totN_all, totN] at hle
    have rl := rndsP_len p (cntL m 1) (cntL m 1) v h
    have v0 := hv h
    have c1 : (cntL m 1).getD h 0 = 1 := by rw [cntL_at, if_pos (by omega)]
    obtain ⟨row, hrow⟩ : ∃ row, rndsP p (cntL m 1) (cntL m 1) v h = row := ⟨_, rfl⟩
    rw [hrow] at ih i1 i2 rl
    rw [rndsP, hrow]
    unfold rndP
    rw [c1, Int.one_mul]
    obtain ⟨V, hV⟩ : ∃ V, v.getD h 0 = V := ⟨_, rfl⟩
    have d : nnL (rndD p (cntL m 1) v row h) ∧ totL (rndD p (cntL m 1) v row h) ≤ totL row + V ∧ (rndD p (cntL m 1) v row h).length = row.length ∧ (rndD p (cntL m 1) v row h).getD j 0 = row.getD j 0 + if j + 1 = h then V else 0 := by
      unfold rndD
      rw [hV] at v0 hle ⊢
      split
      · rename_i e
        subst e
        exact ⟨i1, by omega, rfl, by rw [if_neg (by omega)]; omega⟩
      · rename_i e
        rw [c1, Int.one_mul]
        obtain ⟨_, x1, x2, _⟩ := addAt_small (p := p) i1 (h - 1) v0 (by omega)
        refine ⟨x1, x2, addAt_len _ _ _ _, ?_⟩
        rw [addAt_val i1 (h - 1) v0 (by omega) j (by omega)]
        by_cases q : j = h - 1
        · rw [if_pos q, if_pos (by omega)]
        · rw [if_neg q, if_neg (by omega)]
    obtain ⟨d1, d2, d3, d4⟩ := d
    rw [hV] at v0 hle ⊢
    obtain ⟨_, y1, y2, _⟩ := addAt_small (p := p) d1 h v0 (by omega)
    rw [addAt_val y1 (h + 1) v0 (by omega) j (by rw [addAt_len, d3]; omega), addAt_val d1 h v0 (by omega) j (by rw [d3]; omega), d4, ih j hj]
    by_cases e1 : j + 1 = h
    · have e1' : v.getD (j + 1) 0 = V := by rw [e1, hV]
      rw [e1']
      (repeat' split) <;> omega
    · by_cases e2 : j = h
      · have e2' : v.getD j 0 = V := by rw [e2, hV]
        rw [e2']
        (repeat' split) <;> omega
      · by_cases e3 : j = h + 1
        · have e3' : v.getD (j - 1) 0 = V := by rw [e3, Nat.add_sub_cancel, hV]
          rw [e3']
          (repeat' split) <;> omega
        · (repeat' split) <;> omega
theorem row_cnt (M i : Nat) (hiM : i ≤ M) : ∀ n, n ≤ 24 → ∀ k : Nat, k ≤ M → (rowP cntP (cntL (M + 1) 1) (cntL (M + 1) 1) (M + 1) i n).getD k 0 = cntR M n i k
  | 0, _, k, hk => by
    rw [rowP, getD_setI, zeroD, cntR, List.length_replicate]
    by_cases e : k = i
    · subst e
      rw [if_pos ⟨rfl, by omega⟩, if_pos (by omega)]
    · rw [if_neg (fun q => e q.1), if_neg (by omega)]
  | n + 1, hn, k, hk => by
    obtain ⟨i1, i2⟩ := row_small (p := cntP) (bitL_cnt (M + 1)) (bitL_cnt (M + 1)) (M + 1) i (by decide) n (by omega)
    have h3 : (3 : Int) ^ n ≤ 3 ^ 23 := by
      have : (3 : Nat) ^ n ≤ 3 ^ 23 := Nat.pow_le_pow_right (by omega) (by omega)
      exact_mod_cast this
    have h4 : (3 : Int) ^ 23 = 94143178827 := by decide
    have ih := row_cnt M i hiM n (by omega)
    have rl := rowP_len cntP (cntL (M + 1) 1) (cntL (M + 1) 1) (M + 1) i n
    rw [rowP, sprP, rl, rnds_val (p := cntP) rl i1 (Int.lt_of_lt_of_le (b := 1000000000000) (by omega) (by decide)) (M + 1) (Nat.le_refl _) k (by omega), cntR.eq_2, if_pos (show (0 : Int) ≤ (k : Int) ∧ (k : Int) ≤ (M : Int) by omega)]
    rw [if_pos (show k < M + 1 by omega), ih k hk]
    have e1 : (if k + 1 < M + 1 then (rowP cntP (cntL (M + 1) 1) (cntL (M + 1) 1) (M + 1) i n).getD (k + 1) 0 else 0) = cntR M n i ((k : Int) + 1) := by
      split
      · rw [ih (k + 1) (by omega)]; rfl
      · rw [cntR_out n _ _ (.inr (by omega))]
    have e2 : (if 1 ≤ k ∧ k ≤ M + 1 then (rowP cntP (cntL (M + 1) 1) (cntL (M + 1) 1) (M + 1) i n).getD (k - 1) 0 else 0) = cntR M n i ((k : Int) - 1) := by
      split
      · rw [ih (k - 1) (by omega)]
        congr 1; omega
      · rw [cntR_out n _ _ (.inr (by omega))]
    rw [e1, e2]
    omega
theorem sum_cnt (M i n k : Nat) (hn : n ≤ 24) : sumP cntP (cntL (M + 1) 1) (cntL (M + 1) 1) (M + 1) i n k = cntR M n i k := by
  by_cases h : i ≤ M ∧ k ≤ M
  · exact row_cnt M i h.1 n hn k h.2
  · rw [sumP_out _ _ _ _ _ _ _ (by omega), cntR_out n _ _ (by omega)]
/-- how many paths the recursion finds -/
theorem recL_sum (M i n k : Nat) (hn : n ≤ 24) : ((recL M k n i).length : Int) = sumP cntP (cntL (M + 1) 1) (cntL (M + 1) 1) (M + 1) i n k := by
  rw [sum_cnt M i n k hn]
  exact recL_cnt (by omega) n i (by omega)
end Go.Proofs.Ythahcnmfaghohaa
