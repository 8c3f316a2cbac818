/- Merged texts. -/
import Derived.Test.YthahcnmfaghohaaYTB29
import Derived.BigRegion
import Derived.Test.YthahcnmfaghohaaYTB22
/- Contracts: rows of nodes, slices.Reverse at them, beginnings, HeightsOf. -/
namespace Go.Proofs.Ythahcnmfaghohaa
open Go.RowKit
set_option linter.unusedVariables false
set_option linter.unusedSimpArgs false

theorem infoN : (Try.prog.info? 50).map (fun i => (i.zero, i.size, i.bytes)) = some (some (.pointer none), 1, 8) := by kernel_rfl
def OwnN (B : Nat) (w : World) (a : Option Addr) (cap : Nat) (ys : List Value) : Prop := w.ownsRow B 50 1 (.slice a ys.length cap) ys.length ys
theorem OwnN.nil (B : Nat) (w : World) : OwnN B w none 0 [] := World.ownsRow_nil _ _ _ _
theorem OwnN.below {B : Nat} {w w' : World} {a : Option Addr} {cap : Nat} {ys : List Value} (h : OwnN B w a cap ys) (hb : Below w.heap.size w w') : OwnN B w' a cap ys := by
  refine ⟨h.1, ?_⟩
  rcases h.2 with h' | ⟨g, c, cur, h1, h2, h3, h4⟩
  · exact .inl h'
  · exact .inr ⟨g, c, cur, h1, h2, (hb.block g (lt_of_block h3)).trans h3, h4⟩
theorem OwnN.blkG {B : Nat} {w : World} {a : Option Addr} {c : Nat} {ys : List Value} (h : OwnN B w a c ys) : ∀ g, blk a = some g → B ≤ g := fun g hg => by
  rcases h.2 with ⟨h1, h2⟩ | ⟨g', c', cur, h1, h2, _⟩
  · simp only [Value.slice.injEq] at h1
    rw [h1.1] at hg; cases hg
  · simp only [Value.slice.injEq] at h1
    rw [h1.1] at hg
    simp only [blk, Option.some.injEq] at hg
    omega
theorem OwnN.at {B : Nat} {w : World} {a : Option Addr} {c : Nat} {ys : List Value} (h : OwnN B w a c ys) (h0 : ys.length ≠ 0) : ∃ g, a = some ⟨g, 0, none⟩ ∧ ∀ j, j < ys.length → w.cell? ⟨g, j, none⟩ = ys[j]? := by
  rcases h.2 with ⟨h1, h2⟩ | ⟨g', c', cur, h1, _⟩
  · exact absurd h2 h0
  · simp only [Value.slice.injEq] at h1
    obtain ⟨rfl, _⟩ := h1
    exact ⟨g', rfl, fun j hj => World.ownsRow.cellAt h j (by omega)⟩
set_option maxRecDepth 100000 in
theorem op_appN {w : World} {o : Oper} {a : Act} {K : Act → World → Prop} {Q : Exit → Act → World → Prop}
    (s x : Operand) (ho : o.op = .call { callee := .builtin .append, args := #[s, x], argTypes := #[58, 58] })
    (B : Nat) (ad : Option Addr) (n cap : Nat) (ys : List Value) (hs : a.eval s = .slice ad n cap) (hn : n = ys.length) (hown : OwnN B w ad cap ys)
    (ax : Addr) (c : Nat) (z : Value) (hx : a.eval x = .slice (some ax) 1 c) (hz : w.cell? ax = some z) (hz1' : z.oneCell' = true) (hmax : n + 1 ≤ 4000000) (hB : B ≤ w.heap.size)
    (hK : ∀ ad' cap' w', OwnN B w' ad' cap' (ys ++ [z]) → w.grownBy w' (blk ad) → (blk ad' = blk ad ∨ blk ad' = some w.heap.size) → K (a.put o.dst (.slice ad' (ys ++ [z]).length cap')) w') :
    o.wp Try.prog a w K Q := by
  subst hn
  obtain ⟨i0, hi, hz0, hz1, hz2⟩ := info_parts infoN
  have hnews : ∀ j u, [z][j]? = some u → w.cell? (ax.add j) = some u := by
    intro j u hj
    cases j with
    | zero =>
      simp at hj
      subst hj
      have : ax.add 0 = ax := by cases ax; simp [Addr.add]
      rw [this]; exact hz
    | succ j => simp at hj
  have h1 : ∀ u ∈ [z], u.oneCell' = true := by
    intro u hu
    simp at hu
    subst hu
    exact hz1'
  obtain ⟨v', w1, hr, hown', hgrow, _, hloc⟩ := run_append_own_at (P := Try.prog) w B 58 o.type 50 i0 (.pointer none) 1 8 Try.underlying58 hi hz0 hz1 hz2 rfl (by decide) _ _ _ hown ax 1 c [z] rfl hnews h1 (by unfold maxLen; omega) (by omega) hB
  have hb1 : ∀ (ad : Option Addr) (n c : Nat), (Value.slice ad n c).ownBlock = blk ad := fun ad n c => by cases ad <;> rfl
  rw [hb1] at hgrow hloc
  have hv : ∃ ad' cap', v' = .slice ad' (ys ++ [z]).length cap' := by
    rcases hown'.2 with ⟨h1, h2⟩ | ⟨g, c', cur, h1, h2⟩
    · exact ⟨none, 0, by rw [h1]; congr 1; simp; omega⟩
    · exact ⟨_, c', by rw [h1]; congr 1; simp⟩
  obtain ⟨ad', cap', rfl⟩ := hv
  rw [hb1] at hloc
  unfold Oper.wp execOp
  simp only [ho, resolve, invoke, builtin, Sem.run_bind, Sem.run_pure, Result.andThen_ok, List.map_toArray, List.map_cons, List.map_nil, hs, hx, hr]
  refine hK ad' cap' w1 ?_ hgrow hloc
  unfold OwnN
  have e : (ys ++ [z]).length = ys.length + 1 := by simp
  rw [e] at hown' ⊢
  exact hown'
theorem wp_appN {w : World} {ops : Array Oper} {rest : List Oper} {o : Oper} {a : Act} {Q : Exit → Act → World → Prop}
    (hgd : o.guard = none) (s x : Operand) (ho : o.op = .call { callee := .builtin .append, args := #[s, x], argTypes := #[58, 58] })
    (B : Nat) (ad : Option Addr) (n cap : Nat) (ys : List Value) (hs : a.eval s = .slice ad n cap) (hn : n = ys.length) (hown : OwnN B w ad cap ys)
    (ax : Addr) (c : Nat) (z : Value) (hx : a.eval x = .slice (some ax) 1 c) (hz : w.cell? ax = some z) (hz1' : z.oneCell' = true) (hmax : n + 1 ≤ 4000000) (hB : B ≤ w.heap.size)
    (hK : ∀ ad' cap' w', OwnN B w' ad' cap' (ys ++ [z]) → w.grownBy w' (blk ad) → (blk ad' = blk ad ∨ blk ad' = some w.heap.size) → wpList Try.prog ops Q rest (a.put o.dst (.slice ad' (ys ++ [z]).length cap')) w') :
    wpList Try.prog ops Q (o :: rest) a w :=
  wpList_plain hgd fun K hK' => op_appN s x ho B ad n cap ys hs hn hown ax c z hx hz hz1' hmax hB fun ad' cap' w' h1 h2 h3 => hK' _ _ (hK ad' cap' w' h1 h2 h3)
theorem Touch.putN {lo hi : Nat} {a w : World} (h : Touch lo hi a w) {x : Addr} (h1 : lo ≤ x.block) (h2 : x.block < hi) (u : Value) : Touch lo hi a (w.setCell x u) :=
  h.trans ⟨rfl, rfl, rfl, by simp, fun k hk hd => Below.heap_setCell _ _ _ _ (by omega)⟩
theorem Touch.drN {lo hi : Nat} {a w : World} (h : Touch lo hi a w) : Touch lo hi a w.drew := h.trans ⟨rfl, rfl, rfl, Nat.le_refl _, fun _ _ _ => rfl⟩
def ptr (q : Nat) : Value := .pointer (some ⟨q, 0, none⟩)
def ptV (f : Nat → Nat) (n : Nat) : List Value := (List.range n).map (fun j => ptr (f j))
theorem ptV_len (f : Nat → Nat) (n : Nat) : (ptV f n).length = n := by simp [ptV]
theorem ptV_snoc (f : Nat → Nat) (n : Nat) : ptV f n ++ [ptr (f n)] = ptV f (n + 1) := by simp [ptV, List.range_succ]
theorem ptV_at (f : Nat → Nat) (n : Nat) (j : Nat) (hj : j < n) : (ptV f n)[j]? = some (ptr (f j)) := by simp [ptV, hj]
theorem ptV_congr {f g : Nat → Nat} {n : Nat} (e : ∀ j, j < n → f j = g j) : ptV f n = ptV g n := by
  unfold ptV
  apply List.map_congr_left
  intro j hj
  rw [e j (List.mem_range.1 hj)]
theorem ptV_set (f : Nat → Nat) (n i v : Nat) : (ptV f n).set i (ptr v) = ptV (fun j => if j = i then v else f j) n := by
  apply List.ext_getElem?
  intro j
  rw [List.getElem?_set]
  by_cases hj : j < n
  · by_cases e : i = j
    · subst e
      simp [ptV, hj]
    · have e' : ¬ j = i := fun h => e h.symm
      simp [ptV, hj, e, e']
  · by_cases e : i = j
    · subst e
      simp [ptV, hj]
    · simp [ptV, hj, e]
def rvN (f : Nat → Nat) (n i : Nat) : Nat → Nat := fun j => if j < i ∨ n ≤ j + i then f (n - 1 - j) else f j
theorem rvN_step (f : Nat → Nat) (n i : Nat) (hi : i + 1 < n - i) : ((ptV (rvN f n i) n).set i (ptr (f (n - 1 - i)))).set (n - 1 - i) (ptr (f i)) = ptV (rvN f n (i + 1)) n := by
  rw [ptV_set, ptV_set]
  apply ptV_congr
  intro j hj
  unfold rvN
  by_cases e1 : j = n - 1 - i
  · subst e1
    rw [if_pos rfl, if_pos (by omega)]
    congr 1; omega
  · rw [if_neg e1]
    by_cases e2 : j = i
    · subst e2
      rw [if_pos rfl, if_pos (by omega)]
    · rw [if_neg e2]
      by_cases e3 : j < i ∨ n ≤ j + i
      · rw [if_pos e3, if_pos (by omega)]
      · rw [if_neg e3, if_neg (by omega)]
theorem rvN_zero (f : Nat → Nat) (n : Nat) : ptV (rvN f n 0) n = ptV f n := ptV_congr fun j hj => by
  unfold rvN
  rw [if_neg (by omega)]
theorem rvN_all (f : Nat → Nat) (n i : Nat) (hi : n ≤ 2 * i + 1) (hi2 : i ≤ n) : ptV (rvN f n i) n = ptV (fun j => f (n - 1 - j)) n := ptV_congr fun j hj => by
  unfold rvN
  by_cases e3 : j < i ∨ n ≤ j + i
  · rw [if_pos e3]
  · rw [if_neg e3]
    congr 1; omega
theorem OwnN.cellG {B : Nat} {w : World} {g c : Nat} {f : Nat → Nat} {n : Nat} (h : OwnN B w (some ⟨g, 0, none⟩) c (ptV f n)) (j : Nat) (hj : j < n) : w.cell? ⟨g, j, none⟩ = some (.pointer (some ⟨f j, 0, none⟩)) := by
  have := World.ownsRow.cellAt h j (by rw [ptV_len, Nat.mul_one]; exact hj)
  rw [this, ptV_at _ _ _ hj]
  rfl
theorem OwnN.freeG {B : Nat} {w : World} {g c : Nat} {ys : List Value} (h : OwnN B w (some ⟨g, 0, none⟩) c ys) (j : Nat) : w.frozen? ⟨g, j, none⟩ = false := World.ownsRow.frozenAt h j
theorem OwnN.setG {B : Nat} {w : World} {g c : Nat} {ys : List Value} (h : OwnN B w (some ⟨g, 0, none⟩) c ys) (j : Nat) (u : Value) : OwnN B (w.setCell ⟨g, j, none⟩ u) (some ⟨g, 0, none⟩) c (ys.set j u) := by
  have := (World.ownsRow.stored h j u).1
  unfold OwnN
  rw [List.length_set]
  exact this
set_option maxRecDepth 100000 in
set_option maxHeartbeats 1600000 in
theorem reverseN_any (B g n cap c : Nat) (h : Nat → Nat) (w : World) (ho : OwnN B w (some ⟨g, 0, none⟩) cap (ptV h n)) (hn : 1 ≤ n) (hn2 : n ≤ 1000) :
    Calls Try.prog 49 #[.slice (some ⟨g, 0, none⟩) n c] w fun e w' => e = .returned (.tuple #[]) ∧ OwnN B w' (some ⟨g, 0, none⟩) cap (ptV (fun j => h (n - 1 - j)) n) ∧ Touch g (g + 1) w w' := by
  have ho0 : Hid (OwnN B w (some ⟨g, 0, none⟩) cap (ptV (rvN h n 0) n)) := hide (by rw [rvN_zero]; exact ho)
  clear ho
  have hg0 : Touch g (g + 1) w w := ⟨rfl, rfl, rfl, Nat.le_refl _, fun _ _ _ => rfl⟩
  have v0 : IntKind.i64.wrap ((n : Int) - 1) = (n : Int) - 1 := IntWalk.i64_in _ (by omega)
  go_enter Try.func49, Try.ntmps49
  go_wp2
  clear v0
  go_loopw [2, 3] (fun iv jv wr => ∃ i : Nat, 2 * i ≤ n ∧ iv = .int .i64 i ∧ jv = .int .i64 ((n : Int) - 1 - i) ∧ Hid (OwnN B wr (some ⟨g, 0, none⟩) cap (ptV (rvN h n i) n)) ∧ Touch g (g + 1) w wr) (fun iv _ _ => n - (intOf iv).toNat)
  case atStart => exact ⟨0, by omega, rfl, by go_num, ho0, hg0⟩
  case round =>
    obtain ⟨i, hi, rfl, rfl, hO, ht⟩ := hrel
    clear ho0 hg0
    by_cases hlt : (i : Int) < (n : Int) - 1 - i
    · obtain ⟨k, hk⟩ : ∃ k : Nat, k = n - 1 - i := ⟨_, rfl⟩
      have hki : (n : Int) - 1 - i = (k : Int) := by omega
      have c1 := OwnN.cellG hO.out i (by omega)
      have c2 := OwnN.cellG hO.out k (by omega)
      rw [show rvN h n i i = h i by unfold rvN; rw [if_neg (by omega)]] at c1
      rw [show rvN h n i k = h k by unfold rvN; rw [if_neg (by omega)]] at c2
      have f1 := OwnN.freeG hO.out i
      have f2 := OwnN.freeG hO.out k
      have hs := hide (OwnN.setG (OwnN.setG hO.out i (ptr (h k))) k (ptr (h i)))
      have e := rvN_step h n i (by omega)
      rw [← hk] at e
      rw [e] at hs
      unfold ptr at hs
      obtain ⟨X, hX⟩ : ∃ X, h i = X := ⟨_, rfl⟩
      obtain ⟨Y, hY⟩ : ∃ Y, h k = Y := ⟨_, rfl⟩
      rw [hX] at c1 hs
      rw [hY] at c2 hs
      rw [hki] at hlt ⊢
      have q1 : (i : Int) < (n : Int) := by omega
      have q2 : (k : Int) < (n : Int) := by omega
      have q3 : ¬ (k : Int) < 0 := by omega
      have q4 : (0 : Int) ≤ (k : Int) := by omega
      have q5 : (0 : Int) ≤ (i : Int) := by omega
      have v1 : IntKind.i64.wrap ((k : Int) - 1) = (k : Int) - 1 := IntWalk.i64_in _ (by omega)
      have q6 : k ≠ i := by omega
      have q7 : i ≠ k := by omega
      have Hk := hide hk
      clear hX hY e hO hk hki
      go_wp2_with fail
      go_region
      all_goals go_wp2
      all_goals go_roundw
      all_goals first
        | exact ⟨i + 1, by have := Hk.out; omega, by go_num, by rw [show ((n : Int) - 1 - ((i + 1 : Nat) : Int)) = (k : Int) - 1 by have := Hk.out; omega], hide (hs.out.below ((Below.refl _ _).drew)), ((ht.putN (by simp) (by simp) _).putN (by simp) (by simp) _).drN⟩
        | (simp [intOf]; omega)
    · have e := rvN_all h n i (by omega) (by omega)
      have hO2 := hO.out
      rw [e] at hO2
      have HO := hide hO2
      clear hO hO2 e
      go_wp2
      refine bodyPost_end (v := .tuple #[]) (by simp [results, Try.results49]) rfl ?_
      exact ⟨rfl, HO.out, ht⟩
set_option maxRecDepth 100000 in
set_option maxHeartbeats 1600000 in
theorem beginnings_any (p : Int) (A B : List Int) (s : ByteArray) (i : Int) (Q : Nat → Nat) (lo n : Nat) (w : World) (hC : Chain lo w p A B s i Q n) (hn : n ≤ 24) :
    Calls Try.prog 33 #[.pointer (some ⟨Q n, 0, none⟩)] w fun e w' => ∃ g c, e = .returned (.slice (some ⟨g, 0, none⟩) (n + 1) c) ∧ OwnN w.heap.size w' (some ⟨g, 0, none⟩) c (ptV Q (n + 1)) ∧ Below w.heap.size w w' := by
  have HC := hide hC
  clear hC
  have hO0 : Hid (OwnN w.heap.size w none 0 (ptV (fun j => Q (n - j)) 0)) := hide (OwnN.nil _ _)
  have hr : Below w.heap.size w w := Below.refl _ _
  have hP0 := hide (show (0 ≤ n → (some (⟨Q n, 0, none⟩ : Addr) : Option Addr) = some ⟨Q (n - 0), 0, none⟩) ∧ (¬ 0 ≤ n → (some (⟨Q n, 0, none⟩ : Addr) : Option Addr) = none) from ⟨fun _ => rfl, fun h => absurd (Nat.zero_le _) h⟩)
  go_enter Try.func33, Try.ntmps33
  go_wp2
  go_loopw [0, 3] (fun bv sv wr => ∃ (t : Nat) (bp a : Option Addr) (c : Nat), t ≤ n + 1 ∧ bv = .pointer bp ∧ Hid ((t ≤ n → bp = some ⟨Q (n - t), 0, none⟩) ∧ (¬ t ≤ n → bp = none)) ∧ sv = .slice a t c ∧ Hid (OwnN w.heap.size wr a c (ptV (fun j => Q (n - j)) t)) ∧ Below w.heap.size w wr) (fun _ sv _ => n + 1 - slN sv)
  case atStart => exact ⟨0, _, none, 0, by omega, rfl, hP0, rfl, hO0, hr⟩
  case round =>
    obtain ⟨t, bp, a, c, ht, rfl, hP, rfl, hO, hb⟩ := hrel
    clear hO0 hr hP0
    by_cases hlt : t ≤ n
    · obtain rfl := hP.out.1 hlt
      obtain ⟨bq, hbq⟩ : ∃ bq : Option Addr, (if n - t = 0 then none else some (⟨Q (n - t - 1), 0, none⟩ : Addr)) = bq := ⟨_, rfl⟩
      have HN := hide (show w.cell? ⟨Q (n - t), 0, none⟩ = some (.pointer bq) by rw [← hbq]; exact (HC.out (n - t) (by omega)).2.c0)
      have hP2 := hide (show (t + 1 ≤ n → bq = some ⟨Q (n - (t + 1)), 0, none⟩) ∧ (¬ t + 1 ≤ n → bq = none) from ⟨fun h => by rw [← hbq, if_neg (by omega)]; rfl, fun h => by rw [← hbq, if_pos (by omega)]⟩)
      have hvl := hide (show (ptV (fun j => Q (n - j)) t).length = t from ptV_len _ _)
      have hba := bl1 wr (.cells #[.pointer (some ⟨Q (n - t), 0, none⟩)] 50)
      have hOa := hide (hO.out.below hba)
      have hcl : (wr.alloc (.cells #[.pointer (some ⟨Q (n - t), 0, none⟩)] 50)).cell? ⟨wr.heap.size, 0, none⟩ = some (.pointer (some ⟨Q (n - t), 0, none⟩)) := by simp [go_sem]
      have HZa := hide (show (wr.alloc (.cells #[.pointer (some ⟨Q (n - t), 0, none⟩)] 50)).heap.size = wr.heap.size + 1 by simp)
      have zb := hb.size
      have hst := hide (show ptV (fun j => Q (n - j)) t ++ [Value.pointer (some ⟨Q (n - t), 0, none⟩)] = ptV (fun j => Q (n - j)) (t + 1) from ptV_snoc (fun j => Q (n - j)) t)
      clear hbq hP
      go_wp2_with (at_builtin; with_reducible refine wp_appN rfl _ _ rfl w.heap.size _ _ _ _ rfl hvl.out.symm hOa.out _ _ _ rfl hcl rfl (by omega) (by have := HZa.out; omega) ?_; intro ad' cap' w' hown' hgr hloc; have hbg := OwnN.blkG hOa.out; have hb2 : Below w.heap.size w w' := (hb.trans (hba.mono zb)).grown hgr (by have := HZa.out; omega) hbg; have n0b := cell_be hb2 HN.out)
      have Hown := hide (show OwnN w.heap.size w' ad' cap' (ptV (fun j => Q (n - j)) (t + 1)) by rw [← hst.out]; exact hown')
      clear hown' hgr hloc hOa hO hcl hba hbg
      go_roundw
      case rel => exact ⟨t + 1, bq, ad', cap', by omega, rfl, hP2, by rw [hvl.out], Hown, hb2⟩
      case measure => simp [slN, hvl.out]; omega
    · obtain rfl := hP.out.2 hlt
      obtain rfl : t = n + 1 := by omega
      obtain ⟨g, rfl, _⟩ := OwnN.at hO.out (by rw [ptV_len]; omega)
      have hG : w.heap.size ≤ g := OwnN.blkG hO.out g rfl
      have HG := hide hG
      have zb := hb.size
      clear hlt hG
      go_wp2_with fail
      refine (reverseN_any w.heap.size g (n + 1) c c (fun j => Q (n - j)) wr hO.out (by omega) (by omega)).mono ?_
      rintro e w5 ⟨rfl, o5, t5⟩
      have B5 := below_touch hb t5 HG.out zb
      have e5 : ptV (fun j => (fun j => Q (n - j)) (n + 1 - 1 - j)) (n + 1) = ptV Q (n + 1) := ptV_congr fun j hj => by
        show Q (n - (n + 1 - 1 - j)) = Q j
        congr 1; omega
      rw [e5] at o5
      have O5 := hide o5
      clear e5 o5 t5 hO
      go_wp2
      refine bodyPost_ret (v := .slice (some ⟨g, 0, none⟩) (n + 1) c) (by simp [results, Try.results33]) rfl ?_
      exact ⟨g, c, rfl, O5.out, B5⟩
end Go.Proofs.Ythahcnmfaghohaa
/- Contracts: HeightsOf (program, model). -/
namespace Go.Proofs.Ythahcnmfaghohaa
open Go.RowKit
set_option linter.unusedVariables false
set_option linter.unusedSimpArgs false

def htV (s : ByteArray) (i : Int) : List Int := if rpC s i = 0 then hgL s i (s.size + 1) else []
theorem hgL_len (s : ByteArray) (i : Int) (n : Nat) : (hgL s i n).length = n := tab_len _ _
set_option maxRecDepth 100000 in
set_option maxHeartbeats 3200000 in
theorem implHeightsOf (s : ByteArray) (i : Int) (w : World) (hz : s.size ≤ 1048576) :
    Calls Try.prog 13 #[.string s, .int .i64 i] w (Res1 w (htV s i) (rpC s i)) := by
  go_enter Try.func13, Try.ntmps13
  go_wp2_with fail
  refine (readFreely_any s i _ hz).mono ?_
  rintro e w1 h1
  rcases h1 with ⟨hyes, ⟨Q, rfl, hC⟩, t1⟩ | ⟨hno, rfl, t1⟩
  · have HC := hide (show rpC s i = 0 by unfold rpC; rw [if_pos hyes])
    have HV := hide (show htV s i = hgL s i (s.size + 1) by unfold htV; rw [if_pos HC.out])
    have h24 := hyes.2.2
    have HCh := hide hC
    have HB := hide t1
    clear hyes hC t1
    go_wp2_with fail
    refine (beginnings_any _ _ _ s i Q _ s.size _ HCh.out h24).mono ?_
    rintro e w2 ⟨g, c, rfl, o2, t2⟩
    have HO2 := hide o2
    have HC2 := hide (HCh.out.below t2)
    have HB2 := hide (HB.out.trans (t2.mono HB.out.size))
    have z2 := HB2.out.size
    have hO0 : Hid (Own w2.heap.size w2 none 0 (hgL s i 0)) := hide (Own.nil _ _)
    have hr : Below w2.heap.size w2 w2 := Below.refl _ _
    clear o2 t2
    go_wp2
    go_loopw [7, 18] (fun hv kv wr => ∃ (k : Nat) (a' : Option Addr) (c' : Nat), k ≤ s.size + 1 ∧ kv = .int .i64 k ∧ hv = .slice a' k c' ∧ Hid (Own w2.heap.size wr a' c' (hgL s i k)) ∧ Below w2.heap.size w2 wr) (fun _ kv _ => s.size + 1 - (intOf kv).toNat)
    case atStart => exact ⟨0, none, 0, by omega, rfl, rfl, hO0, hr⟩
    case round =>
      obtain ⟨k, a', c', hk, rfl, rfl, hO, hb⟩ := hrel
      clear hO0 hr
      by_cases hlt : k < s.size + 1
      · have hlt' : (k : Int) < (s.size : Int) + 1 := by omega
        have q0 : (0 : Int) ≤ (k : Int) := by omega
        have v1 : IntKind.i64.wrap ((k : Int) + 1) = (k : Int) + 1 := IntWalk.i64_in _ (by omega)
        have ec := cell_be hb (OwnN.cellG HO2.out k hlt)
        have n2 := cell_be hb (HC2.out k (by omega)).2.c2
        obtain ⟨H, hH⟩ : ∃ H, hg s i k = H := ⟨_, rfl⟩
        rw [hH] at n2
        have HH := hide hH
        have hba := bl1 wr (.cells #[.int .i64 H] 2)
        have hOa := hide (hO.out.below hba)
        have zb := hb.size
        clear hH
        go_wp2_with (at_builtin; refine wp_append rfl _ _ rfl w2.heap.size _ k _ (hgL s i k) rfl (hgL_len s i k).symm hOa.out _ 1 1 [H] rfl (litSL wr H) (by omega) (by simp; omega) ?_; intro ad' cap' w7 hown hb7)
        have Hown := hide (show Own w2.heap.size w7 ad' cap' (hgL s i (k + 1)) by have q := hown; unfold hgL at q ⊢; rwa [← HH.out, tab_snoc] at q)
        have hW7 := (hb.trans (hba.mono zb)).trans (hb7.mono (Nat.le_refl _))
        clear hown hb7 hOa hO hba ec n2
        go_roundw
        case rel => exact ⟨k + 1, ad', cap', by omega, by go_num, by rw [hgL_len], Hown, hW7⟩
        case measure => simp [intOf]; omega
      · have hte := hide (show k = s.size + 1 by omega)
        have hge : ¬ (k : Int) < (s.size : Int) + 1 := by omega
        have B3 := hide (HB2.out.trans (hb.mono z2))
        clear hlt
        go_wp2
        refine bodyPost_ret (v := .tuple #[.slice a' k c', .int .i64 0]) (by simp [results, Try.results13, go_sem]) rfl ?_
        refine Res1.own HC.out (by rw [HV.out, hgL_len, hte.out]) ?_ (by rw [HV.out, hgL_len]; omega) B3.out
        rw [HV.out, ← hte.out]
        exact hO.out.mono z2
  · have HC := hide (show rpC s i = 2 by unfold rpC; rw [if_neg hno])
    have HV := hide (show htV s i = [] by unfold htV; rw [if_neg (by rw [HC.out]; decide)])
    clear hno
    go_wp2
    refine bodyPost_ret (v := .tuple #[.slice none 0 0, .int .i64 2]) (by simp [results, Try.results13, go_sem]) rfl ?_
    exact Res1.nil HV.out HC.out t1
set_option maxRecDepth 100000 in
set_option maxHeartbeats 3200000 in
theorem specHeightsOf (s : ByteArray) (i : Int) (w : World) (hz : s.size ≤ 1048576) :
    Calls Try.prog 12 #[.string s, .int .i64 i] w (Res1 w (htV s i) (rpC s i)) := by
  by_cases hi : 0 ≤ i ∧ i ≤ 24
  rotate_left
  · have HC := hide (show rpC s i = 2 by unfold rpC; rw [if_neg (fun e => hi e.1)])
    have HV := hide (show htV s i = [] by unfold htV; rw [if_neg (by rw [HC.out]; decide)])
    go_enter Try.func12, Try.ntmps12
    go_wp2_with fail
    refine (l01In_no i 0 24 _ hi).mono ?_
    rintro e w1 ⟨rfl, rfl⟩
    clear hi
    have hr : Below w.heap.size w w := Below.refl _ _
    go_wp2
    refine bodyPost_ret (v := .tuple #[.slice none 0 0, .int .i64 2]) (by simp [results, Try.results12, go_sem]) rfl ?_
    exact Res1.nil HV.out HC.out hr
  have Hi := hide hi
  go_enter Try.func12, Try.ntmps12
  go_wp2_with fail
  refine (l01In_yes i 0 24 _ hi.1 hi.2).mono ?_
  rintro e w1 ⟨rfl, rfl⟩
  clear hi
  go_wp2_with fail
  refine (l09Heights_any s i _ hz Hi.out.1 (by have := Hi.out; omega)).mono ?_
  rintro e w2 h2
  rcases h2 with ⟨hok, rfl, t2⟩ | ⟨hok, ah, ch, rfl, oh, t2⟩
  · have HC := hide (show rpC s i = 2 by unfold rpC; rw [if_neg (fun e => by rw [hok] at e; exact absurd e.2.1 (by decide))])
    have HV := hide (show htV s i = [] by unfold htV; rw [if_neg (by rw [HC.out]; decide)])
    clear hok
    go_wp2
    refine bodyPost_ret (v := .tuple #[.slice none 0 0, .int .i64 2]) (by simp [results, Try.results12, go_sem]) rfl ?_
    exact Res1.nil HV.out HC.out t2
  by_cases h24 : s.size ≤ 24
  rotate_left
  · have HC := hide (show rpC s i = 2 by unfold rpC; rw [if_neg (fun e => h24 e.2.2)])
    have HV := hide (show htV s i = [] by unfold htV; rw [if_neg (by rw [HC.out]; decide)])
    have hd : decide (s.size ≤ 24) = false := decide_eq_false h24
    rw [hd]
    clear hok h24 hd oh
    go_wp2
    refine bodyPost_ret (v := .tuple #[.slice none 0 0, .int .i64 2]) (by simp [results, Try.results12, go_sem]) rfl ?_
    exact Res1.nil HV.out HC.out t2
  have HC := hide (show rpC s i = 0 by unfold rpC; rw [if_pos ⟨Hi.out, hok, h24⟩])
  have HV := hide (show htV s i = hgL s i (s.size + 1) by unfold htV; rw [if_pos HC.out])
  have hd : decide (s.size ≤ 24) = true := decide_eq_true h24
  rw [hd]
  have HB := hide t2
  have HO := hide oh
  clear hok hd t2 oh
  go_wp2
  refine bodyPost_ret (v := .tuple #[.slice ah (s.size + 1) ch, .int .i64 0]) (by simp [results, Try.results12, go_sem]) rfl ?_
  exact Res1.own HC.out (by rw [HV.out, hgL_len]) (by rw [HV.out]; exact HO.out) (by rw [HV.out, hgL_len]; omega) HB.out
end Go.Proofs.Ythahcnmfaghohaa
