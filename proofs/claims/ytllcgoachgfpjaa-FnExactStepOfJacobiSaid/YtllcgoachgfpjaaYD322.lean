/- Merged texts. -/
import Derived.Test.YtllcgoachgfpjaaYD317
import Derived.Test.YtllcgoachgfpjaaYD35
import Derived.Test.YtllcgoachgfpjaaYD321
import Derived.IntWalk
import Derived.Test.YtllcgoachgfpjaaYD36
import Derived.Maps.AppendAt
import Derived.Deep.AppendLies
/- Contracts: addNumber, functional at numbers, l02Apply, checkFunctional, l02Code, ApplyFunctional (program and model). -/
namespace Go.Proofs.Ytllcgoachgfpjaa
open Go.RowKit
set_option linter.unusedVariables false
set_option linter.unusedSimpArgs false

set_option maxHeartbeats 400000 in
theorem addNumber_any (p s k x : Int) (w : World) (hp : 2 ≤ p) (hp2 : p ≤ 10007) (hs : 0 ≤ s) (hs2 : s < p) (hk : 0 ≤ k) (hk2 : k < p) (hx : 0 ≤ x) (hx2 : x < p) :
    Calls Try.prog 66 #[.int .i64 p, .int .i64 s, .int .i64 k, .int .i64 x] w fun e w' => e = .returned (.int .i64 ((s + k * x) % p)) ∧ w = w' := by
  obtain ⟨m1, m2⟩ := mulb hk hk2 hx hx2 hp2
  go_enter Try.func66, Try.ntmps66
  go_wp2
  go_ret
  exact ⟨rfl, rfl⟩
set_option maxRecDepth 100000 in
set_option maxHeartbeats 1600000 in
theorem functional_int (p : Int) (a1 : Option Addr) (n1 c1 : Nat) (f : List Int) (a2 : Option Addr) (n2 c2 : Nat) (xs : List Int) (w : World) (h1 : SL w a1 n1 c1 f) (h2 : SL w a2 n2 c2 xs)
    (b1 : n1 ≤ 1000) (hn : n1 ≤ n2) (hp : 2 ≤ p) (hp2 : p ≤ 10007) (hf : areB p f = true) (hx : areB p xs = true) :
    Calls Try.prog 169 #[.int .i64 p, .slice a1 n1 c1, .slice a2 n2 c2, .int .i64 0, .func (.func 66) #[] #[]] w
      fun e w' => e = .returned (.int .i64 (dotK p f xs 0 f.length)) ∧ w = w' := by
  have hl1 := hide h1.len
  have Hf := hide hf
  have Hx := hide hx
  clear hf hx
  by_cases h0 : n1 = 0
  · subst h0
    have he : Hid (dotK p f xs 0 f.length = 0) := hide (by rw [hl1.out]; rfl)
    go_enter Try.func169, Try.ntmps169
    go_wp2
    refine wp_loop_rounds 1 ?_
    rw [rounds_succ]
    go_wp2
    go_ret
    exact ⟨ret_int he.out.symm, rfl⟩
  obtain ⟨b, off, rfl, hbw, hcell⟩ := h1.at (by omega)
  obtain ⟨b', off', rfl, hbw', hcell'⟩ := h2.at (by omega)
  clear h1 h2
  go_enter Try.func169, Try.ntmps169
  go_wp2
  go_loop [3, 15] (fun sv iv => ∃ i : Nat, i ≤ n1 ∧ iv = .int .i64 i ∧ sv = .int .i64 (dotK p f xs 0 i)) (fun _ iv => n1 - (intOf iv).toNat)
  case atStart => exact ⟨0, by omega, rfl, rfl⟩
  case round =>
    obtain ⟨i, hi, rfl, rfl⟩ := hrel
    by_cases hlt : i < n1
    · have e1 := hcell i hlt
      have e2 := hcell' i (by omega)
      have hst : Hid (dotK p f xs 0 (i + 1) = (dotK p f xs 0 i + f.getD i 0 * xs.getD i 0) % p) := hide (by rw [dotK, Nat.add_zero])
      have r1 := getD_rng Hf.out hp i
      have r2 := getD_rng Hx.out hp i
      have r3 := dotK_rng hp f xs 0 i
      obtain ⟨x, hx⟩ : ∃ x, f.getD i 0 = x := ⟨_, rfl⟩
      obtain ⟨y, hy⟩ : ∃ y, xs.getD i 0 = y := ⟨_, rfl⟩
      obtain ⟨s, hs⟩ : ∃ s, dotK p f xs 0 i = s := ⟨_, rfl⟩
      rw [hx] at e1 hst r1
      rw [hy] at e2 hst r2
      rw [hs] at hst r3 ⊢
      clear hx hy hs hcell hcell'
      have hlt' : (i : Int) < (n1 : Int) := by omega
      have hlt2 : (i : Int) < (n2 : Int) := by omega
      go_wp2_with (go_at_call 66; refine (addNumber_any p s x y _ hp hp2 r3.1 r3.2 r1.1 r1.2 r2.1 r2.2).mono ?_; rintro e w' ⟨rfl, rfl⟩)
      go_round
      case rel => exact ⟨i + 1, by omega, by go_num, by rw [hst.out]⟩
      case measure => simp [intOf]; omega
    · have he : Hid (i = f.length) := hide (by rw [hl1.out]; omega)
      have hlt' : ¬ (i : Int) < (n1 : Int) := by omega
      go_wp2
      go_ret
      exact ⟨ret_int (by rw [← he.out]), rfl⟩
set_option maxRecDepth 100000 in
set_option maxHeartbeats 1600000 in
theorem l02Apply_any (p : Int) (a2 : Option Addr) (n2 c2 : Nat) (xs : List Int) (a1 : Option Addr) (n1 c1 : Nat) (f : List Int) (k : Nat) (kk : Int) (w : World) (h2 : SL w a2 n2 c2 xs) (h1 : SL w a1 n1 c1 f)
    (b1 : n1 ≤ 1000) (b2 : n2 ≤ 1000) (hkk : kk = k) (hn : n1 + k ≤ n2) (hp : 2 ≤ p) (hp2 : p ≤ 10007) (hf : areB p f = true) (hx : areB p xs = true) :
    Calls Try.prog 98 #[mom p a2 n2 c2, .slice a1 n1 c1, .int .i64 kk] w
      fun e w' => e = .returned (.int .i64 (dotK p f xs k f.length)) ∧ Below w.heap.size w w' := by
  subst hkk
  have hl1 := hide h1.len
  have Hf := hide hf
  have Hx := hide hx
  have hb0 := bl1 w (.cells #[.int .i64 p, .slice a2 n2 c2] 26)
  clear hf hx
  by_cases h0 : n1 = 0
  · subst h0
    have he : Hid (dotK p f xs k f.length = 0) := hide (by rw [hl1.out]; rfl)
    go_enter Try.func98, Try.ntmps98
    go_wp2
    refine wp_loop_rounds 1 ?_
    rw [rounds_succ]
    go_wp2
    go_ret
    exact ⟨ret_int he.out.symm, hb0⟩
  obtain ⟨b, off, rfl, hbw, hcell⟩ := h1.at (by omega)
  obtain ⟨b', off', rfl, hbw', hcell'⟩ := h2.at (by omega)
  clear h1 h2
  have f0 : (w.alloc (.cells #[.int .i64 p, .slice (some ⟨b', off', none⟩) n2 c2] 26)).cell? ⟨w.heap.size, 0, none⟩ = some (.int .i64 p) := by simp [go_sem]
  have f1 : (w.alloc (.cells #[.int .i64 p, .slice (some ⟨b', off', none⟩) n2 c2] 26)).cell? ⟨w.heap.size, 1, none⟩ = some (.slice (some ⟨b', off', none⟩) n2 c2) := by simp [go_sem]
  go_enter Try.func98, Try.ntmps98
  go_wp2
  go_loopw [7, 8] (fun sv iv wr => ∃ i : Nat, i ≤ n1 ∧ iv = .int .i64 i ∧ sv = .int .i64 (dotK p f xs k i) ∧ wr.cell? ⟨w.heap.size, 0, none⟩ = some (.int .i64 p) ∧ wr.cell? ⟨w.heap.size, 1, none⟩ = some (.slice (some ⟨b', off', none⟩) n2 c2) ∧ Below w.heap.size w wr) (fun _ iv _ => n1 - (intOf iv).toNat)
  case atStart => exact ⟨0, by omega, rfl, rfl, f0, f1, hb0⟩
  case round =>
    obtain ⟨i, hi, rfl, rfl, g0, g1, hBr⟩ := hrel
    clear f0 f1
    by_cases hlt : i < n1
    · have e1 : wr.cell? ⟨b, off + i, none⟩ = some (.int .i64 (f.getD i 0)) := cell_be hBr (hcell i hlt)
      have e2 : wr.cell? ⟨b', off' + (i + k), none⟩ = some (.int .i64 (xs.getD (i + k) 0)) := cell_be hBr (hcell' (i + k) (by omega))
      have hst : Hid (dotK p f xs k (i + 1) = (dotK p f xs k i + f.getD i 0 * xs.getD (i + k) 0) % p) := hide (by rw [dotK])
      have r1 := getD_rng Hf.out hp i
      have r2 := getD_rng Hx.out hp (i + k)
      have r3 := dotK_rng hp f xs k i
      obtain ⟨x, hx⟩ : ∃ x, f.getD i 0 = x := ⟨_, rfl⟩
      obtain ⟨y, hy⟩ : ∃ y, xs.getD (i + k) 0 = y := ⟨_, rfl⟩
      obtain ⟨s, hs⟩ : ∃ s, dotK p f xs k i = s := ⟨_, rfl⟩
      rw [hx] at e1 hst r1
      rw [hy] at e2 hst r2
      rw [hs] at hst r3 ⊢
      clear hx hy hs hcell hcell'
      obtain ⟨m1, m2⟩ := mulb r1.1 r1.2 r2.1 r2.2 hp2
      have hlt' : (i : Int) < (n1 : Int) := by omega
      have hlt2 : (i : Int) + (k : Int) < (n2 : Int) := by omega
      have v1 : IntKind.i64.wrap ((i : Int) + (k : Int)) = (i : Int) + (k : Int) := IntWalk.i64_in _ (by omega)
      have v2 : ((i : Int) + (k : Int)).toNat = i + k := by omega
      have v3 : IntKind.i64.wrap (x * y) = x * y := IntWalk.i64_in _ (by omega)
      have v4 : IntKind.i64.wrap (s + x * y) = s + x * y := IntWalk.i64_in _ (by omega)
      have v5 : (0 : Int) ≤ (i : Int) + (k : Int) := by omega
      have v6 : (s + x * y).tmod p = (s + x * y) % p := Int.tmod_eq_emod_of_nonneg (by omega)
      go_wp2
      go_quiet (fail)
      clear v1 v2 v3 v4 v6
      go_wp2
      go_roundw
      case rel => exact ⟨i + 1, by omega, by go_num, by rw [hst.out], by simpa using g0, by simpa using g1, below_drewN hBr _⟩
      case measure => simp [intOf]; omega
    · have he : Hid (i = f.length) := hide (by rw [hl1.out]; omega)
      have hlt' : ¬ (i : Int) < (n1 : Int) := by omega
      clear hcell hcell'
      go_wp2
      go_ret
      exact ⟨ret_int (by rw [← he.out]), hBr⟩
def fnC (p : Int) (xs f : List Int) : Int := if momB p xs then (if polyB p f then (if f.length ≤ xs.length then 0 else 2) else 1) else 1
def fnV (p : Int) (xs f : List Int) : Int := if fnC p xs f = 0 then dotK p f xs 0 f.length else 0
theorem fnC_cases (p : Int) (xs f : List Int) : fnC p xs f = 1 ∨ fnC p xs f = 2 ∨ (fnC p xs f = 0 ∧ momB p xs = true ∧ polyB p f = true ∧ f.length ≤ xs.length) := by
  unfold fnC
  cases momB p xs <;> cases polyB p f <;> simp
  by_cases h : f.length ≤ xs.length
  · exact .inr (.inr h)
  · exact .inr (.inl (by omega))
set_option maxRecDepth 100000 in
set_option maxHeartbeats 1600000 in
theorem checkFunctional_any (p : Int) (a2 : Option Addr) (n2 c2 : Nat) (xs : List Int) (a1 : Option Addr) (n1 c1 : Nat) (f : List Int) (w : World) (h2 : SL w a2 n2 c2 xs) (h1 : SL w a1 n1 c1 f) (b2 : n2 ≤ 4000000) (b1 : n1 ≤ 4000000) :
    Calls Try.prog 99 #[mom p a2 n2 c2, .slice a1 n1 c1] w fun e w' => e = .returned (.int .i64 (fnC p xs f)) ∧ Below w.heap.size w w' := by
  have hl1 := hide h1.len
  have hl2 := hide h2.len
  have hb0 := bl1 w (.cells #[.int .i64 p, .slice a2 n2 c2] 26)
  have g2 := h2.below hb0
  cases hm : momB p xs
  · have HC := hide (show fnC p xs f = 1 by simp [fnC, hm])
    have Hm := hide hm
    clear hm
    go_enter Try.func99, Try.ntmps99
    go_wp2_with fail
    refine (areMoments_any _ _ _ _ _ _ g2 b2).mono ?_
    rintro e w1 ⟨rfl, hb1⟩
    rw [Hm.out]
    go_wp2
    go_ret
    exact ⟨ret_int HC.out.symm, bnext hb0 hb1⟩
  · have Hm := hide hm
    cases hf : polyB p f
    · have HC := hide (show fnC p xs f = 1 by simp [fnC, hm, hf])
      have Hf := hide hf
      clear hm hf
      go_enter Try.func99, Try.ntmps99
      go_wp2_with fail
      refine (areMoments_any _ _ _ _ _ _ g2 b2).mono ?_
      rintro e w1 ⟨rfl, hb1⟩
      rw [Hm.out]
      have f0 : w1.cell? ⟨w.heap.size, 0, none⟩ = some (.int .i64 p) := cell_be hb1 (by simp [go_sem])
      have f1 : w1.cell? ⟨w.heap.size, 1, none⟩ = some (.slice a2 n2 c2) := cell_be hb1 (by simp [go_sem])
      have hB1 := bnext hb0 hb1
      go_wp2_with fail
      refine (isPoly_any _ _ _ _ _ _ ((h1.below hb0).below hb1) b1).mono ?_
      rintro e w2 ⟨rfl, hb2⟩
      replace f1 := cell_be hb2 f1
      have hB2 := bnext hB1 hb2
      rw [Hf.out]
      go_wp2
      go_ret
      exact ⟨ret_int HC.out.symm, hB2⟩
    · have Hf := hide hf
      have hcase : (n1 : Int) ≤ (n2 : Int) ∧ fnC p xs f = 0 ∨ (n2 : Int) < (n1 : Int) ∧ fnC p xs f = 2 := by
        have e1 := hl1.out
        have e2 := hl2.out
        by_cases h : f.length ≤ xs.length
        · exact .inl ⟨by omega, by simp [fnC, hm, hf, h]⟩
        · exact .inr ⟨by omega, by simp [fnC, hm, hf, h]⟩
      clear hm hf
      rcases hcase with ⟨hle, hC⟩ | ⟨hle, hC⟩
      all_goals
        have HC := hide hC
        clear hC
        go_enter Try.func99, Try.ntmps99
        go_wp2_with fail
        refine (areMoments_any _ _ _ _ _ _ g2 b2).mono ?_
        rintro e w1 ⟨rfl, hb1⟩
        rw [Hm.out]
        have f0 : w1.cell? ⟨w.heap.size, 0, none⟩ = some (.int .i64 p) := cell_be hb1 (by simp [go_sem])
        have f1 : w1.cell? ⟨w.heap.size, 1, none⟩ = some (.slice a2 n2 c2) := cell_be hb1 (by simp [go_sem])
        have hB1 := bnext hb0 hb1
        go_wp2_with fail
        refine (isPoly_any _ _ _ _ _ _ ((h1.below hb0).below hb1) b1).mono ?_
        rintro e w2 ⟨rfl, hb2⟩
        replace f1 := cell_be hb2 f1
        have hB2 := bnext hB1 hb2
        rw [Hf.out]
        go_wp2
        go_ret
        exact ⟨ret_int HC.out.symm, hB2⟩
end Go.Proofs.Ytllcgoachgfpjaa
/- An append of one number by laws that say where the new row lies (in a plain region, at an operation, at a step of a region that draws). -/
namespace Go.Proofs.Ytllcgoachgfpjaa
open Go.RowKit
set_option linter.unusedVariables false
set_option linter.unusedSimpArgs false
set_option maxRecDepth 100000 in
/-- An append of one number onto an owned row of numbers: only that row and new blocks turn. -/
theorem op_app1 {w : World} {o : Oper} {a : Act} {K : Act → World → Prop} {Q : Exit → Act → World → Prop}
    (s x : Operand) (ho : o.op = .call { callee := .builtin .append, args := #[s, x], argTypes := #[22, 22] })
    (B : Nat) (ad : Option Addr) (n cap : Nat) (ys : List Int) (hs : a.eval s = .slice ad n cap) (hn : n = ys.length) (hown : Own B w ad cap ys)
    (ax : Addr) (c : Nat) (z : Int) (hx : a.eval x = .slice (some ax) 1 c) (hz : w.cell? ax = some (.int .i64 z)) (hmax : n + 1 ≤ 4000000) (hB : B ≤ w.heap.size)
    (hK : ∀ ad' cap' w', Own B w' ad' cap' (ys ++ [z]) → w.grownBy w' (blk ad) → (blk ad' = blk ad ∨ blk ad' = some w.heap.size) → K (a.put o.dst (.slice ad' (ys ++ [z]).length cap')) w') :
    o.wp Try.prog a w K Q := by
  subst hn
  obtain ⟨i0, hi, hz0, hz1, hz2⟩ := info_parts infoI
  have hnews : ∀ j u, [Value.int .i64 z][j]? = some u → w.cell? (ax.add j) = some u := by
    intro j u hj
    cases j with
    | zero =>
      simp at hj
      subst hj
      have : ax.add 0 = ax := by cases ax; simp [Addr.add]
      rw [this]; exact hz
    | succ j => simp at hj
  have h1 : ∀ u ∈ [Value.int .i64 z], u.oneCell' = true := by
    intro u hu
    simp at hu
    subst hu
    rfl
  obtain ⟨v', w1, hr, hown', hgrow, _, hloc⟩ := run_append_own_at (P := Try.prog) w B 22 o.type 2 i0 (.int .i64 0) 1 8 Try.underlying22 hi hz0 hz1 hz2 rfl (by decide) _ _ _ hown ax 1 c [.int .i64 z] rfl hnews h1 (by unfold maxLen; omega) (by omega) hB
  have hb1 : ∀ (ad : Option Addr) (n c : Nat), (Value.slice ad n c).ownBlock = blk ad := fun ad n c => by cases ad <;> rfl
  rw [hb1] at hgrow hloc
  have hv : ∃ ad' cap', v' = .slice ad' (ys ++ [z]).length cap' := by
    rcases hown'.2 with ⟨h1, h2⟩ | ⟨g, c', cur, h1, h2⟩
    · exact ⟨none, 0, by rw [h1]; congr 1; simp; omega⟩
    · exact ⟨_, c', by rw [h1]; congr 1; simp⟩
  obtain ⟨ad', cap', rfl⟩ := hv
  rw [hb1] at hloc
  unfold Oper.wp execOp
  simp only [ho, resolve, invoke, builtin, Sem.run_bind, Sem.run_pure, Result.andThen_ok, List.map_toArray, List.map_cons, List.map_nil, hs, hx, hr]
  refine hK ad' cap' w1 ?_ hgrow hloc
  unfold Own
  have e : (ys ++ [z]).length = ys.length + 1 := by simp
  rw [List.map_append]
  rw [e] at hown' ⊢
  exact hown'
theorem wp_app1 {w : World} {ops : Array Oper} {rest : List Oper} {o : Oper} {a : Act} {Q : Exit → Act → World → Prop}
    (hgd : o.guard = none) (s x : Operand) (ho : o.op = .call { callee := .builtin .append, args := #[s, x], argTypes := #[22, 22] })
    (B : Nat) (ad : Option Addr) (n cap : Nat) (ys : List Int) (hs : a.eval s = .slice ad n cap) (hn : n = ys.length) (hown : Own B w ad cap ys)
    (ax : Addr) (c : Nat) (z : Int) (hx : a.eval x = .slice (some ax) 1 c) (hz : w.cell? ax = some (.int .i64 z)) (hmax : n + 1 ≤ 4000000) (hB : B ≤ w.heap.size)
    (hK : ∀ ad' cap' w', Own B w' ad' cap' (ys ++ [z]) → w.grownBy w' (blk ad) → (blk ad' = blk ad ∨ blk ad' = some w.heap.size) → wpList Try.prog ops Q rest (a.put o.dst (.slice ad' (ys ++ [z]).length cap')) w') :
    wpList Try.prog ops Q (o :: rest) a w :=
  wpList_plain hgd fun K hK' => op_app1 s x ho B ad n cap ys hs hn hown ax c z hx hz hmax hB fun ad' cap' w' h1 h2 h3 => hK' _ _ (hK ad' cap' w' h1 h2 h3)
theorem step_app1 {w : World} {ops : Array Oper} {o : Oper} {a : Act} {K : Act → World → Prop} {Q : Exit → Act → World → Prop} {E : Prop}
    (hgd : o.guard = none) (s x : Operand) (ho : o.op = .call { callee := .builtin .append, args := #[s, x], argTypes := #[22, 22] })
    (B : Nat) (ad : Option Addr) (n cap : Nat) (ys : List Int) (hs : a.eval s = .slice ad n cap) (hn : n = ys.length) (hown : Own B w ad cap ys)
    (ax : Addr) (c : Nat) (z : Int) (hx : a.eval x = .slice (some ax) 1 c) (hz : w.cell? ax = some (.int .i64 z)) (hmax : n + 1 ≤ 4000000) (hB : B ≤ w.heap.size)
    (hK : ∀ ad' cap' w', Own B w' ad' cap' (ys ++ [z]) → w.grownBy w' (blk ad) → (blk ad' = blk ad ∨ blk ad' = some w.heap.size) → K (a.put o.dst (.slice ad' (ys ++ [z]).length cap')) w') :
    if Region.wanted o (yielded ops a.tmps) = true then Oper.wp Try.prog o a w K Q else E := by
  have hw : Region.wanted o (yielded ops a.tmps) = true := by simp [Region.wanted, hgd]
  rw [if_pos hw]
  exact op_app1 s x ho B ad n cap ys hs hn hown ax c z hx hz hmax hB hK
theorem own_blk_ge {B : Nat} {w : World} {a : Option Addr} {c : Nat} {ys : List Int} (h : Own B w a c ys) : ∀ g, blk a = some g → B ≤ g := fun g hg => by
  rcases h.shape with ⟨rfl, _, _⟩ | ⟨g', cur, rfl, hB, _⟩
  · cases hg
  · cases hg; exact hB
theorem grown_row {w w1 w2 : World} {g : Nat} {row : Option Nat} (h : w.grownBy w1 (some g)) (k : w1.grownBy w2 row) (hr : ∀ b, row = some b → w.heap.size ≤ b) : w.grownBy w2 (some g) :=
  ⟨k.os.trans h.os, k.tape.trans h.tape, k.output.trans h.output, Nat.le_trans h.size k.size, fun i hi hne => (k.block i (Nat.lt_of_lt_of_le hi h.size) (fun e => by have := hr i e.symm; omega)).trans (h.block i hi hne)⟩
theorem Own.gk {B : Nat} {w w' : World} {a : Option Addr} {c g : Nat} {ys : List Int} (h : Own B w a c ys) (hg : w.grownBy w' (some g)) (hB : g < B) : Own B w' a c ys :=
  h.keep hg (fun b hb e => by have := own_blk_ge h b hb; cases e; omega)
end Go.Proofs.Ytllcgoachgfpjaa
