/- slices.Backward at []int64: what it hands back, and the rounds of a loop over it; an append in a round. -/
import Derived.Test.YtnojmghmkoojfaaSt
import Derived.Test.YtnojmghmkoojfaaWa
import Derived.RangeFuncNested
import Derived.RangeFuncBound
import Derived.RangeFuncCalls
import Derived.RangeFuncLeaves
import Derived.RangeFuncBox
import Derived.Shelf.Abstract
import Derived.Shelf.RegionOpen
import Derived.WalkKit
import Derived.OwnWalkIn
import Derived.TacticsInMore
import Derived.LoopNIn
import Derived.LoopIn
import Derived.Maps.OwnIn
namespace Go.Proofs.Ytnojmghmkoojfaa
open Go.RowKit Go.Shelf
set_option linter.unusedVariables false
set_option linter.unusedSimpArgs false
attribute [local go_sem] Oper.semAt_some

/-- The first k of a sequence. -/
def upto {α : Type} (f : Nat → α) (k : Nat) : List α := (List.range k).map f
theorem upto_succ {α : Type} (f : Nat → α) (k : Nat) : upto f (k + 1) = upto f k ++ [f k] := by simp [upto, List.range_succ]
theorem upto_length {α : Type} (f : Nat → α) (k : Nat) : (upto f k).length = k := by simp [upto]
/-- A number modulo p. -/
abbrev NumP (p : Int) := { v : Int // 0 ≤ v ∧ v < p }
/-- What a walk from the end of a list hands out at its round j: the index and the number. -/
def bkF (p : Int) (hp : 0 < p) (xs : List Int) (j : Nat) : Nat × NumP p :=
  (xs.length - 1 - j, ⟨xs[xs.length - 1 - j]?.getD 0 % p, ⟨Int.emod_nonneg _ (by omega), Int.emod_lt_of_pos _ hp⟩⟩)
def bkE (p : Int) (x : Nat × NumP p) : Array Value := #[.int .i64 (x.1 : Int), .int .i64 x.2.1]
/-- What a round must keep: what lies below n, and the box of the list. -/
def KpB (n Bs : Nat) (W W' : World) : Prop := Below n W W' ∧ ∀ v, W.cell? ⟨Bs, 0, none⟩ = some v → W'.cell? ⟨Bs, 0, none⟩ = some v
theorem KpB.t {n Bs : Nat} {A B C : World} (h : KpB n Bs A B) (k : KpB n Bs B C) : KpB n Bs A C := ⟨h.1.trans k.1, fun v hv => k.2 v (h.2 v hv)⟩
theorem KpB.b {n Bs : Nat} {w : World} (hn : n ≤ w.heap.size) (W : World) (l : Nat) (o o' : Obj) (hl : w.heap.size ≤ l) (h : W.heap[l]? = some o) (ho : o.isCells = false) (hw : o.isWalk = false) : KpB n Bs W (W.putObj l o') :=
  ⟨belowK_b hn W l o o' hl h ho hw, fun v hv => cell_kept hv (grownBy_putObj' W l o') (fun r e => by cases e; exact ⟨o, h, ho⟩)⟩
theorem backward_any (a : Option Addr) (n c : Nat) (w : World) :
    Calls Try.prog 67 #[.slice a n c] w fun e w' => e = .returned (.func (.func 104) #[] #[.pointer (some ⟨w.heap.size, 0, none⟩)]) ∧ w' = w.alloc (.cells #[.slice a n c] 22) := by
  go_enter Try.func67, Try.ntmps67
  go_wp2
  go_ret
  exact ⟨rfl, rfl⟩
set_option maxRecDepth 100000 in
set_option maxHeartbeats 2000000 in
theorem back1_in (F : Fence) (n : Nat) (h1 : F.fn 104) (hro : F.round = none) (hn : 1 ≤ n) (l Bs n₀ b off cap : Nat) (p : Int) (hp : 0 < p) (xs : List Int) (hx : ∀ (j : Nat), xs[j]?.getD 0 % p = xs[j]?.getD 0) (hlen : xs.length ≤ 1000) (hb : b < n₀) (J Jx : List (Nat × NumP p) → World → Prop)
    (hY : ∀ pre x W, J pre W → pre.length < xs.length → YieldAt F (n - 1) Try.prog l (bkE p x) W fun e W' =>
      (e = .returned (.bool true) ∧ J (pre ++ [x]) W' ∧ KpB n₀ Bs W W') ∨ (e = .returned (.bool false) ∧ Jx (pre ++ [x]) W'))
    (W : World) (hBs : W.cell? ⟨Bs, 0, none⟩ = some (.slice (some ⟨b, off, none⟩) xs.length cap)) (hc : ∀ j, j < xs.length → W.cell? ⟨b, off + j, none⟩ = some (.int .i64 (xs[j]?.getD 0))) (h0 : J [] W) :
    CallsIn F n Try.prog 104 #[.func (.yield l) #[] #[], .pointer (some ⟨Bs, 0, none⟩)] W fun e W' => (∃ v, e = .returned v) ∧
      ((∃ ys, ys = upto (bkF p hp xs) xs.length ∧ J ys W') ∨ (∃ pre, (∃ k, k ≤ xs.length ∧ pre = upto (bkF p hp xs) k) ∧ Jx pre W')) := by
  have HX := hide hx
  clear hx
  obtain ⟨N, hN⟩ : ∃ N, xs.length = N := ⟨_, rfl⟩
  have HN := hide hN
  rw [hN] at hlen hBs
  have v0 : IntKind.i64.wrap ((N : Int) - 1) = (N : Int) - 1 := IntWalk.i64_in _ (by omega)
  refine callsIn_of_wp Try.func104 rfl h1 ?_ hro
  simp only [Try.ntmps104, List.size_toArray, List.length_cons, List.length_nil, Nat.reduceAdd, Nat.reduceSub, Array.replicate_succ, Array.replicate_zero, List.push_toArray, List.append_toArray, List.nil_append, List.cons_append]
  clear hN
  gi_wp2
  clear v0
  gi_loopw [3] (fun i wr => ∃ k : Nat, k ≤ N ∧ i = .int .i64 ((N : Int) - 1 - k) ∧ J (upto (bkF p hp xs) k) wr ∧ KpB n₀ Bs W wr)
    (fun i _ => (intOf i + 1).toNat)
  case atStart => exact ⟨0, Nat.zero_le _, by simp, h0, Below.refl _ _, fun v h => h⟩
  case round =>
    obtain ⟨k, hk, rfl, hJs, hnx⟩ := hrel
    have hBx := hnx.2 _ hBs
    by_cases hlt : k < N
    · obtain ⟨i, hi⟩ : ∃ i : Nat, i = N - 1 - k := ⟨_, rfl⟩
      have hii : (N : Int) - 1 - k = (i : Int) := by omega
      have hcx : wr.cell? ⟨b, off + i, none⟩ = some (.int .i64 (xs[i]?.getD 0)) := (hnx.1.cell (p := ⟨b, off + i, none⟩) hb).trans (hc i (by rw [HN.out]; omega))
      obtain ⟨fn, tmps, assign, body, hy, hR⟩ := hY _ (bkF p hp xs k) wr hJs (by rw [upto_length, HN.out]; exact hlt)
      have he : bkE p (bkF p hp xs k) = #[.int .i64 (i : Int), .int .i64 (xs[i]?.getD 0)] := by
        unfold bkE bkF
        simp only [HN.out, ← hi, HX.out]
      rw [he] at hy
      rw [hii]
      obtain ⟨x, hxd⟩ : ∃ x, xs[i]?.getD 0 = x := ⟨_, rfl⟩
      rw [hxd] at hcx hy
      have q0 : (0 : Int) ≤ (i : Int) := by omega
      have q1 : (i : Int) < (N : Int) := by omega
      have Hi := hide hi
      have v1 : IntKind.i64.wrap ((i : Int) - 1) = (i : Int) - 1 := IntWalk.i64_in _ (by omega)
      clear he hi hii hxd
      gi_wp2
      refine hR.mono ?_
      rintro e W3 (⟨rfl, hJ3, hk3⟩ | ⟨rfl, hJx3⟩)
      · have hn3 := hnx.t hk3
        clear hcx hBx
        gi_wp2
        go_roundw
        case rel => exact ⟨k + 1, by omega, by rw [show ((N : Int) - 1 - ((k + 1 : Nat) : Int)) = (i : Int) - 1 by have := Hi.out; omega], by rw [upto_succ]; exact hJ3, hn3⟩
        case measure => first | (simp [intOf]; done) | (simp [intOf]; omega)
      · gi_wp2
        refine bodyPost_ret (results_none rfl _ _ _) rfl ?_
        exact ⟨⟨_, rfl⟩, .inr ⟨_, ⟨k + 1, by rw [HN.out]; omega, (upto_succ _ _).symm⟩, hJx3⟩⟩
    · obtain rfl : k = N := by omega
      have hneg : ¬ (0 : Int) ≤ (k : Int) - 1 - (k : Int) := by omega
      gi_wp2
      go_end0
      rw [← HN.out] at hJs
      exact ⟨⟨_, rfl⟩, .inl hJs⟩
theorem back_stops (F : Fence) (n : Nat) (h1 : F.fn 104) (hro : F.round = none) (hn : 1 ≤ n) (Bs n₀ b off cap : Nat) (p : Int) (hp : 0 < p) (xs : List Int) (hx : ∀ (j : Nat), xs[j]?.getD 0 % p = xs[j]?.getD 0) (hlen : xs.length ≤ 1000) (hb : b < n₀) (w : World) (hn0 : n₀ ≤ w.heap.size)
    (hBs : w.cell? ⟨Bs, 0, none⟩ = some (.slice (some ⟨b, off, none⟩) xs.length cap)) (hc : ∀ j, j < xs.length → w.cell? ⟨b, off + j, none⟩ = some (.int .i64 (xs[j]?.getD 0))) :
    SeqStopsK F n Try.prog 104 #[.pointer (some ⟨Bs, 0, none⟩)] (fun x : Nat × NumP p => #[Value.int .i64 (x.1 : Int), Value.int .i64 x.2.1]) (KpB n₀ Bs) (fun ys => ys = upto (bkF p hp xs) xs.length) (fun pre => ∃ k, k ≤ xs.length ∧ pre = upto (bkF p hp xs) k) xs.length w := fun l J Jx W hW _ _ hY h0 =>
  back1_in F n h1 hro hn l Bs n₀ b off cap p hp xs hx hlen hb J Jx hY W (cell_be hW hBs) (fun j hj => cell_be hW (hc j hj)) h0
/-- What a loop over a function turns leaves a list of the call's own as it is. -/
theorem Own.turn {B : Nat} {w w' : World} {a : Option Addr} {c : Nat} {ys : List Int} {row : Option Nat} (h : Own B w a c ys) (hg : w.grownBy w' row) (hr : ∀ r, row = some r → ∃ o : Obj, w.heap[r]? = some o ∧ o.isCells = false) : Own B w' a c ys :=
  h.keep hg (fun g hb e => by
    obtain ⟨o, ho, hc⟩ := hr g e
    rcases h.shape with ⟨rfl, _, _⟩ | ⟨g', cur, rfl, _, hgc, _⟩
    · cases hb
    · cases hb
      rw [hgc] at ho
      cases ho
      cases hc)
theorem keeps_of_below {w w' : World} (B : Nat) (h : Below w.heap.size w w') : KeepsFrom B w w' := by
  refine ⟨h.size, fun k o _ hk _ => ?_⟩
  exact (h.block k (Array.getElem?_eq_some_iff.1 hk).1).trans hk
set_option maxRecDepth 100000 in
theorem wpIn_append {F : Fence} {nF : Nat} {w : World} {ops : Array Oper} {rest : List Oper} {o : Oper} {a : Act} {Q : Exit → Act → World → Prop}
    (hgd : o.guard = none) (s x : Operand) (ho : o.op = .call { callee := .builtin .append, args := #[s, x], argTypes := #[22, 22] })
    (B : Nat) (ad : Option Addr) (n cap : Nat) (ys : List Int) (hs : a.eval s = .slice ad n cap) (hn : n = ys.length) (hown : Own B w ad cap ys)
    (ax : Option Addr) (m c : Nat) (zs : List Int) (hx : a.eval x = .slice ax m c) (hz : SL w ax m c zs) (hmax : n + m ≤ 4000000) (hB : B ≤ w.heap.size)
    (hK : ∀ ad' cap' w', Own B w' ad' cap' (ys ++ zs) → w.grownBy w' (blk ad) → (blk ad' = blk ad ∨ blk ad' = some w.heap.size) → wpListIn F nF Try.prog ops Q rest (a.put o.dst (.slice ad' (ys ++ zs).length cap')) w') :
    wpListIn F nF Try.prog ops Q (o :: rest) a w := by
  subst hn
  obtain ⟨i0, hi, hz0, hz1, hz2⟩ := info_parts infoI
  obtain ⟨hl, ⟨hle, hax⟩, hcs⟩ := hz
  have hb1 : (Value.slice ad ys.length cap).ownBlock = blk ad := by cases ad <;> rfl
  cases ax with
  | none =>
    obtain rfl := hax rfl
    obtain rfl : m = 0 := by omega
    obtain rfl : zs = [] := List.eq_nil_of_length_eq_zero hl
    refine wpListIn_plain hgd fun K hK' => ?_
    have hrun := run_append_owned_none (P := Try.prog) w B 22 o.type 2 i0 1 Try.underlying22 hi _ _ _ hown
    unfold Oper.wpIn
    refine ⟨by simp [Oper.about, ho, resolve, Target.leads, Sem.run_pure], ?_⟩
    rw [Oper.semAt_plain F _ _ (by rw [ho]; intro c hc'; cases hc')]
    simp [execOp, ho, resolve, invoke, builtin, hs, hx, hrun, Result.andThen]
    have := hK ad cap w (by simpa using hown) (grown_refl _ _) (.inl rfl)
    exact hK' _ _ (by simpa using this)
  | some p =>
    refine wpListIn_append_own_at w hgd s x 22 ho B 2 i0 (.int .i64 0) 1 8 Try.underlying22 hi hz0 hz1 hz2 rfl (by decide) _ _ _ hs hown p m c (zs.map (Value.int .i64)) hx (by simpa using hl) ?_ ?_ (by unfold maxLen; omega) (by omega) hB ?_
    · intro j u hj
      have hjz : j < zs.length := by
        have := (List.getElem?_eq_some_iff.1 hj).1
        simpa using this
      rcases hcs with h0 | ⟨b, off, hpe, hcell⟩
      · omega
      · obtain rfl := Option.some.inj hpe
        rw [Addr.add_lit, hcell j (by omega)]
        simpa [hjz] using hj
    · intro u hu
      obtain ⟨_, _, rfl⟩ := List.mem_map.1 hu
      rfl
    · intro v' w1 hown' hgrow _ hloc
      have hv : ∃ ad' cap', v' = .slice ad' (ys ++ zs).length cap' := by
        rcases hown'.2 with ⟨h1, h2⟩ | ⟨g, c', cur, h1, h2⟩
        · exact ⟨none, 0, by rw [h1]; congr 1; simp; omega⟩
        · exact ⟨_, c', by rw [h1]; congr 1; simp; omega⟩
      obtain ⟨ad', cap', rfl⟩ := hv
      have hb2 : (Value.slice ad' (ys ++ zs).length cap').ownBlock = blk ad' := by cases ad' <;> rfl
      rw [hb1, hb2] at hloc
      rw [hb1] at hgrow
      refine hK ad' cap' w1 ?_ hgrow hloc
      unfold Own
      have e : (ys ++ zs).length = ys.length + m := by simp; omega
      rw [List.map_append]
      rw [e] at hown' ⊢
      exact hown'
end Go.Proofs.Ytnojmghmkoojfaa
