/- Merged texts. -/
import Derived.Test.YtkpmonopjkjflaaYC21
import Derived.Maps.AppendAt
import Derived.Deep.AppendLies
import Derived.Test.YtkpmonopjkjflaaYC220
import Derived.Test.YtkpmonopjkjflaaYC222
import Derived.Test.YtkpmonopjkjflaaYC224
/- An append of one number by laws that say where the new row lies (in a plain region, at an operation, at a step of a region that draws). -/
namespace Go.Proofs.Ytkpmonopjkjflaa
open Go.RowKit
set_option linter.unusedVariables false
set_option linter.unusedSimpArgs false
set_option maxRecDepth 100000 in
/-- An append of one number onto an owned row of numbers: only that row and new blocks turn. -/
theorem op_app1 {w : World} {o : Oper} {a : Act} {K : Act → World → Prop} {Q : Exit → Act → World → Prop}
    (s x : Operand) (ho : o.op = .call { callee := .builtin .append, args := #[s, x], argTypes := #[22, 22] })
    (B : Nat) (ad : Option Addr) (n cap : Nat) (ys : List Int) (hs : a.eval s = .slice ad n cap) (hn : n = ys.length) (hown : Own B w ad cap ys)
    (ax : Addr) (c : Nat) (z : Int) (hx : a.eval x = .slice (some ax) 1 c) (hz : w.cell? ax = some (.int .i64 z)) (hmax : n + 1 ≤ 4000000) (hB : B ≤ w.heap.size)
    (hK : ∀ ad' cap' w', Own B w' ad' cap' (ys ++ [z]) → w.grownBy w' (blk ad) → (blk ad' = blk ad ∨ blk ad' = some w.heap.size) → K (a.put o.dst (.slice ad' (ys ++ [z]).length cap')) w') :
    o.wp Try.prog a w K Q := by
  subst hn
  obtain ⟨i0, hi, hz0, hz1, hz2⟩ := info_parts infoI
  have hnews : ∀ j u, [Value.int .i64 z][j]? = some u → w.cell? (ax.add j) = some u := by
    intro j u hj
    cases j with
    | zero =>
      simp at hj
      subst hj
      have : ax.add 0 = ax := by cases ax; simp [Addr.add]
      rw [this]; exact hz
    | succ j => simp at hj
  have h1 : ∀ u ∈ [Value.int .i64 z], u.oneCell' = true := by
    intro u hu
    simp at hu
    subst hu
    rfl
  obtain ⟨v', w1, hr, hown', hgrow, _, hloc⟩ := run_append_own_at (P := Try.prog) w B 22 o.type 2 i0 (.int .i64 0) 1 8 Try.underlying22 hi hz0 hz1 hz2 rfl (by decide) _ _ _ hown ax 1 c [.int .i64 z] rfl hnews h1 (by unfold maxLen; omega) (by omega) hB
  have hb1 : ∀ (ad : Option Addr) (n c : Nat), (Value.slice ad n c).ownBlock = blk ad := fun ad n c => by cases ad <;> rfl
  rw [hb1] at hgrow hloc
  have hv : ∃ ad' cap', v' = .slice ad' (ys ++ [z]).length cap' := by
    rcases hown'.2 with ⟨h1, h2⟩ | ⟨g, c', cur, h1, h2⟩
    · exact ⟨none, 0, by rw [h1]; congr 1; simp; omega⟩
    · exact ⟨_, c', by rw [h1]; congr 1; simp⟩
  obtain ⟨ad', cap', rfl⟩ := hv
  rw [hb1] at hloc
  unfold Oper.wp execOp
  simp only [ho, resolve, invoke, builtin, Sem.run_bind, Sem.run_pure, Result.andThen_ok, List.map_toArray, List.map_cons, List.map_nil, hs, hx, hr]
  refine hK ad' cap' w1 ?_ hgrow hloc
  unfold Own
  have e : (ys ++ [z]).length = ys.length + 1 := by simp
  rw [List.map_append]
  rw [e] at hown' ⊢
  exact hown'
theorem wp_app1 {w : World} {ops : Array Oper} {rest : List Oper} {o : Oper} {a : Act} {Q : Exit → Act → World → Prop}
    (hgd : o.guard = none) (s x : Operand) (ho : o.op = .call { callee := .builtin .append, args := #[s, x], argTypes := #[22, 22] })
    (B : Nat) (ad : Option Addr) (n cap : Nat) (ys : List Int) (hs : a.eval s = .slice ad n cap) (hn : n = ys.length) (hown : Own B w ad cap ys)
    (ax : Addr) (c : Nat) (z : Int) (hx : a.eval x = .slice (some ax) 1 c) (hz : w.cell? ax = some (.int .i64 z)) (hmax : n + 1 ≤ 4000000) (hB : B ≤ w.heap.size)
    (hK : ∀ ad' cap' w', Own B w' ad' cap' (ys ++ [z]) → w.grownBy w' (blk ad) → (blk ad' = blk ad ∨ blk ad' = some w.heap.size) → wpList Try.prog ops Q rest (a.put o.dst (.slice ad' (ys ++ [z]).length cap')) w') :
    wpList Try.prog ops Q (o :: rest) a w :=
  wpList_plain hgd fun K hK' => op_app1 s x ho B ad n cap ys hs hn hown ax c z hx hz hmax hB fun ad' cap' w' h1 h2 h3 => hK' _ _ (hK ad' cap' w' h1 h2 h3)
theorem step_app1 {w : World} {ops : Array Oper} {o : Oper} {a : Act} {K : Act → World → Prop} {Q : Exit → Act → World → Prop} {E : Prop}
    (hgd : o.guard = none) (s x : Operand) (ho : o.op = .call { callee := .builtin .append, args := #[s, x], argTypes := #[22, 22] })
    (B : Nat) (ad : Option Addr) (n cap : Nat) (ys : List Int) (hs : a.eval s = .slice ad n cap) (hn : n = ys.length) (hown : Own B w ad cap ys)
    (ax : Addr) (c : Nat) (z : Int) (hx : a.eval x = .slice (some ax) 1 c) (hz : w.cell? ax = some (.int .i64 z)) (hmax : n + 1 ≤ 4000000) (hB : B ≤ w.heap.size)
    (hK : ∀ ad' cap' w', Own B w' ad' cap' (ys ++ [z]) → w.grownBy w' (blk ad) → (blk ad' = blk ad ∨ blk ad' = some w.heap.size) → K (a.put o.dst (.slice ad' (ys ++ [z]).length cap')) w') :
    if Region.wanted o (yielded ops a.tmps) = true then Oper.wp Try.prog o a w K Q else E := by
  have hw : Region.wanted o (yielded ops a.tmps) = true := by simp [Region.wanted, hgd]
  rw [if_pos hw]
  exact op_app1 s x ho B ad n cap ys hs hn hown ax c z hx hz hmax hB hK
theorem own_blk_ge {B : Nat} {w : World} {a : Option Addr} {c : Nat} {ys : List Int} (h : Own B w a c ys) : ∀ g, blk a = some g → B ≤ g := fun g hg => by
  rcases h.shape with ⟨rfl, _, _⟩ | ⟨g', cur, rfl, hB, _⟩
  · cases hg
  · cases hg; exact hB
theorem grown_row {w w1 w2 : World} {g : Nat} {row : Option Nat} (h : w.grownBy w1 (some g)) (k : w1.grownBy w2 row) (hr : ∀ b, row = some b → w.heap.size ≤ b) : w.grownBy w2 (some g) :=
  ⟨k.os.trans h.os, k.tape.trans h.tape, k.output.trans h.output, Nat.le_trans h.size k.size, fun i hi hne => (k.block i (Nat.lt_of_lt_of_le hi h.size) (fun e => by have := hr i e.symm; omega)).trans (h.block i hi hne)⟩
theorem Own.gk {B : Nat} {w w' : World} {a : Option Addr} {c g : Nat} {ys : List Int} (h : Own B w a c ys) (hg : w.grownBy w' (some g)) (hB : g < B) : Own B w' a c ys :=
  h.keep hg (fun b hb e => by have := own_blk_ge h b hb; cases e; omega)
end Go.Proofs.Ytkpmonopjkjflaa
/- Contracts: l05Reverse (model), slices.Reverse on an owned list (program), SeriesOfJacobi (program and model). -/
namespace Go.Proofs.Ytkpmonopjkjflaa
open Go.RowKit
set_option linter.unusedVariables false
set_option linter.unusedSimpArgs false

/-- The numbers in the reverse order. -/
def revL (xs : List Int) : List Int := tab xs.length (fun j => xs.getD (xs.length - 1 - j) 0)
theorem revL_len (xs : List Int) : (revL xs).length = xs.length := tab_len _ _
theorem revL_are {p : Int} {xs : List Int} (h : areB p xs = true) : areB p (revL xs) = true := areB_mk fun j hj => by
  rw [revL_len] at hj
  unfold revL
  rw [tab_at _ _ _ hj]
  exact areB_at h _ (by omega)
theorem addM_long {p k : Int} {f g : List Int} (hlt : g.length < f.length) (hl : f.getD (f.length - 1) 0 ≠ 0) : (addM p f g k).length = f.length := by
  unfold addM
  rw [show max f.length g.length = f.length by omega, trimL_self, tab_len]
  rw [tab_len, tab_at _ _ _ (by omega)]
  unfold sumH
  rw [if_neg (by omega)]
  exact hl
theorem lin_full {p : Int} (hp : primeB p = true) (a : Int) {f : List Int} (hf : polyB p f = true) (h0 : f.length ≠ 0) : (mulM p (linM p a) f).length = f.length + 1 ∧ (mulM p (linM p a) f).getD ((mulM p (linM p a) f).length - 1) 0 ≠ 0 := by
  have e1 : (mulM p (linM p a) f).length = f.length + 1 := by
    rw [mulM_len (by simp [linM]) (fun h => h0 (by rw [h]; rfl))]
    simp [linM]
    omega
  refine ⟨e1, ?_⟩
  have e := mulM_trim hp (linM_poly (primeB_lo hp).1 (a := a)) hf
  have := trimL_last (mulM p (linM p a) f)
  rw [e] at this
  rcases this with h | h
  · omega
  · exact h
theorem polJ_len2 {p : Int} (hp : primeB p = true) (xs ys : List Int) : ∀ i, i ≤ 22 → (polJ p xs ys i).length = i + 1 ∧ (polJ p xs ys (i + 1)).length = i + 2 := by
  intro i
  induction i with
  | zero => intro _; exact ⟨rfl, by rw [polJ_one (primeB_lo hp).1]; rfl⟩
  | succ i ih =>
    intro hi
    obtain ⟨h1, h2⟩ := ih (by omega)
    refine ⟨h2, ?_⟩
    have hf := (polJ_small (primeB_lo hp).1 xs ys (i + 1) (by omega)).1
    obtain ⟨l1, l2⟩ := lin_full hp (xs.getD (i + 1) 0) hf (by omega)
    rw [polJ_step]
    unfold stp
    rw [addM_long (by omega) l2]
    omega
theorem polJ_len {p : Int} (hp : primeB p = true) (xs ys : List Int) (i : Nat) (hi : i ≤ 22) : (polJ p xs ys i).length = i + 1 := (polJ_len2 hp xs ys i hi).1
def sojC (p : Int) (xs ys : List Int) (k : Int) : Int := jcd p xs ys k 0 24
def sojF (p : Int) (xs ys : List Int) : List Int := addM p [] (secJ p xs ys xs.length) (ys.getD 0 0)
def sojV (p : Int) (xs ys : List Int) (k : Int) : List Int := if sojC p xs ys k = 0 then serL p (revL (sojF p xs ys)) (revL (polJ p xs ys xs.length)) k.toNat else []
end Go.Proofs.Ytkpmonopjkjflaa
