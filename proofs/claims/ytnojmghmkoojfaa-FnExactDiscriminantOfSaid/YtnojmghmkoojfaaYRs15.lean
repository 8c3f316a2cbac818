/- Merged texts. -/
import Derived.Test.YtnojmghmkoojfaaYRs14
import Derived.Test.YtnojmghmkoojfaaYRs9
import Derived.Test.YtnojmghmkoojfaaYRs6
import Derived.Deep.RegionWith
import Derived.Deep.DeepCutAuto
import Derived.Deep.CutBlock
import Derived.Deep.RegionHeld3
/- Contracts: windows (slices of one list) and functional over lists. -/
namespace Go.Proofs.Ytnojmghmkoojfaa
open Go.RowKit
set_option linter.unusedVariables false
set_option linter.unusedSimpArgs false

/-- An owned row of slices. -/
def OwnV (B : Nat) (w : World) (a : Option Addr) (cap : Nat) (ys : List Value) : Prop := w.ownsRow B 22 1 (.slice a ys.length cap) ys.length ys
theorem OwnV.nil (B : Nat) (w : World) : OwnV B w none 0 [] := World.ownsRow_nil _ _ _ _
theorem infoS : (Try.prog.info? 22).map (fun i => (i.zero, i.size, i.bytes)) = some (some (.slice none 0 0), 1, 24) := by kernel_rfl
set_option maxRecDepth 100000 in
/-- An append of one number onto an owned row of numbers: only that row and new blocks turn. -/
theorem op_appV {w : World} {o : Oper} {a : Act} {K : Act → World → Prop} {Q : Exit → Act → World → Prop}
    (s x : Operand) (ho : o.op = .call { callee := .builtin .append, args := #[s, x], argTypes := #[41, 41] })
    (B : Nat) (ad : Option Addr) (n cap : Nat) (ys : List Value) (hs : a.eval s = .slice ad n cap) (hn : n = ys.length) (hown : OwnV B w ad cap ys)
    (ax : Addr) (c : Nat) (z : Value) (hx : a.eval x = .slice (some ax) 1 c) (hz : w.cell? ax = some z) (hz1' : z.oneCell' = true) (hmax : n + 1 ≤ 4000000) (hB : B ≤ w.heap.size)
    (hK : ∀ ad' cap' w', OwnV B w' ad' cap' (ys ++ [z]) → w.grownBy w' (blk ad) → (blk ad' = blk ad ∨ blk ad' = some w.heap.size) → K (a.put o.dst (.slice ad' (ys ++ [z]).length cap')) w') :
    o.wp Try.prog a w K Q := by
  subst hn
  obtain ⟨i0, hi, hz0, hz1, hz2⟩ := info_parts infoS
  have hnews : ∀ j u, [z][j]? = some u → w.cell? (ax.add j) = some u := by
    intro j u hj
    cases j with
    | zero =>
      simp at hj
      subst hj
      have : ax.add 0 = ax := by cases ax; simp [Addr.add]
      rw [this]; exact hz
    | succ j => simp at hj
  have h1 : ∀ u ∈ [z], u.oneCell' = true := by
    intro u hu
    simp at hu
    subst hu
    exact hz1'
  obtain ⟨v', w1, hr, hown', hgrow, _, hloc⟩ := run_append_own_at (P := Try.prog) w B 41 o.type 22 i0 (.slice none 0 0) 1 24 Try.underlying41 hi hz0 hz1 hz2 rfl (by decide) _ _ _ hown ax 1 c [z] rfl hnews h1 (by unfold maxLen; omega) (by omega) hB
  have hb1 : ∀ (ad : Option Addr) (n c : Nat), (Value.slice ad n c).ownBlock = blk ad := fun ad n c => by cases ad <;> rfl
  rw [hb1] at hgrow hloc
  have hv : ∃ ad' cap', v' = .slice ad' (ys ++ [z]).length cap' := by
    rcases hown'.2 with ⟨h1, h2⟩ | ⟨g, c', cur, h1, h2⟩
    · exact ⟨none, 0, by rw [h1]; congr 1; simp; omega⟩
    · exact ⟨_, c', by rw [h1]; congr 1; simp⟩
  obtain ⟨ad', cap', rfl⟩ := hv
  rw [hb1] at hloc
  unfold Oper.wp execOp
  simp only [ho, resolve, invoke, builtin, Sem.run_bind, Sem.run_pure, Result.andThen_ok, List.map_toArray, List.map_cons, List.map_nil, hs, hx, hr]
  refine hK ad' cap' w1 ?_ hgrow hloc
  unfold OwnV
  have e : (ys ++ [z]).length = ys.length + 1 := by simp
  rw [e] at hown' ⊢
  exact hown'
theorem wp_appV {w : World} {ops : Array Oper} {rest : List Oper} {o : Oper} {a : Act} {Q : Exit → Act → World → Prop}
    (hgd : o.guard = none) (s x : Operand) (ho : o.op = .call { callee := .builtin .append, args := #[s, x], argTypes := #[41, 41] })
    (B : Nat) (ad : Option Addr) (n cap : Nat) (ys : List Value) (hs : a.eval s = .slice ad n cap) (hn : n = ys.length) (hown : OwnV B w ad cap ys)
    (ax : Addr) (c : Nat) (z : Value) (hx : a.eval x = .slice (some ax) 1 c) (hz : w.cell? ax = some z) (hz1' : z.oneCell' = true) (hmax : n + 1 ≤ 4000000) (hB : B ≤ w.heap.size)
    (hK : ∀ ad' cap' w', OwnV B w' ad' cap' (ys ++ [z]) → w.grownBy w' (blk ad) → (blk ad' = blk ad ∨ blk ad' = some w.heap.size) → wpList Try.prog ops Q rest (a.put o.dst (.slice ad' (ys ++ [z]).length cap')) w') :
    wpList Try.prog ops Q (o :: rest) a w :=
  wpList_plain hgd fun K hK' => op_appV s x ho B ad n cap ys hs hn hown ax c z hx hz hz1' hmax hB fun ad' cap' w' h1 h2 h3 => hK' _ _ (hK ad' cap' w' h1 h2 h3)
theorem OwnV.below {B : Nat} {w w' : World} {a : Option Addr} {cap : Nat} {ys : List Value} (h : OwnV B w a cap ys) (hb : Below w.heap.size w w') : OwnV B w' a cap ys := by
  refine ⟨h.1, ?_⟩
  rcases h.2 with h' | ⟨g, c, cur, h1, h2, h3, h4⟩
  · exact .inl h'
  · exact .inr ⟨g, c, cur, h1, h2, (hb.block g (lt_of_block h3)).trans h3, h4⟩
theorem OwnV.blkG {B : Nat} {w : World} {a : Option Addr} {c : Nat} {ys : List Value} (h : OwnV B w a c ys) : ∀ g, blk a = some g → B ≤ g := fun g hg => by
  rcases h.2 with ⟨h1, _⟩ | ⟨g', c', cur, h1, h2, _⟩
  · simp only [Value.slice.injEq] at h1
    rw [h1.1] at hg; cases hg
  · simp only [Value.slice.injEq] at h1
    rw [h1.1] at hg; cases hg; exact h2
theorem OwnV.at {B : Nat} {w : World} {a : Option Addr} {c : Nat} {ys : List Value} (h : OwnV B w a c ys) (h0 : ys.length ≠ 0) : ∃ g, a = some ⟨g, 0, none⟩ ∧ ∀ j, j < ys.length → w.cell? ⟨g, j, none⟩ = ys[j]? := by
  rcases h.2 with ⟨h1, h2⟩ | ⟨g', c', cur, h1, _⟩
  · exact absurd h2 h0
  · simp only [Value.slice.injEq] at h1
    obtain ⟨rfl, _, rfl⟩ := h1
    exact ⟨g', rfl, fun j hj => World.ownsRow.cellAt h j (by omega)⟩
theorem SL.win {w : World} {b off N c n i : Nat} {xs : List Int} (h : SL w (some ⟨b, off, none⟩) N c xs) (hi : i + n ≤ N) : SL w (some ⟨b, off + i, none⟩) n n ((xs.drop i).take n) := by
  have hl := h.1
  refine ⟨by simp; omega, ⟨Nat.le_refl _, fun e => by cases e⟩, ?_⟩
  rcases h.2.2 with h0 | ⟨b', o', e, hc⟩
  · left; simp [h0] at hl ⊢ <;> omega
  · right
    cases e
    refine ⟨b, off + i, rfl, fun j hj => ?_⟩
    have := hc (i + j) (by omega)
    rw [← Nat.add_assoc] at this
    rw [this]
    simp [List.getElem?_take, hj]
def winV (b off n i : Nat) : List Value := (List.range i).map (fun j => Value.slice (some ⟨b, off + j, none⟩) n n)
theorem winV_len (b off n i : Nat) : (winV b off n i).length = i := by simp [winV]
theorem winV_step (b off n i : Nat) : winV b off n i ++ [Value.slice (some ⟨b, off + i, none⟩) n n] = winV b off n (i + 1) := by simp [winV, List.range_succ]
theorem winV_at (b off n i j : Nat) (hj : j < i) : (winV b off n i)[j]? = some (Value.slice (some ⟨b, off + j, none⟩) n n) := by simp [winV, hj]
/-- A list to which multiples of lists are added, one after the other. -/
def funF (p : Int) (f : List Int) (R : Nat → List Int) (ys : List Int) : Nat → List Int
  | 0 => ys
  | i + 1 => addlM p (f.getD i 0) (funF p f R ys i) (R i)
theorem funF_len (p : Int) (f : List Int) (R : Nat → List Int) (ys : List Int) (i : Nat) : (funF p f R ys i).length = ys.length := by
  induction i with
  | zero => rfl
  | succ i ih => rw [funF, addlM_len, ih]
theorem funF_are {p : Int} (hp : 2 ≤ p) (f : List Int) (R : Nat → List Int) (ys : List Int) (hy : areB p ys = true) (i : Nat) : areB p (funF p f R ys i) = true := by
  cases i with
  | zero => exact hy
  | succ i => exact addlM_are hp _ _ _
end Go.Proofs.Ytnojmghmkoojfaa
/- Contracts: values of polynomials: evaluate (numbers), evaluateAt, ValueAt (program); l01At, ValueAt (model). -/
namespace Go.Proofs.Ytnojmghmkoojfaa
open Go.RowKit
set_option linter.unusedVariables false
set_option linter.unusedSimpArgs false

/-- Horner's rule, k numbers taken in from the last one on. -/
def hor (p : Int) (f : List Int) (x : Int) : Nat → Int
  | 0 => 0
  | k + 1 => (hor p f x k * x + f.getD (f.length - 1 - k) 0) % p
def evM (p : Int) (f : List Int) (x : Int) : Int := hor p f x f.length
theorem hor_rng {p : Int} (hp : 2 ≤ p) (f : List Int) (x : Int) (k : Nat) : 0 ≤ hor p f x k ∧ hor p f x k < p := by
  cases k with
  | zero => simp [hor]; omega
  | succ k => exact modb hp
theorem evM_rng {p : Int} (hp : 2 ≤ p) (f : List Int) (x : Int) : 0 ≤ evM p f x ∧ evM p f x < p := hor_rng hp f x _
set_option maxRecDepth 100000 in
set_option maxHeartbeats 1600000 in
theorem l01At_any (p x : Int) (a1 : Option Addr) (n1 c1 : Nat) (f : List Int) (w : World) (h1 : SL w a1 n1 c1 f) (b1 : n1 ≤ 1000) (hp : 2 ≤ p) (hp2 : p ≤ 10007) (hx0 : 0 ≤ x) (hx1 : x < p) (hf : areB p f = true) :
    Calls Try.prog 117 #[.int .i64 p, .slice a1 n1 c1, .int .i64 x] w fun e w' => e = .returned (.int .i64 (evM p f x)) ∧ w = w' := by
  have hl1 := hide h1.len
  have Hf := hide hf
  clear hf
  go_enter Try.func117, Try.ntmps117
  go_wp2
  go_loop [7, 8] (fun o i => ∃ k : Nat, k ≤ n1 ∧ i = .int .i64 ((n1 : Int) - 1 - (k : Int)) ∧ o = .int .i64 (hor p f x k)) (fun _ i => (intOf i + 1).toNat)
  case atStart => exact ⟨0, by omega, by simp, rfl⟩
  case round =>
    obtain ⟨k, hk, rfl, rfl⟩ := hrel
    by_cases hlt : k < n1
    · obtain ⟨b, off, ha, hbw, hcell⟩ := h1.at (by omega)
      subst ha
      have e1 := hcell (n1 - 1 - k) (by omega)
      have hr := getD_rng Hf.out hp (n1 - 1 - k)
      have hh : Hid (hor p f x (k + 1) = (hor p f x k * x + f.getD (n1 - 1 - k) 0) % p) := hide (by rw [hor, hl1.out])
      have hv := hor_rng hp f x k
      obtain ⟨y, hy⟩ : ∃ y, f.getD (n1 - 1 - k) 0 = y := ⟨_, rfl⟩
      obtain ⟨v, hvv⟩ : ∃ v, hor p f x k = v := ⟨_, rfl⟩
      rw [hy] at e1 hr hh
      rw [hvv] at hh hv ⊢
      obtain ⟨m1, m2⟩ := mulb hv.1 hv.2 hx0 hx1 hp2
      have hge : (0 : Int) ≤ (n1 : Int) - 1 - (k : Int) := by omega
      have hkt : ((n1 : Int) - 1 - (k : Int)).toNat = n1 - 1 - k := by omega
      obtain ⟨r1, r2⟩ := hr
      clear hcell hy hvv
      go_wp2
      go_round
      case rel => exact ⟨k + 1, by omega, by go_num, by rw [hh.out]⟩
      case measure => simp [intOf]; omega
    · obtain rfl : k = n1 := by omega
      have hneg : ¬ (0 : Int) ≤ (k : Int) - 1 - (k : Int) := by omega
      have hsz : (k : Int) - 1 - (k : Int) = -1 := by omega
      have hfin : Hid (hor p f x k = evM p f x) := hide (by unfold evM; rw [hl1.out])
      rw [hsz]
      clear hsz hneg
      go_wp2
      go_ret
      exact ⟨ret_int hfin.out, rfl⟩
set_option maxHeartbeats 400000 in
theorem numAdd (p x y : Int) (b : Nat) (w : World) (hc : w.cell? ⟨b, 0, none⟩ = some (.int .i64 p)) (hx : 0 ≤ x) (hx2 : x ≤ 100140049) (hy : 0 ≤ y) (hy2 : y ≤ 100140049) (hp : 2 ≤ p) :
    Calls Try.prog 126 #[num x, num y, .pointer (some ⟨b, 0, none⟩)] w fun e w' => e = .returned (num ((x + y) % p)) ∧ Below w.heap.size w w' := by
  have hc3 := cell_al3 hc
  go_enter Try.func126, Try.ntmps126
  go_wp2
  refine bodyPost_ret (v := num ((x + y) % p)) (by simp [results, Try.results126, go_sem]) rfl ⟨rfl, ?_⟩
  exact bl3 _ _ _ _
end Go.Proofs.Ytnojmghmkoojfaa
