/- Merged texts. -/
import Derived.Test.YtllcgoachgfpjaaYD223
import Derived.Test.YtllcgoachgfpjaaYD29
import Derived.Test.YtllcgoachgfpjaaYD220
import Derived.Deep.DeepFit
/- Contracts: windows (slices of one list) and functional over lists. -/
namespace Go.Proofs.Ytllcgoachgfpjaa
open Go.RowKit
set_option linter.unusedVariables false
set_option linter.unusedSimpArgs false

/-- An owned row of slices. -/
def OwnV (B : Nat) (w : World) (a : Option Addr) (cap : Nat) (ys : List Value) : Prop := w.ownsRow B 22 1 (.slice a ys.length cap) ys.length ys
theorem OwnV.nil (B : Nat) (w : World) : OwnV B w none 0 [] := World.ownsRow_nil _ _ _ _
theorem infoS : (Try.prog.info? 22).map (fun i => (i.zero, i.size, i.bytes)) = some (some (.slice none 0 0), 1, 24) := by kernel_rfl
set_option maxRecDepth 100000 in
/-- An append of one number onto an owned row of numbers: only that row and new blocks turn. -/
theorem op_appV {w : World} {o : Oper} {a : Act} {K : Act → World → Prop} {Q : Exit → Act → World → Prop}
    (s x : Operand) (ho : o.op = .call { callee := .builtin .append, args := #[s, x], argTypes := #[106, 106] })
    (B : Nat) (ad : Option Addr) (n cap : Nat) (ys : List Value) (hs : a.eval s = .slice ad n cap) (hn : n = ys.length) (hown : OwnV B w ad cap ys)
    (ax : Addr) (c : Nat) (z : Value) (hx : a.eval x = .slice (some ax) 1 c) (hz : w.cell? ax = some z) (hz1' : z.oneCell' = true) (hmax : n + 1 ≤ 4000000) (hB : B ≤ w.heap.size)
    (hK : ∀ ad' cap' w', OwnV B w' ad' cap' (ys ++ [z]) → w.grownBy w' (blk ad) → (blk ad' = blk ad ∨ blk ad' = some w.heap.size) → K (a.put o.dst (.slice ad' (ys ++ [z]).length cap')) w') :
    o.wp Try.prog a w K Q := by
  subst hn
  obtain ⟨i0, hi, hz0, hz1, hz2⟩ := info_parts infoS
  have hnews : ∀ j u, [z][j]? = some u → w.cell? (ax.add j) = some u := by
    intro j u hj
    cases j with
    | zero =>
      simp at hj
      subst hj
      have : ax.add 0 = ax := by cases ax; simp [Addr.add]
      rw [this]; exact hz
    | succ j => simp at hj
  have h1 : ∀ u ∈ [z], u.oneCell' = true := by
    intro u hu
    simp at hu
    subst hu
    exact hz1'
  obtain ⟨v', w1, hr, hown', hgrow, _, hloc⟩ := run_append_own_at (P := Try.prog) w B 106 o.type 22 i0 (.slice none 0 0) 1 24 Try.underlying106 hi hz0 hz1 hz2 rfl (by decide) _ _ _ hown ax 1 c [z] rfl hnews h1 (by unfold maxLen; omega) (by omega) hB
  have hb1 : ∀ (ad : Option Addr) (n c : Nat), (Value.slice ad n c).ownBlock = blk ad := fun ad n c => by cases ad <;> rfl
  rw [hb1] at hgrow hloc
  have hv : ∃ ad' cap', v' = .slice ad' (ys ++ [z]).length cap' := by
    rcases hown'.2 with ⟨h1, h2⟩ | ⟨g, c', cur, h1, h2⟩
    · exact ⟨none, 0, by rw [h1]; congr 1; simp; omega⟩
    · exact ⟨_, c', by rw [h1]; congr 1; simp⟩
  obtain ⟨ad', cap', rfl⟩ := hv
  rw [hb1] at hloc
  unfold Oper.wp execOp
  simp only [ho, resolve, invoke, builtin, Sem.run_bind, Sem.run_pure, Result.andThen_ok, List.map_toArray, List.map_cons, List.map_nil, hs, hx, hr]
  refine hK ad' cap' w1 ?_ hgrow hloc
  unfold OwnV
  have e : (ys ++ [z]).length = ys.length + 1 := by simp
  rw [e] at hown' ⊢
  exact hown'
theorem wp_appV {w : World} {ops : Array Oper} {rest : List Oper} {o : Oper} {a : Act} {Q : Exit → Act → World → Prop}
    (hgd : o.guard = none) (s x : Operand) (ho : o.op = .call { callee := .builtin .append, args := #[s, x], argTypes := #[106, 106] })
    (B : Nat) (ad : Option Addr) (n cap : Nat) (ys : List Value) (hs : a.eval s = .slice ad n cap) (hn : n = ys.length) (hown : OwnV B w ad cap ys)
    (ax : Addr) (c : Nat) (z : Value) (hx : a.eval x = .slice (some ax) 1 c) (hz : w.cell? ax = some z) (hz1' : z.oneCell' = true) (hmax : n + 1 ≤ 4000000) (hB : B ≤ w.heap.size)
    (hK : ∀ ad' cap' w', OwnV B w' ad' cap' (ys ++ [z]) → w.grownBy w' (blk ad) → (blk ad' = blk ad ∨ blk ad' = some w.heap.size) → wpList Try.prog ops Q rest (a.put o.dst (.slice ad' (ys ++ [z]).length cap')) w') :
    wpList Try.prog ops Q (o :: rest) a w :=
  wpList_plain hgd fun K hK' => op_appV s x ho B ad n cap ys hs hn hown ax c z hx hz hz1' hmax hB fun ad' cap' w' h1 h2 h3 => hK' _ _ (hK ad' cap' w' h1 h2 h3)
theorem OwnV.below {B : Nat} {w w' : World} {a : Option Addr} {cap : Nat} {ys : List Value} (h : OwnV B w a cap ys) (hb : Below w.heap.size w w') : OwnV B w' a cap ys := by
  refine ⟨h.1, ?_⟩
  rcases h.2 with h' | ⟨g, c, cur, h1, h2, h3, h4⟩
  · exact .inl h'
  · exact .inr ⟨g, c, cur, h1, h2, (hb.block g (lt_of_block h3)).trans h3, h4⟩
theorem OwnV.blkG {B : Nat} {w : World} {a : Option Addr} {c : Nat} {ys : List Value} (h : OwnV B w a c ys) : ∀ g, blk a = some g → B ≤ g := fun g hg => by
  rcases h.2 with ⟨h1, _⟩ | ⟨g', c', cur, h1, h2, _⟩
  · simp only [Value.slice.injEq] at h1
    rw [h1.1] at hg; cases hg
  · simp only [Value.slice.injEq] at h1
    rw [h1.1] at hg; cases hg; exact h2
theorem OwnV.at {B : Nat} {w : World} {a : Option Addr} {c : Nat} {ys : List Value} (h : OwnV B w a c ys) (h0 : ys.length ≠ 0) : ∃ g, a = some ⟨g, 0, none⟩ ∧ ∀ j, j < ys.length → w.cell? ⟨g, j, none⟩ = ys[j]? := by
  rcases h.2 with ⟨h1, h2⟩ | ⟨g', c', cur, h1, _⟩
  · exact absurd h2 h0
  · simp only [Value.slice.injEq] at h1
    obtain ⟨rfl, _, rfl⟩ := h1
    exact ⟨g', rfl, fun j hj => World.ownsRow.cellAt h j (by omega)⟩
theorem SL.win {w : World} {b off N c n i : Nat} {xs : List Int} (h : SL w (some ⟨b, off, none⟩) N c xs) (hi : i + n ≤ N) : SL w (some ⟨b, off + i, none⟩) n n ((xs.drop i).take n) := by
  have hl := h.1
  refine ⟨by simp; omega, ⟨Nat.le_refl _, fun e => by cases e⟩, ?_⟩
  rcases h.2.2 with h0 | ⟨b', o', e, hc⟩
  · left; simp [h0] at hl ⊢ <;> omega
  · right
    cases e
    refine ⟨b, off + i, rfl, fun j hj => ?_⟩
    have := hc (i + j) (by omega)
    rw [← Nat.add_assoc] at this
    rw [this]
    simp [List.getElem?_take, hj]
def winV (b off n i : Nat) : List Value := (List.range i).map (fun j => Value.slice (some ⟨b, off + j, none⟩) n n)
theorem winV_len (b off n i : Nat) : (winV b off n i).length = i := by simp [winV]
theorem winV_step (b off n i : Nat) : winV b off n i ++ [Value.slice (some ⟨b, off + i, none⟩) n n] = winV b off n (i + 1) := by simp [winV, List.range_succ]
theorem winV_at (b off n i j : Nat) (hj : j < i) : (winV b off n i)[j]? = some (Value.slice (some ⟨b, off + j, none⟩) n n) := by simp [winV, hj]
set_option maxRecDepth 100000 in
set_option maxHeartbeats 1600000 in
theorem windows_any (b off N c n : Nat) (xs : List Int) (w : World) (h1 : SL w (some ⟨b, off, none⟩) N c xs) (hn : 1 ≤ n) (hnN : n ≤ N) (hN : N ≤ 1000) :
    Calls Try.prog 101 #[.slice (some ⟨b, off, none⟩) N c, .int .i64 n] w fun e w' => ∃ g cap, e = .returned (.slice (some ⟨g, 0, none⟩) (N - n + 1) cap) ∧ (∀ i, i < N - n + 1 → w'.cell? ⟨g, i, none⟩ = some (.slice (some ⟨b, off + i, none⟩) n n)) ∧ Below w.heap.size w w' := by
  have hcc := h1.le
  have hO0 : Hid (OwnV w.heap.size w none 0 (winV b off n 0)) := hide (OwnV.nil _ _)
  go_enter Try.func101, Try.ntmps101
  go_wp2
  go_loopw [5, 6] (fun av ev wr => ∃ (i : Nat) (a' : Option Addr) (c' : Nat), i ≤ N - n + 1 ∧ av = .slice a' i c' ∧ ev = .int .i64 ((n : Int) + i) ∧ Hid (OwnV w.heap.size wr a' c' (winV b off n i)) ∧ Below w.heap.size w wr) (fun _ ev _ => (N + 1 - (intOf ev).toNat))
  case atStart => exact ⟨0, none, 0, by omega, rfl, by go_num, hO0, Below.refl _ _⟩
  case round =>
    obtain ⟨i, a', c', hi, rfl, rfl, hO, hb⟩ := hrel
    clear hO0
    obtain ⟨e, he⟩ : ∃ e : Nat, e = n + i := ⟨_, rfl⟩
    have hei : (n : Int) + i = (e : Int) := by omega
    rw [hei]
    have He := hide he
    clear he hei
    by_cases hlt : i < N - n + 1
    · have q1 : (e : Int) ≤ (N : Int) := by have := He.out; omega
      have q2 : (e : Int) ≤ (c : Int) := by omega
      have q3 : (0 : Int) ≤ (e : Int) := by omega
      have v1 : IntKind.i64.wrap ((e : Int) - n) = (i : Int) := by rw [show (e : Int) - n = (i : Int) by have := He.out; omega]; exact IntWalk.i64_in _ (by omega)
      have q4 : (i : Int) ≤ (e : Int) := by have := He.out; omega
      have q5 : (0 : Int) ≤ (i : Int) := by omega
      have v2 : IntKind.i64.wrap ((e : Int) + 1) = (e : Int) + 1 := IntWalk.i64_in _ (by omega)
      have q6 : ¬ i = e := by have := He.out; omega
      have hba : Below wr.heap.size wr (wr.alloc (.cells #[.slice (some ⟨b, off + i, none⟩) n n] 22)) := bl1 _ _
      have hen : e - i = n := by have := He.out; omega
      obtain ⟨vs, hvs⟩ : ∃ vs, winV b off n i = vs := ⟨_, rfl⟩
      have hst : Hid (winV b off n (i + 1) = vs ++ [Value.slice (some ⟨b, off + i, none⟩) n n]) := hide (by rw [← hvs, winV_step])
      have hvl := hide (show vs.length = i by rw [← hvs, winV_len])
      rw [hvs] at hO
      clear hvs
      have hOa := hide (hO.out.below hba)
      clear hO
      have hcl : (wr.alloc (.cells #[.slice (some ⟨b, off + i, none⟩) n n] 22)).cell? ⟨wr.heap.size, 0, none⟩ = some (.slice (some ⟨b, off + i, none⟩) n n) := by simp [go_sem]
      go_wp2_with (at_builtin; with_reducible refine wp_appV rfl _ _ rfl w.heap.size _ _ _ vs rfl hvl.out.symm hOa.out _ _ _ rfl hcl rfl (by omega) (by have := hb.size; simp; omega) ?_; intro ad' cap' w' hown' hgr hloc)
      have hvl2 := hide (show (vs ++ [Value.slice (some ⟨b, off + i, none⟩) n n]).length = i + 1 by rw [List.length_append, hvl.out]; rfl)
      have hb2 : Below w.heap.size w w' := (hb.trans (hba.mono hb.size)).grown hgr (by have := hb.size; simp; omega) (OwnV.blkG hOa.out)
      go_roundw
      case rel => exact ⟨i + 1, ad', cap', by omega, by rw [hvl.out], by rw [show (e : Int) + 1 = (n : Int) + ((i + 1 : Nat) : Int) by have := He.out; omega], by rw [hst.out]; exact hide hown', hb2⟩
      case measure => simp [intOf]; omega
    · have q1 : ¬ (e : Int) ≤ (N : Int) := by have := He.out; omega
      have hiN : i = N - n + 1 := by omega
      obtain ⟨g, rfl, hat⟩ := OwnV.at hO.out (by rw [winV_len]; omega)
      rw [winV_len] at hat
      have hat2 := hide hat
      have HI := hide hiN
      clear hO hat hiN
      go_wp2
      refine bodyPost_ret (v := .slice (some ⟨g, 0, none⟩) i c') (by simp [results, Try.results101]) rfl ?_
      exact ⟨g, ⟨c', by rw [← HI.out]⟩, fun j hj => by rw [hat2.out j (by rw [HI.out]; exact hj), winV_at _ _ _ _ _ (by rw [HI.out]; exact hj)], hb⟩
/-- A list to which multiples of lists are added, one after the other. -/
def funF (p : Int) (f : List Int) (R : Nat → List Int) (ys : List Int) : Nat → List Int
  | 0 => ys
  | i + 1 => addlM p (f.getD i 0) (funF p f R ys i) (R i)
theorem funF_len (p : Int) (f : List Int) (R : Nat → List Int) (ys : List Int) (i : Nat) : (funF p f R ys i).length = ys.length := by
  induction i with
  | zero => rfl
  | succ i ih => rw [funF, addlM_len, ih]
theorem funF_are {p : Int} (hp : 2 ≤ p) (f : List Int) (R : Nat → List Int) (ys : List Int) (hy : areB p ys = true) (i : Nat) : areB p (funF p f R ys i) = true := by
  cases i with
  | zero => exact hy
  | succ i => exact addlM_are hp _ _ _
set_option maxRecDepth 100000 in
set_option maxHeartbeats 1600000 in
theorem functional_lists (p : Int) (a1 : Option Addr) (n1 c1 : Nat) (f : List Int) (g cnt cap : Nat) (A : Nat → Option Addr) (C : Nat → Nat) (R : Nat → List Int) (a3 : Option Addr) (n c3 : Nat) (ys : List Int) (B : Nat) (w : World)
    (h1 : SL w a1 n1 c1 f) (hcell : ∀ i, i < n1 → w.cell? ⟨g, i, none⟩ = some (.slice (A i) n (C i))) (hrow : ∀ i, i < n1 → SL w (A i) n (C i) (R i)) (hcnt : n1 ≤ cnt) (ho : Own B w a3 c3 ys) (hB : B ≤ w.heap.size) (hyl : ys.length = n)
    (b1 : n1 ≤ 1000) (b2 : n ≤ 1000) (hp : 2 ≤ p) (hp2 : p ≤ 10007) (hf : areB p f = true) (hR : ∀ i, i < n1 → areB p (R i) = true) (hy : areB p ys = true) :
    Calls Try.prog 100 #[.int .i64 p, .slice a1 n1 c1, .slice (some ⟨g, 0, none⟩) cnt cap, .slice a3 n c3, .func (.func 67) #[] #[]] w
      fun e w' => ∃ a' c', e = .returned (.slice a' n c') ∧ Own B w' a' c' (funF p f R ys n1) ∧ Below w.heap.size w w' := by
  have hl1 := hide h1.len
  have Hf := hide hf
  have Hy := hide hy
  have HR := hide hR
  have Hcell := hide hcell
  have Hrow := hide hrow
  have hO0 : Hid (Own B w a3 c3 (funF p f R ys 0)) := hide ho
  have Hyl := hide hyl
  clear hf hy hR hcell hrow ho hyl
  by_cases h0 : n1 = 0
  · subst h0
    go_enter Try.func100, Try.ntmps100
    go_wp2
    refine wp_loop_rounds 1 ?_
    rw [rounds_succ]
    go_wp2
    refine bodyPost_ret (v := .slice a3 n c3) (by simp [results, Try.results100]) rfl ?_
    exact ⟨a3, c3, rfl, hO0.out, Below.refl _ _⟩
  obtain ⟨b, off, rfl, hbw, hcell'⟩ := h1.at (by omega)
  have Hc' := hide hcell'
  clear h1 hcell'
  have hb0 := Below.refl w.heap.size w
  go_enter Try.func100, Try.ntmps100
  go_wp2
  go_loopw [3, 15] (fun sv iv wr => ∃ (i : Nat) (a' : Option Addr) (c' : Nat), i ≤ n1 ∧ iv = .int .i64 i ∧ sv = .slice a' n c' ∧ Hid (Own B wr a' c' (funF p f R ys i)) ∧ Below w.heap.size w wr) (fun _ iv _ => n1 - (intOf iv).toNat)
  case atStart => exact ⟨0, a3, c3, by omega, rfl, rfl, hO0, hb0⟩
  case round =>
    obtain ⟨i, a', c', hi, rfl, rfl, hO, hb⟩ := hrel
    clear hO0 hb0
    by_cases hlt : i < n1
    · have e1 := cell_be hb (Hc'.out i hlt)
      have e2 := cell_be hb (Hcell.out i hlt)
      have e3 := (Hrow.out i hlt).below hb
      have r1 := getD_rng Hf.out hp i
      have hst : Hid (funF p f R ys (i + 1) = addlM p (f.getD i 0) (funF p f R ys i) (R i)) := hide rfl
      have hl3 := hide (show (funF p f R ys i).length = n by rw [funF_len, Hyl.out])
      have ar := hide (funF_are hp f R ys Hy.out i)
      have ar2 := hide (HR.out i hlt)
      obtain ⟨x, hx⟩ : ∃ x, f.getD i 0 = x := ⟨_, rfl⟩
      obtain ⟨zs, hzs⟩ : ∃ zs, funF p f R ys i = zs := ⟨_, rfl⟩
      obtain ⟨rs, hrs⟩ : ∃ rs, R i = rs := ⟨_, rfl⟩
      obtain ⟨Ai, hAi⟩ : ∃ Ai, A i = Ai := ⟨_, rfl⟩
      obtain ⟨Ci, hCi⟩ : ∃ Ci, C i = Ci := ⟨_, rfl⟩
      rw [hAi, hCi] at e2 e3
      rw [hrs] at e3 hst ar2
      rw [hx] at e1 hst r1
      rw [hzs] at hst hl3 ar hO
      clear hx hzs hrs hAi hCi
      have s1 := Own.sl hO.out
      rw [hl3.out] at s1
      have S1 := s1
      have hlt' : (i : Int) < (n1 : Int) := by omega
      have hlt2 : (i : Int) < (cnt : Int) := by omega
      go_wp2_with fail
      refine (addList_any p x _ _ _ zs _ _ _ rs _ S1 e3 b2 (Nat.le_refl _) hp hp2 r1.1 r1.2 ar.out ar2.out).mono ?_
      rintro e w' ⟨a2, rfl, ho2, hb2⟩
      have hB2 : B ≤ wr.heap.size := Nat.le_trans hB hb.size
      have hbn := hb.trans (hb2.mono hb.size)
      have hoN : Hid (Own B w' a2 n (funF p f R ys (i + 1))) := hide (by rw [hst.out]; exact ho2.mono hB2)
      go_wp2
      go_roundw
      case rel => exact ⟨i + 1, a2, n, by omega, by go_num, rfl, hoN, hbn⟩
      case measure => simp [intOf]; omega
    · obtain rfl : i = n1 := by omega
      have hlt' : ¬ (i : Int) < (i : Int) := by omega
      go_wp2
      refine bodyPost_ret (v := .slice a' n c') (by simp [results, Try.results100]) rfl ?_
      exact ⟨a', c', rfl, hO.out, hb⟩
end Go.Proofs.Ytllcgoachgfpjaa
/- Contracts: ProductMoments (program and model). -/
namespace Go.Proofs.Ytllcgoachgfpjaa
open Go.RowKit
set_option linter.unusedVariables false
set_option linter.unusedSimpArgs false

def prmV (p : Int) (xs f : List Int) : List Int := if fnC p xs f = 0 then prodM p f xs (xs.length + 1 - max f.length 1) else []
def prmP (p : Int) (xs f : List Int) : Int := if fnC p xs f = 0 then p else 0
def prmC (p : Int) (xs f : List Int) : Int := fnC p xs f
theorem funF_dot (p : Int) (f xs : List Int) (n : Nat) : ∀ i, (i = 0 ∨ i + n ≤ xs.length + 1) → funF p f (fun i => (xs.drop i).take n) (tab n (fun _ => 0)) i = tab n (fun j => dotK p f xs j i) := by
  intro i
  induction i with
  | zero => intro _; rfl
  | succ i ih =>
    intro h
    rw [funF, ih (by omega), addlM_dot p f xs n i (by omega)]
theorem own_lit0'' (w : World) (q : Nat) (hq : q = w.heap.size) (B : Nat) (hB : B ≤ q) : Own B (w.alloc (.cells #[] 2)) (some ⟨q, 0, none⟩) 0 [] := by
  subst hq
  have h : Own w.heap.size (w.alloc (.cells #[] 2)) (some ⟨w.heap.size, 0, none⟩) 0 [] := World.ownsRow_lit w (base := w.heap.size) (e := 2) (size := 1) #[] 0 (Nat.le_refl _) (by decide) rfl
  exact h.mono hB
theorem mk_own (W : World) (n : Nat) (hn : n ≤ 1000) : Own W.heap.size (W.alloc (.cells (zrow n) 2)) (some ⟨W.heap.size, 0, none⟩) n (tab n (fun _ => 0)) := by
  have h := (zrow_row W n).own' (Nat.le_refl _) (by rw [tab_len]; unfold maxLen; omega)
  rwa [tab_len] at h
theorem mk_ownD (W v : World) (n : Nat) (hn : n ≤ 1000) (h : Below (W.alloc (.cells (zrow n) 2)).drew.heap.size (W.alloc (.cells (zrow n) 2)).drew v) : Own W.heap.size v (some ⟨W.heap.size, 0, none⟩) n (tab n (fun _ => 0)) :=
  ((mk_own W n hn).below ((Below.refl _ _).drew)).below h
theorem areB_win {p : Int} {xs : List Int} (h : areB p xs = true) (hp : 2 ≤ p) (i n : Nat) : areB p ((xs.drop i).take n) = true := areB_mk fun j hj => by
  have e : ((xs.drop i).take n).getD j 0 = xs.getD (i + j) 0 := by
    simp at hj
    have hij : i + j < xs.length := by omega
    simp [List.getElem?_take, hj, hij]
  rw [e]
  exact getD_rng h hp _
set_option maxRecDepth 100000 in
set_option maxHeartbeats 3200000 in
theorem l02Product_any (p : Int) (bb oo n2 c2 : Nat) (xs : List Int) (a1 : Option Addr) (n1 c1 : Nat) (f : List Int) (n : Nat) (w : World) (h2 : SL w (some ⟨bb, oo, none⟩) n2 c2 xs) (h1 : SL w a1 n1 c1 f)
    (b2 : n2 ≤ 1000) (b1 : n1 ≤ 1000) (hn : n + max n1 1 = n2 + 1) (hn1 : 1 ≤ n) (hp : 2 ≤ p) (hp2 : p ≤ 10007) (hf : areB p f = true) (hx : areB p xs = true) :
    Calls Try.prog 59 #[mom p (some ⟨bb, oo, none⟩) n2 c2, .slice a1 n1 c1] w fun e w' => ∃ a' c', e = .returned (mom p a' n c') ∧ Own w.heap.size w' a' c' (prodM p f xs n) ∧ Below w.heap.size w w' := by
  have hl1 := hide h1.len
  have hl2 := hide h2.len
  have Hf := hide hf
  have Hx := hide hx
  have Hn := hide hn
  clear hf hx hn
  have hb0 := bl4 w (.cells #[.int .i64 p, .slice (some ⟨bb, oo, none⟩) n2 c2] 26) (.cells #[.int .i64 0, .slice none 0 0] 26) (.cells #[] 2) (.cells #[.int .i64 p, .slice (some ⟨w.heap.size + 1 + 1, 0, none⟩) 0 0] 26)
  obtain ⟨w4, hw4⟩ : ∃ w4, w4 = ((((w.alloc (.cells #[.int .i64 p, .slice (some ⟨bb, oo, none⟩) n2 c2] 26)).alloc (.cells #[.int .i64 0, .slice none 0 0] 26)).alloc (.cells #[] 2)).alloc (.cells #[.int .i64 p, .slice (some ⟨w.heap.size + 1 + 1, 0, none⟩) 0 0] 26)) := ⟨_, rfl⟩
  have g2 := h2.below hb0
  have g1 := h1.below hb0
  rw [← hw4] at hb0 g1 g2
  have f0 : w4.cell? ⟨w.heap.size, 0, none⟩ = some (.int .i64 p) := by rw [hw4]; simp [go_sem]
  have f1 : w4.cell? ⟨w.heap.size, 1, none⟩ = some (.slice (some ⟨bb, oo, none⟩) n2 c2) := by rw [hw4]; simp [go_sem]
  have r0 : w4.cell? ⟨w.heap.size + 1, 0, none⟩ = some (.int .i64 0) := by rw [hw4]; simp [go_sem]
  have r1 : w4.cell? ⟨w.heap.size + 1, 1, none⟩ = some (.slice none 0 0) := by rw [hw4]; simp [go_sem]
  have y0 : w4.frozen? ⟨w.heap.size + 1, 0, none⟩ = false := by rw [hw4]; simp [go_sem]
  have y1 : w4.frozen? ⟨w.heap.size + 1, 1, none⟩ = false := by rw [hw4]; simp [go_sem]
  obtain ⟨q, hq⟩ : ∃ q, q = w.heap.size + 1 + 1 + 1 := ⟨_, rfl⟩
  have q0 : w4.cell? ⟨q, 0, none⟩ = some (.int .i64 p) := by rw [hw4, hq]; simp [go_sem]
  have q1 : w4.cell? ⟨q, 1, none⟩ = some (.slice (some ⟨w.heap.size + 1 + 1, 0, none⟩) 0 0) := by rw [hw4, hq]; simp [go_sem]
  have fq : w4.frozen? ⟨q, 1, none⟩ = false := by rw [hw4, hq]; simp [go_sem]
  have z4 : w4.heap.size = w.heap.size + 4 := by rw [hw4]; simp
  have oA0 : Hid (Own (w.heap.size + 2) w4 (some ⟨w.heap.size + 1 + 1, 0, none⟩) 0 (tab 0 (fun j => dotK p f xs j f.length))) := hide (by
    rw [hw4]
    have t := (own_lit0'' ((w.alloc (.cells #[.int .i64 p, .slice (some ⟨bb, oo, none⟩) n2 c2] 26)).alloc (.cells #[.int .i64 0, .slice none 0 0] 26)) (w.heap.size + 1 + 1) (by simp) (w.heap.size + 2) (by omega)).below (bl1 _ (.cells #[.int .i64 p, .slice (some ⟨w.heap.size + 1 + 1, 0, none⟩) 0 0] 26))
    exact t)
  have key : n1 < 1 ∨ 1 ≤ n1 := by omega
  obtain ⟨mx, hmx⟩ : ∃ mx : Nat, mx = max n1 1 := ⟨_, rfl⟩
  have Hmx := hide (show n + mx = n2 + 1 by have := Hn.out; omega)
  have Hmn := hide (show n1 ≤ mx by omega)
  have fmx : Hid ((n1 < 1 → mx = 1) ∧ (1 ≤ n1 → mx = n1)) := hide ⟨by omega, by omega⟩
  clear hmx
  have hqn : Hid (q = w.heap.size + 3) := hide (by omega)
  go_enter Try.func59, Try.ntmps59
  go_upto_region 2 with fail
  rw [← hw4, ← hq]
  clear hw4 hq
  go_wp2_with fail
  go_loopw [6] (fun iv wr => ∃ (k c' : Nat) (a' : Option Addr), k ≤ n ∧ iv = .int .i64 k ∧ Hid (Own (w.heap.size + 2) wr a' c' (tab k (fun j => dotK p f xs j f.length))) ∧ Hid (blk a' ≠ some q) ∧ Hid (wr.cell? ⟨q, 0, none⟩ = some (.int .i64 p) ∧ wr.cell? ⟨q, 1, none⟩ = some (.slice a' k c')) ∧ Hid (wr.frozen? ⟨q, 1, none⟩ = false) ∧ Hid (Below (w.heap.size + 2) w4 wr)) (fun iv _ => n - (intOf iv).toNat)
  case atStart => exact ⟨0, 0, _, by omega, rfl, oA0, hide (by have := hqn.out; simp [blk]; omega), hide ⟨q0, q1⟩, hide fq, hide (Below.refl _ _)⟩
  case round =>
    obtain ⟨k, c', a', hk, rfl, oA, hne, hq', hf', hW⟩ := hrel
    clear oA0 q0 q1 fq
    obtain ⟨q0, q1⟩ := hq'.out
    have fq := hf'.out
    have zr := hW.out.size
    have z3 : w.heap.size + 2 < q := by have := hqn.out; omega
    have z3b : q < w4.heap.size := by have := hqn.out; omega
    have k0 := (hW.out.cell (p := ⟨w.heap.size, 0, none⟩) (by first | (simp; done) | (simp; omega))).trans f0
    have k1 := (hW.out.cell (p := ⟨w.heap.size, 1, none⟩) (by first | (simp; done) | (simp; omega))).trans f1
    have hBw : Below w.heap.size w wr := hb0.trans (hW.out.mono (by omega))
    have s2 := h2.below hBw
    have s1 := h1.below hBw
    have hk0 : (0 : Int) ≤ (k : Int) := by omega
    have v0 : IntKind.i64.wrap ((k : Int) + mx) = (k : Int) + mx := IntWalk.i64_in _ (by have := Hmx.out; omega)
    by_cases hlt : k < n
    · have hst : Hid (tab (k + 1) (fun j => dotK p f xs j f.length) = tab k (fun j => dotK p f xs j f.length) ++ [dotK p f xs k f.length]) := hide (tab_snoc k (fun j => dotK p f xs j f.length)).symm
      have hbd := (Below.refl wr.heap.size wr).drew
      have hcon := fun W (hb : Below wr.heap.size wr W) => l02Apply_any p _ _ _ xs _ _ _ f k (k : Int) W (s2.below hb) (s1.below hb) b1 b2 rfl (by have := Hmx.out; have := Hmn.out; omega) hp hp2 Hf.out Hx.out
      have Hcon := hide hcon
      have rK := dotK_rng hp f xs k f.length
      obtain ⟨X, hX⟩ : ∃ X, dotK p f xs k f.length = X := ⟨_, rfl⟩
      rw [hX] at Hcon hst rK
      obtain ⟨zs, hzs⟩ : ∃ zs, tab k (fun j => dotK p f xs j f.length) = zs := ⟨_, rfl⟩
      have hzl := hide (show zs.length = k by rw [← hzs, tab_len])
      rw [hzs] at oA hst
      clear hX hzs hcon
      have vk : IntKind.i64.wrap ((k : Int) + 1) = (k : Int) + 1 := IntWalk.i64_in _ (by have := Hmx.out; omega)
      have q2 : (k : Int) + mx ≤ (n2 : Int) := by have := Hmx.out; omega
      rcases key with hk1 | hk1
      all_goals
        first
          | (have q3 : (n1 : Int) < 1 := by omega
             have e5 : (k : Int) + 1 ≤ (n2 : Int) := by have := fmx.out.1 hk1; omega)
          | (have q3 : ¬ (n1 : Int) < 1 := by omega
             have e5 : (k : Int) + (n1 : Int) ≤ (n2 : Int) := by have := fmx.out.2 hk1; omega
             have v5 : IntKind.i64.wrap ((k : Int) + (n1 : Int)) = (k : Int) + n1 := IntWalk.i64_in _ (by omega))
        go_upto_region 5 with fail
        refine region_E (fun w' => w'.cell? ⟨q, 1, none⟩ = some (.slice a' k c') ∧ w'.cell? ⟨w.heap.size, 0, none⟩ = some (.int .i64 p) ∧ w'.cell? ⟨w.heap.size, 1, none⟩ = some (.slice (some ⟨bb, oo, none⟩) n2 c2)) 9 (by kernel_rfl) ⟨cell_be hbd q1, cell_be hbd k0, cell_be hbd k1⟩ ?_
        intro hS
        refine anyE_takeL 0 rfl (by kernel_rfl) (fun _ _ _ h => h) hS (by rfl) (v := ?_) ?_ ?_
        rotate_left
        · intro w' hSw; (try dsimp only at hSw); go_simp; (try with_reducible rfl)
        try simp only [Act.put, List.setIfInBounds_toArray, List.set_cons_zero, List.set_cons_succ]
        refine anyE_takeL 1 rfl (by kernel_rfl) (fun _ _ _ h => h) hS (by rfl) (v := ?_) ?_ ?_
        rotate_left
        · intro w' hSw; (try dsimp only at hSw); go_simp; (try with_reducible rfl)
        try simp only [Act.put, List.setIfInBounds_toArray, List.set_cons_zero, List.set_cons_succ]
        refine anyE_takeL 2 rfl (by kernel_rfl) (fun _ _ _ h => h) hS (by rfl) (v := ?_) ?_ ?_
        rotate_left
        · intro w' hSw; (try dsimp only at hSw); go_simp; (try with_reducible rfl)
        try simp only [Act.put, List.setIfInBounds_toArray, List.set_cons_zero, List.set_cons_succ]
        refine anyE_takeL 3 rfl (by kernel_rfl) (fun _ _ _ h => h) hS (by rfl) (v := ?_) ?_ ?_
        rotate_left
        · intro w' hSw; (try dsimp only at hSw); go_simp; (try with_reducible rfl)
        try simp only [Act.put, List.setIfInBounds_toArray, List.set_cons_zero, List.set_cons_succ]
        refine anyE_takeL 4 rfl (by kernel_rfl) (fun _ _ _ h => h) hS (by rfl) (v := ?_) ?_ ?_
        rotate_left
        · intro w' hSw; (try dsimp only at hSw); go_simp; (try with_reducible rfl)
        try simp only [Act.put, List.setIfInBounds_toArray, List.set_cons_zero, List.set_cons_succ]
        clear hS
        refine anyE_oneL 5 (by kernel_rfl) rfl (fun K' hK' => ?_)
        go_simp
        refine (Hcon.out _ hbd).mono ?_
        rintro e w5 ⟨rfl, hb5⟩
        dsimp only
        have B5 := hbd.trans (hb5.mono hbd.size)
        refine hK'.out _ _ ⟨cell_be B5 q1, cell_be B5 k0, cell_be B5 k1⟩ ?_
        clear hK' K'
        try simp only [Act.put, List.setIfInBounds_toArray, List.set_cons_zero, List.set_cons_succ]
        have hba : Below w5.heap.size w5 (w5.alloc (.cells #[.int .i64 X] 2)) := bl1 _ _
        have Bba : Below wr.heap.size wr (w5.alloc (.cells #[.int .i64 X] 2)) := B5.trans (hba.mono B5.size)
        have s1a : (w5.alloc (.cells #[.int .i64 X] 2)).cell? ⟨q, 1, none⟩ = some (.slice a' k c') := cell_be Bba q1
        have sfa : (w5.alloc (.cells #[.int .i64 X] 2)).frozen? ⟨q, 1, none⟩ = false := (Bba.frozen (World.block_lt_of_cell? _ _ q1)).trans fq
        have hOa := hide (oA.out.below Bba)
        have hcl : (w5.alloc (.cells #[.int .i64 X] 2)).cell? ⟨w5.heap.size, 0, none⟩ = some (.int .i64 X) := by simp [go_sem]
        have z5 := B5.size
        refine anyE_oneL 6 (by kernel_rfl) rfl (fun K' hK' => ?_)
        go_simp
        have S1 := And.intro s1a (And.intro (cell_be Bba k0) (cell_be Bba k1))
        refine hK'.out _ _ S1 ?_
        clear hK' K'
        try simp only [Act.put, List.setIfInBounds_toArray, List.set_cons_zero, List.set_cons_succ]
        refine anyE_oneL 7 (by kernel_rfl) rfl (fun K' hK' => ?_)
        refine step_app1 (by rfl) _ _ (by rfl) (w.heap.size + 2) _ _ _ zs (by rfl) hzl.out.symm hOa.out _ _ X (by rfl) hcl (by omega) (by simp; omega) ?_
        intro ad' cap' w' hown' hgr hloc
        have s1' := cell_ne hgr s1a hne.out
        have sf' := frz_ne hgr s1a sfa hne.out
        have hge := own_blk_ge hOa.out
        have S2 := And.intro s1' (And.intro (cell_ne hgr S1.2.1 (fun e => by have := hge _ e; omega)) (cell_ne hgr S1.2.2 (fun e => by have := hge _ e; omega)))
        refine hK'.out _ _ S2 ?_
        clear hK' K'
        try simp only [Act.put, List.setIfInBounds_toArray, List.set_cons_zero, List.set_cons_succ]
        refine anyE_takeL 8 rfl (by kernel_rfl) (fun _ _ _ h => h) S2 (by rfl) (v := ?_) ?_ ?_
        rotate_left
        · intro w' hSw; (try dsimp only at hSw); go_simp; (try with_reducible rfl)
        try simp only [Act.put, List.setIfInBounds_toArray, List.set_cons_zero, List.set_cons_succ]
        clear S1 S2 hge
        refine anyE_lastL (by kernel_rfl) rfl (by kernel_rfl) (fun K' hK' => ?_)
        go_simp
        refine hK'.out _ _ ?_
        clear hK' K'
        try simp only [Act.put, List.setIfInBounds_toArray, List.set_cons_zero, List.set_cons_succ]
        obtain ⟨w6, hw6⟩ : ∃ w6, w6 = w'.setCell ⟨q, 1, none⟩ (.slice ad' (zs.length + 1) cap') := ⟨_, rfl⟩
        rw [← hw6]
        have hnew : Hid (blk ad' ≠ some q) := hide (by
          rcases hloc with h | h <;> rw [h]
          · exact hne.out
          · simp; omega)
        have oN : Hid (Own (w.heap.size + 2) w6 ad' cap' (tab (k + 1) (fun j => dotK p f xs j f.length))) := hide (by rw [hw6, hst.out]; exact hown'.otherG hnew.out _)
        have p0 : w6.cell? ⟨q, 0, none⟩ = some (.int .i64 p) := by rw [hw6]; exact cell_set2' (cell_ne hgr (cell_be Bba q0) hne.out) (by simp) _
        have p1 : w6.cell? ⟨q, 1, none⟩ = some (.slice ad' (k + 1) cap') := by rw [hw6, show k + 1 = zs.length + 1 by rw [hzl.out]]; exact World.cell?_setCell_same _ _ _ s1'
        have yy1 : w6.frozen? ⟨q, 1, none⟩ = false := by rw [hw6]; simpa using sf'
        have hW6 : Hid (Below (w.heap.size + 2) w4 w6) := hide (by rw [hw6]; exact ((hW.out.trans (Bba.mono (by omega))).grown hgr (by simp; omega) (own_blk_ge hOa.out)).setCell (by simp; omega) _)
        have hn6 := hnew
        clear hw6 hgr hown' hloc hOa hba hcl s1a sfa s1' sf' hnew oA q0 q1 fq hq' hf' hne hb5 B5 Bba k0 k1 hW Hcon hbd
        go_wp2
        go_roundw
        case rel => exact ⟨k + 1, cap', ad', by omega, by go_num, oN, hn6, hide ⟨p0, p1⟩, hide yy1, hW6⟩
        case measure => simp [intOf]; omega
    · obtain rfl : k = n := by omega
      have r0' := (hW.out.cell (p := ⟨w.heap.size + 1, 0, none⟩) (by first | (simp; done) | (simp; omega))).trans r0
      have r1' := (hW.out.cell (p := ⟨w.heap.size + 1, 1, none⟩) (by first | (simp; done) | (simp; omega))).trans r1
      have y0' := (hW.out.frozen (p := ⟨w.heap.size + 1, 0, none⟩) (by first | (simp; done) | (simp; omega))).trans y0
      have y1' := (hW.out.frozen (p := ⟨w.heap.size + 1, 1, none⟩) (by first | (simp; done) | (simp; omega))).trans y1
      clear r0 r1 y0 y1
      have q2 : ¬ (k : Int) + mx ≤ (n2 : Int) := by have := Hmx.out; omega
      have q2b : (k : Int) ≤ 1001 := by have := Hmx.out; omega
      rcases key with hk1 | hk1
      all_goals
        first
          | (have q3 : (n1 : Int) < 1 := by omega
             have e5 : ¬ (k : Int) + 1 ≤ (n2 : Int) := by have := fmx.out.1 hk1; omega)
          | (have q3 : ¬ (n1 : Int) < 1 := by omega
             have e5 : ¬ (k : Int) + (n1 : Int) ≤ (n2 : Int) := by have := fmx.out.2 hk1; omega
             have v5 : IntKind.i64.wrap ((k : Int) + (n1 : Int)) = (k : Int) + n1 := IntWalk.i64_in _ (by have := Hmx.out; omega))
        have v6 : IntKind.i64.wrap ((k : Int) + 1) = (k : Int) + 1 := IntWalk.i64_in _ (by have := Hmx.out; omega)
        go_wp2
        refine bodyPost_ret (v := mom p a' k c') (by simp [results, Try.results59, go_sem, r0', r1']) rfl ?_
        exact ⟨a', c', rfl, ((oA.out.setLow (by simp) _).setLow (by simp) _).mono (by omega), (hBw.setCell (by simp) _).setCell (by simp) _⟩
set_option maxRecDepth 100000 in
set_option maxHeartbeats 3200000 in
theorem implProductMoments (p : Int) (a2 : Option Addr) (n2 c2 : Nat) (xs : List Int) (a1 : Option Addr) (n1 c1 : Nat) (f : List Int) (w : World) (h2 : SL w a2 n2 c2 xs) (h1 : SL w a1 n1 c1 f) (b2 : n2 ≤ 4000000) (b1 : n1 ≤ 4000000) :
    Calls Try.prog 62 #[mom p a2 n2 c2, .slice a1 n1 c1] w (ResM w (prmP p xs f) (prmV p xs f) (prmC p xs f)) := by
  have hl1 := hide h1.len
  have hl2 := hide h2.len
  have hb0 := bl2 w (.cells #[.int .i64 p, .slice a2 n2 c2] 26) (.cells #[.int .i64 0, .slice none 0 0] 26)
  have g2 := h2.below hb0
  have g1 := h1.below hb0
  have hz0 : w.heap.size + 1 < ((w.alloc (.cells #[.int .i64 p, .slice a2 n2 c2] 26)).alloc (.cells #[.int .i64 0, .slice none 0 0] 26)).heap.size := by simp
  rcases fnC_cases p xs f with hC | hC | ⟨hC, hm, hf, hle⟩
  · have HC := hide hC
    have HV := hide (show prmV p xs f = [] by simp [prmV, hC])
    have HQ := hide (show prmP p xs f = 0 by simp [prmP, hC])
    clear hC
    go_enter Try.func62, Try.ntmps62
    go_wp2_with fail
    refine (checkFunctional_any _ _ _ _ _ _ _ _ f _ g2 g1 b2 b1).mono ?_
    rintro e w2 ⟨rfl, hm2⟩
    rw [HC.out]
    have hB2 := bnext hb0 hm2
    have z2 := hm2.size
    simp at z2
    have f0 : w2.cell? ⟨w.heap.size, 0, none⟩ = some (.int .i64 p) := cell_be hm2 (by simp [go_sem])
    have f1 : w2.cell? ⟨w.heap.size, 1, none⟩ = some (.slice a2 n2 c2) := cell_be hm2 (by simp [go_sem])
    have r0 : w2.cell? ⟨w.heap.size + 1, 0, none⟩ = some (.int .i64 0) := cell_be hm2 (by simp [go_sem])
    have r1 : w2.cell? ⟨w.heap.size + 1, 1, none⟩ = some (.slice none 0 0) := cell_be hm2 (by simp [go_sem])
    have y0 : w2.frozen? ⟨w.heap.size + 1, 0, none⟩ = false := (hm2.frozen (by simp)).trans (by simp [go_sem])
    have y1 : w2.frozen? ⟨w.heap.size + 1, 1, none⟩ = false := (hm2.frozen (by simp)).trans (by simp [go_sem])
    go_wp2
    refine bodyPost_ret (v := .tuple #[mom 0 none 0 0, .int .i64 1]) (by simp [results, Try.results62, go_sem, r0, r1]) rfl ?_
    exact ResM.nil HQ.out HV.out HC.out ((hB2.setCell (by simp) _).setCell (by simp) _)
  · have HC := hide hC
    have HV := hide (show prmV p xs f = [] by simp [prmV, hC])
    have HQ := hide (show prmP p xs f = 0 by simp [prmP, hC])
    clear hC
    go_enter Try.func62, Try.ntmps62
    go_wp2_with fail
    refine (checkFunctional_any _ _ _ _ _ _ _ _ f _ g2 g1 b2 b1).mono ?_
    rintro e w2 ⟨rfl, hm2⟩
    rw [HC.out]
    have hB2 := bnext hb0 hm2
    have z2 := hm2.size
    simp at z2
    have f0 : w2.cell? ⟨w.heap.size, 0, none⟩ = some (.int .i64 p) := cell_be hm2 (by simp [go_sem])
    have f1 : w2.cell? ⟨w.heap.size, 1, none⟩ = some (.slice a2 n2 c2) := cell_be hm2 (by simp [go_sem])
    have r0 : w2.cell? ⟨w.heap.size + 1, 0, none⟩ = some (.int .i64 0) := cell_be hm2 (by simp [go_sem])
    have r1 : w2.cell? ⟨w.heap.size + 1, 1, none⟩ = some (.slice none 0 0) := cell_be hm2 (by simp [go_sem])
    have y0 : w2.frozen? ⟨w.heap.size + 1, 0, none⟩ = false := (hm2.frozen (by simp)).trans (by simp [go_sem])
    have y1 : w2.frozen? ⟨w.heap.size + 1, 1, none⟩ = false := (hm2.frozen (by simp)).trans (by simp [go_sem])
    go_wp2
    refine bodyPost_ret (v := .tuple #[mom 0 none 0 0, .int .i64 2]) (by simp [results, Try.results62, go_sem, r0, r1]) rfl ?_
    exact ResM.nil HQ.out HV.out HC.out ((hB2.setCell (by simp) _).setCell (by simp) _)
  · have HC := hide hC
    have HQ := hide (show prmP p xs f = p by simp [prmP, hC])
    obtain ⟨hpr, q1, q2, hx⟩ := momB_rng hm
    obtain ⟨hp, hp2⟩ := primeB_lo hpr
    have Hf := hide (polyB_rng hf).2.1
    have Hx := hide hx
    have hfl := (polyB_rng hf).1
    rw [hl1.out] at hfl hle
    rw [hl2.out] at q1 q2 hle
    obtain ⟨n, hn⟩ : ∃ n, n = n2 + 1 - max n1 1 := ⟨_, rfl⟩
    have HV := hide (show prmV p xs f = prodM p f xs n by simp [prmV, hC, hl1.out, hl2.out, hn])
    have hnn : n + max n1 1 = n2 + 1 := by omega
    have hn1 : 1 ≤ n := by omega
    have hn24 : n ≤ 24 := by omega
    have Hn := hide hnn
    clear hC hm hf hpr hx hn hnn
    obtain ⟨bb, oo, rfl, hw1, hc1⟩ := h2.at (by omega)
    clear hc1
    have key : n1 = 0 ∨ 1 ≤ n1 := by omega
    have Hk := hide key
    clear key
    go_enter Try.func62, Try.ntmps62
    go_wp2_with fail
    refine (checkFunctional_any _ _ _ _ _ _ _ _ f _ g2 g1 b2 b1).mono ?_
    rintro e w2 ⟨rfl, hm2⟩
    rw [HC.out]
    have hB2 := bnext hb0 hm2
    have z2 := hm2.size
    simp at z2
    have f0 : w2.cell? ⟨w.heap.size, 0, none⟩ = some (.int .i64 p) := cell_be hm2 (by simp [go_sem])
    have f1 : w2.cell? ⟨w.heap.size, 1, none⟩ = some (.slice (some ⟨bb, oo, none⟩) n2 c2) := cell_be hm2 (by simp [go_sem])
    have r0 : w2.cell? ⟨w.heap.size + 1, 0, none⟩ = some (.int .i64 0) := cell_be hm2 (by simp [go_sem])
    have r1 : w2.cell? ⟨w.heap.size + 1, 1, none⟩ = some (.slice none 0 0) := cell_be hm2 (by simp [go_sem])
    have y0 : w2.frozen? ⟨w.heap.size + 1, 0, none⟩ = false := (hm2.frozen (by simp)).trans (by simp [go_sem])
    have y1 : w2.frozen? ⟨w.heap.size + 1, 1, none⟩ = false := (hm2.frozen (by simp)).trans (by simp [go_sem])
    have F2 : ∀ w', Below w2.heap.size w2 w' → Below w2.heap.size w2 w' ∧ w'.cell? ⟨w.heap.size, 0, none⟩ = some (.int .i64 p) ∧ w'.cell? ⟨w.heap.size, 1, none⟩ = some (.slice (some ⟨bb, oo, none⟩) n2 c2) := fun w' h => ⟨h, cell_be h f0, cell_be h f1⟩
    have GK : ∀ w', (Below w2.heap.size w2 w' ∧ w'.cell? ⟨w.heap.size, 0, none⟩ = some (.int .i64 p) ∧ w'.cell? ⟨w.heap.size, 1, none⟩ = some (.slice (some ⟨bb, oo, none⟩) n2 c2)) → Below w2.heap.size w2 w' := fun w' h => h.1
    have hmk := run_mk n (by omega)
    have v1 : IntKind.i64.wrap ((n1 : Int) - 1) = (n1 : Int) - 1 := IntWalk.i64_in _ (by omega)
    have v2 : IntKind.i64.wrap ((n2 : Int) - ((n1 : Int) - 1)) = (n2 : Int) - ((n1 : Int) - 1) := IntWalk.i64_in _ (by omega)
    have v3 : IntKind.i64.wrap ((n2 : Int) - 0) = (n2 : Int) := by rw [Int.sub_zero]; exact IntWalk.i64_in _ (by omega)
    have v4 : IntKind.i64.wrap (n2 : Int) = (n2 : Int) := IntWalk.i64_in _ (by omega)
    rcases Hk.out with hk | hk
    · subst hk
      have e7 : (n2 : Int) = (n : Int) := by have := Hn.out; omega
      go_upto_region 5 with fail
      go_cut [8] (fun sq wx => ∃ (a' : Option Addr) (c' : Nat), sq = .slice a' n c' ∧ Hid (Own w2.heap.size wx a' c' (prodM p f xs n)) ∧ Hid (Below w2.heap.size w2 wx))
      case first =>
        go_region_held3 (fun w' => Below w2.heap.size w2 w' ∧ w'.cell? ⟨w.heap.size, 0, none⟩ = some (.int .i64 p) ∧ w'.cell? ⟨w.heap.size, 1, none⟩ = some (.slice (some ⟨bb, oo, none⟩) n2 c2))
          (first | exact F2 _ (by assumption) | exact F2 _ ((bl1 _ _).drew) | exact F2 _ ((Below.refl _ _).drew) | exact F2 _ (Below.alloc (by assumption) (Below.size (by assumption)) _))
          (first
          | (go_at_call 101; go_fit (windows_any bb oo n2 c2 n xs _ (g2.below (bnext hm2 (GK _ (by assumption)))) hn1 (by have := Hn.out; omega) (by omega)); rintro e v1 ⟨g, cap, rfl, hcw, tw⟩; have hm1 := bnext (GK _ (by assumption)) tw; have zz1 := Below.size hm1; first | (with_reducible have own0 := mk_ownD _ _ n (by omega) tw) | skip)
          | (go_at_call 100; go_fit (functional_lists p _ _ c1 f g _ cap (fun i => some ⟨bb, oo + i, none⟩) (fun _ => n) (fun i => (xs.drop i).take n) _ n n (tab n (fun _ => 0)) w2.heap.size (v1.alloc (.cells (zrow n) 2))
              (g1.below (bnext hm2 (bnext hm1 (bl1 v1 (.cells (zrow n) 2))))) (fun i hi => cell_be (bl1 _ _) (hcw i (by have := Hn.out; omega))) (fun i hi => SL.win (g2.below (bnext hm2 (bnext hm1 (bl1 v1 (.cells (zrow n) 2))))) (by have := Hn.out; omega)) (by have := Hn.out; omega)
              ((mk_own v1 n (by omega)).mono zz1) (Below.size (bnext hm1 (bl1 v1 (.cells (zrow n) 2)))) (tab_len _ _) (by omega) (by omega) hp hp2 Hf.out (fun i hi => areB_win Hx.out hp i n) (tab_are (fun j hj => ⟨Int.le_refl _, (show (0 : Int) < p by omega)⟩))); rintro e v2 ⟨a', c', rfl, oF, tF⟩; have hm3 := bnext (bnext hm1 (bl1 v1 (.cells (zrow n) 2))) tF)
          | (go_at_call 100; go_fit (functional_lists p _ _ c1 f g _ cap (fun i => some ⟨bb, oo + i, none⟩) (fun _ => n) (fun i => (xs.drop i).take n) _ n n (tab n (fun _ => 0)) w2.heap.size v1
              (g1.below (bnext hm2 hm1)) (fun i hi => hcw i (by have := Hn.out; omega)) (fun i hi => SL.win (g2.below (bnext hm2 hm1)) (by have := Hn.out; omega)) (by have := Hn.out; omega)
              own0 (Below.size hm1) (tab_len _ _) (by omega) (by omega) hp hp2 Hf.out (fun i hi => areB_win Hx.out hp i n) (tab_are (fun j hj => ⟨Int.le_refl _, (show (0 : Int) < p by omega)⟩))); rintro e v2 ⟨a', c', rfl, oF, tF⟩; have hm3 := bnext hm1 tF))
        all_goals go_wp2_with fail
        all_goals go_meet
        all_goals exact ⟨a', c', rfl, hide (by
          have t := oF
          rw [funF_dot p f xs n _ (by have := hl2.out; have := Hn.out; omega)] at t
          unfold prodM
          rw [hl1.out]
          exact t), hide hm3⟩
      case rest =>
        obtain ⟨a', c', rfl, oF, hW⟩ := hcut
        obtain ⟨w5, hu⟩ : ∃ u, u = wc := ⟨wc, rfl⟩
        subst hu
        have k0 := cell_be hW.out f0
        have r0' := cell_be hW.out r0
        have r1' := cell_be hW.out r1
        have y0' := (hW.out.frozen (World.block_lt_of_cell? _ _ r0)).trans y0
        have y1' := (hW.out.frozen (World.block_lt_of_cell? _ _ r1)).trans y1
        clear r0 r1 y0 y1 F2 GK
        have z5 := hW.out.size
        go_wp2
        refine bodyPost_ret (v := .tuple #[mom p a' n c', .int .i64 0]) (by simp [results, Try.results62, go_sem, r0', r1']) rfl ?_
        exact ResM.own HQ.out HC.out (by rw [HV.out]; exact (tab_len _ _).symm) (by rw [HV.out]; exact ((oF.out.setLow (by simp; omega) _).setLow (by simp; omega) _).mono (by omega)) (by rw [HV.out]; unfold prodM; rw [tab_len]; omega) (((hB2.trans (hW.out.mono (by omega))).setCell (by simp) _).setCell (by simp) _)
    · have e7 : (n2 : Int) - ((n1 : Int) - 1) = (n : Int) := by have := Hn.out; omega
      go_upto_region 5 with fail
      go_cut [8] (fun sq wx => ∃ (a' : Option Addr) (c' : Nat), sq = .slice a' n c' ∧ Hid (Own w2.heap.size wx a' c' (prodM p f xs n)) ∧ Hid (Below w2.heap.size w2 wx))
      case first =>
        go_region_held3 (fun w' => Below w2.heap.size w2 w' ∧ w'.cell? ⟨w.heap.size, 0, none⟩ = some (.int .i64 p) ∧ w'.cell? ⟨w.heap.size, 1, none⟩ = some (.slice (some ⟨bb, oo, none⟩) n2 c2))
          (first | exact F2 _ (by assumption) | exact F2 _ ((bl1 _ _).drew) | exact F2 _ ((Below.refl _ _).drew) | exact F2 _ (Below.alloc (by assumption) (Below.size (by assumption)) _))
          (first
          | (go_at_call 101; go_fit (windows_any bb oo n2 c2 n xs _ (g2.below (bnext hm2 (GK _ (by assumption)))) hn1 (by have := Hn.out; omega) (by omega)); rintro e v1 ⟨g, cap, rfl, hcw, tw⟩; have hm1 := bnext (GK _ (by assumption)) tw; have zz1 := Below.size hm1; first | (with_reducible have own0 := mk_ownD _ _ n (by omega) tw) | skip)
          | (go_at_call 100; go_fit (functional_lists p _ _ c1 f g _ cap (fun i => some ⟨bb, oo + i, none⟩) (fun _ => n) (fun i => (xs.drop i).take n) _ n n (tab n (fun _ => 0)) w2.heap.size (v1.alloc (.cells (zrow n) 2))
              (g1.below (bnext hm2 (bnext hm1 (bl1 v1 (.cells (zrow n) 2))))) (fun i hi => cell_be (bl1 _ _) (hcw i (by have := Hn.out; omega))) (fun i hi => SL.win (g2.below (bnext hm2 (bnext hm1 (bl1 v1 (.cells (zrow n) 2))))) (by have := Hn.out; omega)) (by have := Hn.out; omega)
              ((mk_own v1 n (by omega)).mono zz1) (Below.size (bnext hm1 (bl1 v1 (.cells (zrow n) 2)))) (tab_len _ _) (by omega) (by omega) hp hp2 Hf.out (fun i hi => areB_win Hx.out hp i n) (tab_are (fun j hj => ⟨Int.le_refl _, (show (0 : Int) < p by omega)⟩))); rintro e v2 ⟨a', c', rfl, oF, tF⟩; have hm3 := bnext (bnext hm1 (bl1 v1 (.cells (zrow n) 2))) tF)
          | (go_at_call 100; go_fit (functional_lists p _ _ c1 f g _ cap (fun i => some ⟨bb, oo + i, none⟩) (fun _ => n) (fun i => (xs.drop i).take n) _ n n (tab n (fun _ => 0)) w2.heap.size v1
              (g1.below (bnext hm2 hm1)) (fun i hi => hcw i (by have := Hn.out; omega)) (fun i hi => SL.win (g2.below (bnext hm2 hm1)) (by have := Hn.out; omega)) (by have := Hn.out; omega)
              own0 (Below.size hm1) (tab_len _ _) (by omega) (by omega) hp hp2 Hf.out (fun i hi => areB_win Hx.out hp i n) (tab_are (fun j hj => ⟨Int.le_refl _, (show (0 : Int) < p by omega)⟩))); rintro e v2 ⟨a', c', rfl, oF, tF⟩; have hm3 := bnext hm1 tF))
        all_goals go_wp2_with fail
        all_goals go_meet
        all_goals exact ⟨a', c', rfl, hide (by
          have t := oF
          rw [funF_dot p f xs n _ (by have := hl2.out; have := Hn.out; omega)] at t
          unfold prodM
          rw [hl1.out]
          exact t), hide hm3⟩
      case rest =>
        obtain ⟨a', c', rfl, oF, hW⟩ := hcut
        obtain ⟨w5, hu⟩ : ∃ u, u = wc := ⟨wc, rfl⟩
        subst hu
        have k0 := cell_be hW.out f0
        have r0' := cell_be hW.out r0
        have r1' := cell_be hW.out r1
        have y0' := (hW.out.frozen (World.block_lt_of_cell? _ _ r0)).trans y0
        have y1' := (hW.out.frozen (World.block_lt_of_cell? _ _ r1)).trans y1
        clear r0 r1 y0 y1 F2 GK
        have z5 := hW.out.size
        go_wp2
        refine bodyPost_ret (v := .tuple #[mom p a' n c', .int .i64 0]) (by simp [results, Try.results62, go_sem, r0', r1']) rfl ?_
        exact ResM.own HQ.out HC.out (by rw [HV.out]; exact (tab_len _ _).symm) (by rw [HV.out]; exact ((oF.out.setLow (by simp; omega) _).setLow (by simp; omega) _).mono (by omega)) (by rw [HV.out]; unfold prodM; rw [tab_len]; omega) (((hB2.trans (hW.out.mono (by omega))).setCell (by simp) _).setCell (by simp) _)
end Go.Proofs.Ytllcgoachgfpjaa
