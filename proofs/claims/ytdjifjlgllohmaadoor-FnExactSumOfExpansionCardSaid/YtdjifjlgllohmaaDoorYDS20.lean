/- Merged texts. -/
import Derived.Test.YtdjifjlgllohmaaDoorYDS19
import Derived.Test.YtdjifjlgllohmaaDoorYDS14
import Derived.Test.YtdjifjlgllohmaaDoorYDS18
/- Contracts: windows (slices of one list) and functional over lists. -/
namespace Go.Proofs.YtdjifjlgllohmaaDoor
open Go.RowKit
set_option linter.unusedVariables false
set_option linter.unusedSimpArgs false

/-- An owned row of slices. -/
def OwnV (B : Nat) (w : World) (a : Option Addr) (cap : Nat) (ys : List Value) : Prop := w.ownsRow B 22 1 (.slice a ys.length cap) ys.length ys
theorem OwnV.nil (B : Nat) (w : World) : OwnV B w none 0 [] := World.ownsRow_nil _ _ _ _
theorem infoS : (Tryd.prog.info? 22).map (fun i => (i.zero, i.size, i.bytes)) = some (some (.slice none 0 0), 1, 24) := by kernel_rfl
set_option maxRecDepth 100000 in
/-- An append of one number onto an owned row of numbers: only that row and new blocks turn. -/
theorem op_appV {w : World} {o : Oper} {a : Act} {K : Act → World → Prop} {Q : Exit → Act → World → Prop}
    (s x : Operand) (ho : o.op = .call { callee := .builtin .append, args := #[s, x], argTypes := #[55, 55] })
    (B : Nat) (ad : Option Addr) (n cap : Nat) (ys : List Value) (hs : a.eval s = .slice ad n cap) (hn : n = ys.length) (hown : OwnV B w ad cap ys)
    (ax : Addr) (c : Nat) (z : Value) (hx : a.eval x = .slice (some ax) 1 c) (hz : w.cell? ax = some z) (hz1' : z.oneCell' = true) (hmax : n + 1 ≤ 4000000) (hB : B ≤ w.heap.size)
    (hK : ∀ ad' cap' w', OwnV B w' ad' cap' (ys ++ [z]) → w.grownBy w' (blk ad) → (blk ad' = blk ad ∨ blk ad' = some w.heap.size) → K (a.put o.dst (.slice ad' (ys ++ [z]).length cap')) w') :
    o.wp Tryd.prog a w K Q := by
  subst hn
  obtain ⟨i0, hi, hz0, hz1, hz2⟩ := info_parts infoS
  have hnews : ∀ j u, [z][j]? = some u → w.cell? (ax.add j) = some u := by
    intro j u hj
    cases j with
    | zero =>
      simp at hj
      subst hj
      have : ax.add 0 = ax := by cases ax; simp [Addr.add]
      rw [this]; exact hz
    | succ j => simp at hj
  have h1 : ∀ u ∈ [z], u.oneCell' = true := by
    intro u hu
    simp at hu
    subst hu
    exact hz1'
  obtain ⟨v', w1, hr, hown', hgrow, _, hloc⟩ := run_append_own_at (P := Tryd.prog) w B 55 o.type 22 i0 (.slice none 0 0) 1 24 Tryd.underlying55 hi hz0 hz1 hz2 rfl (by decide) _ _ _ hown ax 1 c [z] rfl hnews h1 (by unfold maxLen; omega) (by omega) hB
  have hb1 : ∀ (ad : Option Addr) (n c : Nat), (Value.slice ad n c).ownBlock = blk ad := fun ad n c => by cases ad <;> rfl
  rw [hb1] at hgrow hloc
  have hv : ∃ ad' cap', v' = .slice ad' (ys ++ [z]).length cap' := by
    rcases hown'.2 with ⟨h1, h2⟩ | ⟨g, c', cur, h1, h2⟩
    · exact ⟨none, 0, by rw [h1]; congr 1; simp; omega⟩
    · exact ⟨_, c', by rw [h1]; congr 1; simp⟩
  obtain ⟨ad', cap', rfl⟩ := hv
  rw [hb1] at hloc
  unfold Oper.wp execOp
  simp only [ho, resolve, invoke, builtin, Sem.run_bind, Sem.run_pure, Result.andThen_ok, List.map_toArray, List.map_cons, List.map_nil, hs, hx, hr]
  refine hK ad' cap' w1 ?_ hgrow hloc
  unfold OwnV
  have e : (ys ++ [z]).length = ys.length + 1 := by simp
  rw [e] at hown' ⊢
  exact hown'
theorem wp_appV {w : World} {ops : Array Oper} {rest : List Oper} {o : Oper} {a : Act} {Q : Exit → Act → World → Prop}
    (hgd : o.guard = none) (s x : Operand) (ho : o.op = .call { callee := .builtin .append, args := #[s, x], argTypes := #[55, 55] })
    (B : Nat) (ad : Option Addr) (n cap : Nat) (ys : List Value) (hs : a.eval s = .slice ad n cap) (hn : n = ys.length) (hown : OwnV B w ad cap ys)
    (ax : Addr) (c : Nat) (z : Value) (hx : a.eval x = .slice (some ax) 1 c) (hz : w.cell? ax = some z) (hz1' : z.oneCell' = true) (hmax : n + 1 ≤ 4000000) (hB : B ≤ w.heap.size)
    (hK : ∀ ad' cap' w', OwnV B w' ad' cap' (ys ++ [z]) → w.grownBy w' (blk ad) → (blk ad' = blk ad ∨ blk ad' = some w.heap.size) → wpList Tryd.prog ops Q rest (a.put o.dst (.slice ad' (ys ++ [z]).length cap')) w') :
    wpList Tryd.prog ops Q (o :: rest) a w :=
  wpList_plain hgd fun K hK' => op_appV s x ho B ad n cap ys hs hn hown ax c z hx hz hz1' hmax hB fun ad' cap' w' h1 h2 h3 => hK' _ _ (hK ad' cap' w' h1 h2 h3)
theorem OwnV.below {B : Nat} {w w' : World} {a : Option Addr} {cap : Nat} {ys : List Value} (h : OwnV B w a cap ys) (hb : Below w.heap.size w w') : OwnV B w' a cap ys := by
  refine ⟨h.1, ?_⟩
  rcases h.2 with h' | ⟨g, c, cur, h1, h2, h3, h4⟩
  · exact .inl h'
  · exact .inr ⟨g, c, cur, h1, h2, (hb.block g (lt_of_block h3)).trans h3, h4⟩
theorem OwnV.blkG {B : Nat} {w : World} {a : Option Addr} {c : Nat} {ys : List Value} (h : OwnV B w a c ys) : ∀ g, blk a = some g → B ≤ g := fun g hg => by
  rcases h.2 with ⟨h1, _⟩ | ⟨g', c', cur, h1, h2, _⟩
  · simp only [Value.slice.injEq] at h1
    rw [h1.1] at hg; cases hg
  · simp only [Value.slice.injEq] at h1
    rw [h1.1] at hg; cases hg; exact h2
theorem OwnV.at {B : Nat} {w : World} {a : Option Addr} {c : Nat} {ys : List Value} (h : OwnV B w a c ys) (h0 : ys.length ≠ 0) : ∃ g, a = some ⟨g, 0, none⟩ ∧ ∀ j, j < ys.length → w.cell? ⟨g, j, none⟩ = ys[j]? := by
  rcases h.2 with ⟨h1, h2⟩ | ⟨g', c', cur, h1, _⟩
  · exact absurd h2 h0
  · simp only [Value.slice.injEq] at h1
    obtain ⟨rfl, _, rfl⟩ := h1
    exact ⟨g', rfl, fun j hj => World.ownsRow.cellAt h j (by omega)⟩
theorem SL.win {w : World} {b off N c n i : Nat} {xs : List Int} (h : SL w (some ⟨b, off, none⟩) N c xs) (hi : i + n ≤ N) : SL w (some ⟨b, off + i, none⟩) n n ((xs.drop i).take n) := by
  have hl := h.1
  refine ⟨by simp; omega, ⟨Nat.le_refl _, fun e => by cases e⟩, ?_⟩
  rcases h.2.2 with h0 | ⟨b', o', e, hc⟩
  · left; simp [h0] at hl ⊢ <;> omega
  · right
    cases e
    refine ⟨b, off + i, rfl, fun j hj => ?_⟩
    have := hc (i + j) (by omega)
    rw [← Nat.add_assoc] at this
    rw [this]
    simp [List.getElem?_take, hj]
def winV (b off n i : Nat) : List Value := (List.range i).map (fun j => Value.slice (some ⟨b, off + j, none⟩) n n)
theorem winV_len (b off n i : Nat) : (winV b off n i).length = i := by simp [winV]
theorem winV_step (b off n i : Nat) : winV b off n i ++ [Value.slice (some ⟨b, off + i, none⟩) n n] = winV b off n (i + 1) := by simp [winV, List.range_succ]
theorem winV_at (b off n i j : Nat) (hj : j < i) : (winV b off n i)[j]? = some (Value.slice (some ⟨b, off + j, none⟩) n n) := by simp [winV, hj]
set_option maxRecDepth 100000 in
set_option maxHeartbeats 1600000 in
theorem windows_any (b off N c n : Nat) (xs : List Int) (w : World) (h1 : SL w (some ⟨b, off, none⟩) N c xs) (hn : 1 ≤ n) (hnN : n ≤ N) (hN : N ≤ 1000) :
    Calls Tryd.prog 111 #[.slice (some ⟨b, off, none⟩) N c, .int .i64 n] w fun e w' => ∃ g cap, e = .returned (.slice (some ⟨g, 0, none⟩) (N - n + 1) cap) ∧ (∀ i, i < N - n + 1 → w'.cell? ⟨g, i, none⟩ = some (.slice (some ⟨b, off + i, none⟩) n n)) ∧ Below w.heap.size w w' := by
  have hcc := h1.le
  have hO0 : Hid (OwnV w.heap.size w none 0 (winV b off n 0)) := hide (OwnV.nil _ _)
  go_enter Tryd.func111, Tryd.ntmps111
  go_wp2
  go_loopw [5, 6] (fun av ev wr => ∃ (i : Nat) (a' : Option Addr) (c' : Nat), i ≤ N - n + 1 ∧ av = .slice a' i c' ∧ ev = .int .i64 ((n : Int) + i) ∧ Hid (OwnV w.heap.size wr a' c' (winV b off n i)) ∧ Below w.heap.size w wr) (fun _ ev _ => (N + 1 - (intOf ev).toNat))
  case atStart => exact ⟨0, none, 0, by omega, rfl, by go_num, hO0, Below.refl _ _⟩
  case round =>
    obtain ⟨i, a', c', hi, rfl, rfl, hO, hb⟩ := hrel
    clear hO0
    obtain ⟨e, he⟩ : ∃ e : Nat, e = n + i := ⟨_, rfl⟩
    have hei : (n : Int) + i = (e : Int) := by omega
    rw [hei]
    have He := hide he
    clear he hei
    by_cases hlt : i < N - n + 1
    · have q1 : (e : Int) ≤ (N : Int) := by have := He.out; omega
      have q2 : (e : Int) ≤ (c : Int) := by omega
      have q3 : (0 : Int) ≤ (e : Int) := by omega
      have v1 : IntKind.i64.wrap ((e : Int) - n) = (i : Int) := by rw [show (e : Int) - n = (i : Int) by have := He.out; omega]; exact IntWalk.i64_in _ (by omega)
      have q4 : (i : Int) ≤ (e : Int) := by have := He.out; omega
      have q5 : (0 : Int) ≤ (i : Int) := by omega
      have v2 : IntKind.i64.wrap ((e : Int) + 1) = (e : Int) + 1 := IntWalk.i64_in _ (by omega)
      have q6 : ¬ i = e := by have := He.out; omega
      have hba : Below wr.heap.size wr (wr.alloc (.cells #[.slice (some ⟨b, off + i, none⟩) n n] 22)) := bl1 _ _
      have hen : e - i = n := by have := He.out; omega
      obtain ⟨vs, hvs⟩ : ∃ vs, winV b off n i = vs := ⟨_, rfl⟩
      have hst : Hid (winV b off n (i + 1) = vs ++ [Value.slice (some ⟨b, off + i, none⟩) n n]) := hide (by rw [← hvs, winV_step])
      have hvl := hide (show vs.length = i by rw [← hvs, winV_len])
      rw [hvs] at hO
      clear hvs
      have hOa := hide (hO.out.below hba)
      clear hO
      have hcl : (wr.alloc (.cells #[.slice (some ⟨b, off + i, none⟩) n n] 22)).cell? ⟨wr.heap.size, 0, none⟩ = some (.slice (some ⟨b, off + i, none⟩) n n) := by simp [go_sem]
      go_wp2_with (at_builtin; with_reducible refine wp_appV rfl _ _ rfl w.heap.size _ _ _ vs rfl hvl.out.symm hOa.out _ _ _ rfl hcl rfl (by omega) (by have := hb.size; simp; omega) ?_; intro ad' cap' w' hown' hgr hloc)
      have hvl2 := hide (show (vs ++ [Value.slice (some ⟨b, off + i, none⟩) n n]).length = i + 1 by rw [List.length_append, hvl.out]; rfl)
      have hb2 : Below w.heap.size w w' := (hb.trans (hba.mono hb.size)).grown hgr (by have := hb.size; simp; omega) (OwnV.blkG hOa.out)
      go_roundw
      case rel => exact ⟨i + 1, ad', cap', by omega, by rw [hvl.out], by rw [show (e : Int) + 1 = (n : Int) + ((i + 1 : Nat) : Int) by have := He.out; omega], by rw [hst.out]; exact hide hown', hb2⟩
      case measure => simp [intOf]; omega
    · have q1 : ¬ (e : Int) ≤ (N : Int) := by have := He.out; omega
      have hiN : i = N - n + 1 := by omega
      obtain ⟨g, rfl, hat⟩ := OwnV.at hO.out (by rw [winV_len]; omega)
      rw [winV_len] at hat
      have hat2 := hide hat
      have HI := hide hiN
      clear hO hat hiN
      go_wp2
      refine bodyPost_ret (v := .slice (some ⟨g, 0, none⟩) i c') (by simp [results, Tryd.results111]) rfl ?_
      exact ⟨g, ⟨c', by rw [← HI.out]⟩, fun j hj => by rw [hat2.out j (by rw [HI.out]; exact hj), winV_at _ _ _ _ _ (by rw [HI.out]; exact hj)], hb⟩
/-- A list to which multiples of lists are added, one after the other. -/
def funF (p : Int) (f : List Int) (R : Nat → List Int) (ys : List Int) : Nat → List Int
  | 0 => ys
  | i + 1 => addlM p (f.getD i 0) (funF p f R ys i) (R i)
theorem funF_len (p : Int) (f : List Int) (R : Nat → List Int) (ys : List Int) (i : Nat) : (funF p f R ys i).length = ys.length := by
  induction i with
  | zero => rfl
  | succ i ih => rw [funF, addlM_len, ih]
theorem funF_are {p : Int} (hp : 2 ≤ p) (f : List Int) (R : Nat → List Int) (ys : List Int) (hy : areB p ys = true) (i : Nat) : areB p (funF p f R ys i) = true := by
  cases i with
  | zero => exact hy
  | succ i => exact addlM_are hp _ _ _
end Go.Proofs.YtdjifjlgllohmaaDoor
/- Contracts: partOf, l03Cut; CutJacobi, ShiftJacobi (program and model). -/
namespace Go.Proofs.YtdjifjlgllohmaaDoor
open Go.RowKit
set_option linter.unusedVariables false
set_option linter.unusedSimpArgs false

/-- The two results of a call: data and a code. -/
def ResJ (w : World) (q : Int) (v u : List Int) (c : Int) (e : Ending) (w' : World) : Prop :=
  ∃ a cap b cap', e = .returned (.tuple #[jac q a v.length cap b u.length cap', .int .i64 c]) ∧ JZ w.heap.size w'.heap.size w' a v.length cap v b u.length cap' u ∧ (v.length ≤ 100000 ∧ u.length ≤ 100000) ∧ Below w.heap.size w w'
theorem ResJ.nil {w w' : World} {q : Int} {v u : List Int} {c c' : Int} (hq : q = 0) (hv : v = []) (hu : u = []) (hc : c = c') (hb : Below w.heap.size w w') : ResJ w q v u c (.returned (.tuple #[jac 0 none 0 0 none 0 0, .int .i64 c'])) w' := by
  subst hv; subst hu; subst hc; subst hq
  exact ⟨none, 0, none, 0, rfl, ⟨⟨SL.nil _, .inl rfl⟩, ⟨SL.nil _, .inl rfl⟩, .inl rfl⟩, by simp, hb⟩
theorem ResJ.mk {w w' : World} {q q' : Int} {v u : List Int} {c c' : Int} {a : Option Addr} {n cap : Nat} {b : Option Addr} {m cap' : Nat} (hq : q = q') (hc : c = c') (hn : n = v.length) (hm : m = u.length) (ho : JZ w.heap.size w'.heap.size w' a n cap v b m cap' u)
    (hl : v.length ≤ 100000) (hl' : u.length ≤ 100000) (hb : Below w.heap.size w w') : ResJ w q v u c (.returned (.tuple #[jac q' a n cap b m cap', .int .i64 c'])) w' := by
  subst hc; subst hn; subst hm; subst hq
  exact ⟨a, cap, b, cap', rfl, ho, ⟨hl, hl'⟩, hb⟩
theorem SL.part {w : World} {b off n c : Nat} {xs : List Int} (h : SL w (some ⟨b, off, none⟩) n c xs) (lo hi : Nat) (h1 : lo ≤ hi) (h2 : hi ≤ n) : SL w (some ⟨b, off + lo, none⟩) (hi - lo) (c - lo) ((xs.take hi).drop lo) :=
  (h.take h2).dropS lo h1
def cutjV (k : Int) (xs : List Int) : List Int := xs.take k.toNat
def shjV (k : Int) (xs : List Int) : List Int := xs.drop k.toNat
def cutjC (p : Int) (xs ys : List Int) (k : Int) : Int := jcd p xs ys k 1 xs.length
def cutJP (p : Int) (xs ys : List Int) (k : Int) : Int := if cutjC p xs ys k = 0 then p else 0
def cutJV (p : Int) (xs ys : List Int) (k : Int) : List Int := if cutjC p xs ys k = 0 then xs.take k.toNat else []
def cutJU (p : Int) (xs ys : List Int) (k : Int) : List Int := if cutjC p xs ys k = 0 then ys.take k.toNat else []
def shjC (p : Int) (xs ys : List Int) (k : Int) : Int := jcd p xs ys k 0 ((xs.length : Int) - 1)
def shJP (p : Int) (xs ys : List Int) (k : Int) : Int := if shjC p xs ys k = 0 then p else 0
def shJV (p : Int) (xs ys : List Int) (k : Int) : List Int := if shjC p xs ys k = 0 then xs.drop k.toNat else []
def shJU (p : Int) (xs ys : List Int) (k : Int) : List Int := if shjC p xs ys k = 0 then ys.drop k.toNat else []
end Go.Proofs.YtdjifjlgllohmaaDoor
