/- Merged texts. -/
import Derived.Test.YtdjifjlgllohmaaDoorYDS19
import Derived.Test.YtdjifjlgllohmaaDoorYDS23
import Derived.Test.YtdjifjlgllohmaaDoorYDS26
/- An append of many numbers onto an owned list, with what stays; regions in which two or three operations may come up. -/
namespace Go.Proofs.YtdjifjlgllohmaaDoor
open Go.RowKit
set_option linter.unusedVariables false
set_option linter.unusedSimpArgs false

set_option maxRecDepth 100000 in
theorem op_appG {w : World} {o : Oper} {a : Act} {K : Act → World → Prop} {Q : Exit → Act → World → Prop}
    (s x : Operand) (ho : o.op = .call { callee := .builtin .append, args := #[s, x], argTypes := #[22, 22] })
    (B : Nat) (ad : Option Addr) (n cap : Nat) (ys : List Int) (hs : a.eval s = .slice ad n cap) (hn : n = ys.length) (hown : Own B w ad cap ys)
    (ax : Option Addr) (m c : Nat) (zs : List Int) (hx : a.eval x = .slice ax m c) (hz : SL w ax m c zs) (hmax : n + m ≤ 4000000) (hB : B ≤ w.heap.size)
    (hK : ∀ ad' cap' w', Own B w' ad' cap' (ys ++ zs) → w.grownBy w' (blk ad) → (blk ad' = blk ad ∨ blk ad' = some w.heap.size) → K (a.put o.dst (.slice ad' (ys ++ zs).length cap')) w') :
    o.wp Tryd.prog a w K Q := by
  subst hn
  obtain ⟨i0, hi, hz0, hz1, hz2⟩ := info_parts infoI
  obtain ⟨hl, ⟨hle, hax⟩, hcs⟩ := hz
  cases ax with
  | none =>
    obtain rfl := hax rfl
    obtain rfl : m = 0 := by omega
    obtain rfl : zs = [] := List.eq_nil_of_length_eq_zero hl
    have hrun := run_append_owned_none (P := Tryd.prog) w B 22 o.type 2 i0 1 Tryd.underlying22 hi _ _ _ hown
    have hk := hK ad cap w (by simpa using hown) ⟨rfl, rfl, rfl, Nat.le_refl _, fun _ _ _ => rfl⟩ (.inl rfl)
    rw [List.append_nil] at hk
    unfold Oper.wp
    simp only [execOp, ho, resolve, invoke, builtin, Sem.run_bind, Sem.run_pure, Result.andThen_ok, List.map_toArray, List.map_cons, List.map_nil, hs, hx, hrun]
    exact hk
  | some p =>
    have hnews : ∀ j u, (zs.map (Value.int .i64))[j]? = some u → w.cell? (p.add j) = some u := by
      intro j u hj
      have hjz : j < zs.length := by
        have := (List.getElem?_eq_some_iff.1 hj).1
        simpa using this
      rcases hcs with h0 | ⟨b, off, hpe, hcell⟩
      · omega
      · obtain rfl := Option.some.inj hpe
        rw [Addr.add_lit, hcell j (by omega)]
        simpa [hjz] using hj
    have h1 : ∀ u ∈ zs.map (Value.int .i64), u.oneCell' = true := by
      intro u hu
      obtain ⟨_, _, rfl⟩ := List.mem_map.1 hu
      rfl
    obtain ⟨v', w1, hr, hown', hgrow, _, hloc⟩ := run_append_own_at (P := Tryd.prog) w B 22 o.type 2 i0 (.int .i64 0) 1 8 Tryd.underlying22 hi hz0 hz1 hz2 rfl (by decide) _ _ _ hown p m c (zs.map (Value.int .i64)) (by simpa using hl) hnews h1 (by unfold maxLen; omega) (by omega) hB
    have hb1 : ∀ (ad : Option Addr) (n c : Nat), (Value.slice ad n c).ownBlock = blk ad := fun ad n c => by cases ad <;> rfl
    rw [hb1] at hgrow hloc
    have hv : ∃ ad' cap', v' = .slice ad' (ys ++ zs).length cap' := by
      rcases hown'.2 with ⟨h1, h2⟩ | ⟨g, c', cur, h1, h2⟩
      · exact ⟨none, 0, by rw [h1]; congr 1; simp; omega⟩
      · exact ⟨_, c', by rw [h1]; congr 1; simp; omega⟩
    obtain ⟨ad', cap', rfl⟩ := hv
    rw [hb1] at hloc
    unfold Oper.wp execOp
    simp only [ho, resolve, invoke, builtin, Sem.run_bind, Sem.run_pure, Result.andThen_ok, List.map_toArray, List.map_cons, List.map_nil, hs, hx, hr]
    refine hK ad' cap' w1 ?_ hgrow hloc
    unfold Own
    have e : (ys ++ zs).length = ys.length + m := by simp; omega
    rw [List.map_append]
    rw [e] at hown' ⊢
    exact hown'
theorem wp_appG {w : World} {ops : Array Oper} {rest : List Oper} {o : Oper} {a : Act} {Q : Exit → Act → World → Prop}
    (hgd : o.guard = none) (s x : Operand) (ho : o.op = .call { callee := .builtin .append, args := #[s, x], argTypes := #[22, 22] })
    (B : Nat) (ad : Option Addr) (n cap : Nat) (ys : List Int) (hs : a.eval s = .slice ad n cap) (hn : n = ys.length) (hown : Own B w ad cap ys)
    (ax : Option Addr) (m c : Nat) (zs : List Int) (hx : a.eval x = .slice ax m c) (hz : SL w ax m c zs) (hmax : n + m ≤ 4000000) (hB : B ≤ w.heap.size)
    (hK : ∀ ad' cap' w', Own B w' ad' cap' (ys ++ zs) → w.grownBy w' (blk ad) → (blk ad' = blk ad ∨ blk ad' = some w.heap.size) → wpList Tryd.prog ops Q rest (a.put o.dst (.slice ad' (ys ++ zs).length cap')) w') :
    wpList Tryd.prog ops Q (o :: rest) a w :=
  wpList_plain hgd fun K hK' => op_appG s x ho B ad n cap ys hs hn hown ax m c zs hx hz hmax hB fun ad' cap' w' h1 h2 h3 => hK' _ _ (hK ad' cap' w' h1 h2 h3)
section
variable {P : Program} {Q : Exit → Act → World → Prop} {md : Region.Mode} {S : World → Prop} {L : Nat}
/-- What an operation that comes next owes. -/
def Next (P : Program) (md : Region.Mode) (l : List Oper) (Q : Exit → Act → World → Prop) (S : World → Prop) (L n : Nat) (done : Array Bool) (a : Act) (w : World) (i : Nat) (o : Oper) : Prop :=
  ∀ K : Act → World → Prop, Shut (∀ a w, S w → anyE P md l.toArray Q S L n (done.setIfInBounds i true) a w → K a w) → if Region.wanted o (yielded l.toArray a.tmps) = true then Oper.wp P o a w K Q else K (a.put o.dst undef) w
theorem Next.step {l : List Oper} {n : Nat} {done : Array Bool} {a : Act} {w : World} {i : Nat} {o : Oper} (hi : l[i]? = some o) (h : Next P md l Q S L n done a w i o) :
    wpOp P l.toArray Q i (fun a' w' => (i ≠ L → S w') ∧ anyE P md l.toArray Q S L n (done.setIfInBounds i true) a' w') a w :=
  wpOp_step (by rw [List.getElem?_toArray]; exact hi) fun K hK => h K (fun a w k1 k2 => hK a w ⟨fun _ => k1, k2⟩)
theorem anyE_2L (i j : Nat) {l : List Oper} {oi oj : Oper} {n : Nat} {done : Array Bool} {a : Act} {w : World} (hr : Region.ready md l.toArray done = [i, j]) (hoi : l[i]? = some oi) (hoj : l[j]? = some oj)
    (hi : ∀ K : Act → World → Prop, Shut (∀ a w, S w → anyE P md l.toArray Q S L n (done.setIfInBounds i true) a w → K a w) → if Region.wanted oi (yielded l.toArray a.tmps) = true then Oper.wp P oi a w K Q else K (a.put oi.dst undef) w)
    (hj : ∀ K : Act → World → Prop, Shut (∀ a w, S w → anyE P md l.toArray Q S L n (done.setIfInBounds j true) a w → K a w) → if Region.wanted oj (yielded l.toArray a.tmps) = true then Oper.wp P oj a w K Q else K (a.put oj.dst undef) w) :
    anyE P md l.toArray Q S L (n + 1) done a w := by
  refine ⟨fun h0 => (by rw [h0] at hr; cases hr), fun k hk => ?_⟩
  rw [hr] at hk
  rw [List.mem_cons, List.mem_singleton] at hk
  rcases hk with rfl | rfl
  · exact Next.step hoi hi
  · exact Next.step hoj hj
theorem anyE_3L (i j k : Nat) {l : List Oper} {oi oj ok : Oper} {n : Nat} {done : Array Bool} {a : Act} {w : World} (hr : Region.ready md l.toArray done = [i, j, k]) (hoi : l[i]? = some oi) (hoj : l[j]? = some oj) (hok : l[k]? = some ok)
    (hi : ∀ K : Act → World → Prop, Shut (∀ a w, S w → anyE P md l.toArray Q S L n (done.setIfInBounds i true) a w → K a w) → if Region.wanted oi (yielded l.toArray a.tmps) = true then Oper.wp P oi a w K Q else K (a.put oi.dst undef) w)
    (hj : ∀ K : Act → World → Prop, Shut (∀ a w, S w → anyE P md l.toArray Q S L n (done.setIfInBounds j true) a w → K a w) → if Region.wanted oj (yielded l.toArray a.tmps) = true then Oper.wp P oj a w K Q else K (a.put oj.dst undef) w)
    (hk : ∀ K : Act → World → Prop, Shut (∀ a w, S w → anyE P md l.toArray Q S L n (done.setIfInBounds k true) a w → K a w) → if Region.wanted ok (yielded l.toArray a.tmps) = true then Oper.wp P ok a w K Q else K (a.put ok.dst undef) w) :
    anyE P md l.toArray Q S L (n + 1) done a w := by
  refine ⟨fun h0 => (by rw [h0] at hr; cases hr), fun q hq => ?_⟩
  rw [hr] at hq
  rw [List.mem_cons, List.mem_cons, List.mem_singleton] at hq
  rcases hq with rfl | rfl | rfl
  · exact Next.step hoi hi
  · exact Next.step hoj hj
  · exact Next.step hok hk
end
end Go.Proofs.YtdjifjlgllohmaaDoor
/- Contract: longerData of the program. -/
namespace Go.Proofs.YtdjifjlgllohmaaDoor
open Go.RowKit
set_option linter.unusedVariables false
set_option linter.unusedSimpArgs false

theorem mulX_cf {p : Int} (hp : 2 ≤ p) (g : List Int) (j : Nat) : p ∣ cf (mulM p [0, 1] g) j - shF (cf g) j := by
  rw [mulM_cf hp]
  refine xv_trans (xv_mod p _) ?_
  cases j with
  | zero =>
    show p ∣ sm 1 (fun i => cf [0, 1] i * cf g (0 - i)) - 0
    simp [sm, cf]
  | succ j =>
    show p ∣ sm (j + 1 + 1) (fun i => cf [0, 1] i * cf g (j + 1 - i)) - cf g j
    rw [sm_head, sm_head, sm_nul _ j (fun k _ => by
      have : cf [0, 1] (k + 1 + 1) = 0 := cf_far (by simp)
      rw [this, Int.zero_mul])]
    have e1 : cf [0, 1] 0 = 0 := rfl
    have e2 : cf [0, 1] (0 + 1) = 1 := rfl
    rw [e1, e2]
    simp
theorem mulX_dot {p : Int} (hp : 2 ≤ p) (g xs : List Int) (h0 : g.length ≠ 0) : (mulM p [0, 1] g).length = g.length + 1 ∧ dotK p (mulM p [0, 1] g) xs 0 (mulM p [0, 1] g).length = dotK p g xs 1 g.length := by
  have hl : (mulM p [0, 1] g).length = g.length + 1 := by rw [mulM_mlen]; unfold mlen; simp [h0]; omega
  refine ⟨hl, ?_⟩
  rw [hl]
  have r1 := dotK_rng hp (mulM p [0, 1] g) xs 0 (g.length + 1)
  have r2 := dotK_rng hp g xs 1 g.length
  refine xv_eq (xv_trans (dotK_smO p _ xs 0 _) (xv_trans ?_ (xv_symm (dotK_smO p g xs 1 _)))) r1.1 r1.2 r2.1 r2.2
  rw [sm_head]
  have z := mulX_cf hp g 0
  have e0 : shF (cf g) 0 = 0 := rfl
  rw [e0, Int.sub_zero] at z
  have h1 : p ∣ sm g.length (fun k => cf (mulM p [0, 1] g) (k + 1) * cf xs (k + 1 + 0)) - sm g.length (fun t => cf g t * cf xs (t + 1)) := xv_sm fun k _ => by
    have := mulX_cf hp g (k + 1)
    have e1 : shF (cf g) (k + 1) = cf g k := by unfold shF; rw [if_neg (by omega)]; rfl
    rw [e1] at this
    exact xv_mul this (xv_self p _)
  obtain ⟨x, hx⟩ := z
  obtain ⟨y, hy⟩ := h1
  exact ⟨x * cf xs (0 + 0) + y, by grind⟩
theorem prB_take (p : Int) (be : List Int) (i : Nat) (hi : i < be.length) : prB p (be.take (i + 1)) = prB p (be.take i) * be.getD i 0 % p := by
  have : be.take (i + 1) = be.take i ++ [be.getD i 0] := by
    rw [List.take_add_one]
    simp [hi]
  rw [this, prB_app]
theorem prB_nz {p : Int} (hp : primeB p = true) (xs : List Int) {k : Nat} (h : Told p xs k) : prB p (jdL p xs k).2 ≠ 0 := by
  cases k with
  | zero => simp [jdL, prB]
  | succ k => rw [prB_norm hp xs k h]; exact h k (by omega)
theorem jdL_are {p : Int} (hp : 2 ≤ p) (xs : List Int) (k : Nat) : areB p (jdL p xs k).1 = true ∧ areB p (jdL p xs k).2 = true := by
  have app : ∀ (l : List Int) (x : Int), areB p l = true → 0 ≤ x → x < p → areB p (l ++ [x]) = true := fun l x h h0 h1 => by
    simp only [areB, List.all_append, Bool.and_eq_true] at h ⊢
    exact ⟨h, by simp [okN]; omega⟩
  induction k with
  | zero => exact ⟨rfl, rfl⟩
  | succ k ih =>
    rw [jdL_succ]
    exact ⟨app _ _ ih.1 (modb hp).1 (modb hp).2, app _ _ ih.2 (modb hp).1 (modb hp).2⟩
theorem own_ltO {B : Nat} {w : World} {a : Option Addr} {c : Nat} {ys : List Int} (h : Own B w a c ys) : ∀ g, blk a = some g → g < w.heap.size := fun g hg => by
  rcases h.shape with ⟨rfl, _, _⟩ | ⟨g', cur, rfl, hB, hg', _⟩
  · cases hg
  · cases hg
    exact lt_of_block hg'
theorem Own.setFar {B : Nat} {w : World} {a : Option Addr} {c : Nat} {ys : List Int} (h : Own B w a c ys) {x : Addr} (hx : ∀ g, blk a = some g → x.block ≠ g) (u : Value) : Own B (w.setCell x u) a c ys :=
  h.touch (lo := x.block) (hi := x.block + 1) ⟨rfl, rfl, rfl, by simp [World.setCell], fun k hk hd => Below.heap_setCell _ _ _ _ (by omega)⟩ (fun g hg => by have := hx g hg; omega)
/-- P(k + 1) can be told: there are moments enough, and the norm of P(k) is not 0. -/
def Nxt (p : Int) (xs : List Int) (k : Nat) : Prop := 2 * k + 2 ≤ xs.length ∧ opH p xs k ≠ 0

set_option maxRecDepth 100000 in
set_option maxHeartbeats 1600000 in
theorem longer_no1 (p : Int) (a2 : Option Addr) (n2 c2 : Nat) (xs : List Int) (k : Nat) (a : Option Addr) (c : Nat) (b : Option Addr) (d : Nat) (a1 : Option Addr) (c1 : Nat) (ae : Addr) (w : World) (he : ErrV w ae) (h2 : SL w a2 n2 c2 xs) (hf : SL w a1 (k + 1) c1 (opL p xs k)) (hP : primeB p = true) (hx : areB p xs = true) (b2 : n2 ≤ 24) (hk : k ≤ 12) (hno : n2 < 2 * k + 1) :
    Calls Tryd.prog 96 #[mom p a2 n2 c2, jac p a k c b k d, .slice a1 (k + 1) c1] w fun e w' => e = .panicked (chE ae) ∧ Below w.heap.size w w' := by
  obtain ⟨hp, hp2⟩ := primeB_lo hP
  have hlx := hide h2.len
  have hsm := opL_small hp xs k (by omega)
  have hfa := hsm.are
  have hfl := (opL_len hp xs k (by omega)).1
  have hsq := hide (sq_len (p := p) hfl)
  have hsa := mulM_areB (p := p) hp (opL p xs k) (opL p xs k)
  have hb0 := bl3 w (.cells #[.int .i64 p, .slice a2 n2 c2] 30) (.cells #[.int .i64 p, .slice a k c, .slice b k d] 27) (.cells #[.int .i64 0, .slice none 0 0, .slice none 0 0] 27)
  replace h2 := h2.below hb0
  replace hf := hf.below hb0
  replace he := he.below hb0
  clear hsm hfl
  go_enter Tryd.func96, Tryd.ntmps96
  go_wp2_with fail
  refine (multiply_any _ _ _ _ _ _ _ _ _ _ hf hf (by omega) (by omega) hp hp2 hfa hfa).mono ?_
  rintro e w1 ⟨aq, cq, rfl, oq, hb1⟩
  have m0 : w1.cell? ⟨w.heap.size, 0, none⟩ = some (.int .i64 p) := cell_be hb1 (by simp [go_sem])
  have m1 : w1.cell? ⟨w.heap.size, 1, none⟩ = some (.slice a2 n2 c2) := cell_be hb1 (by simp [go_sem])
  have m2 : w1.cell? ⟨w.heap.size + 1, 0, none⟩ = some (.int .i64 p) := cell_be hb1 (by simp [go_sem])
  have m3 : w1.cell? ⟨w.heap.size + 1, 1, none⟩ = some (.slice a k c) := cell_be hb1 (by simp [go_sem])
  have m4 : w1.cell? ⟨w.heap.size + 1, 2, none⟩ = some (.slice b k d) := cell_be hb1 (by simp [go_sem])
  have z1 : w.heap.size + 3 ≤ w1.heap.size := by have := hb1.size; simp at this; omega
  replace h2 := h2.below hb1
  replace he := he.below hb1
  have hB1 := bnext hb0 hb1
  clear hb1 hf
  go_wp2_with fail
  refine (apply_no _ _ _ _ _ _ _ ae _ he (by have := hsq.out; omega) (by omega) (by have := hsq.out; omega)).mono ?_
  rintro e w2 ⟨rfl, hb2⟩
  go_wp2
  exact ⟨rfl, rfl, bnext hB1 hb2⟩
set_option maxRecDepth 100000 in
set_option maxHeartbeats 1600000 in
theorem longer_no2 (p : Int) (a2 : Option Addr) (n2 c2 : Nat) (xs : List Int) (k : Nat) (a : Option Addr) (c : Nat) (b : Option Addr) (d : Nat) (a1 : Option Addr) (c1 : Nat) (ae : Addr) (w : World) (he : ErrV w ae) (h2 : SL w a2 n2 c2 xs) (hf : SL w a1 (k + 1) c1 (opL p xs k)) (hP : primeB p = true) (hx : areB p xs = true) (b2 : n2 ≤ 24) (hk : k ≤ 12) (h3 : 2 * k + 1 ≤ n2) (hno : n2 < 2 * k + 2) :
    Calls Tryd.prog 96 #[mom p a2 n2 c2, jac p a k c b k d, .slice a1 (k + 1) c1] w fun e w' => e = .panicked (chE ae) ∧ Below w.heap.size w w' := by
  obtain ⟨hp, hp2⟩ := primeB_lo hP
  have hlx := hide h2.len
  have hsm := opL_small hp xs k (by omega)
  have hfa := hsm.are
  have hfl := (opL_len hp xs k (by omega)).1
  have hsq := hide (sq_len (p := p) hfl)
  have hsa := mulM_areB (p := p) hp (opL p xs k) (opL p xs k)
  have hb0 := bl3 w (.cells #[.int .i64 p, .slice a2 n2 c2] 30) (.cells #[.int .i64 p, .slice a k c, .slice b k d] 27) (.cells #[.int .i64 0, .slice none 0 0, .slice none 0 0] 27)
  replace h2 := h2.below hb0
  replace hf := hf.below hb0
  replace he := he.below hb0
  clear hsm hfl
  go_enter Tryd.func96, Tryd.ntmps96
  go_wp2_with fail
  refine (multiply_any _ _ _ _ _ _ _ _ _ _ hf hf (by omega) (by omega) hp hp2 hfa hfa).mono ?_
  rintro e w1 ⟨aq, cq, rfl, oq, hb1⟩
  have m0 : w1.cell? ⟨w.heap.size, 0, none⟩ = some (.int .i64 p) := cell_be hb1 (by simp [go_sem])
  have m1 : w1.cell? ⟨w.heap.size, 1, none⟩ = some (.slice a2 n2 c2) := cell_be hb1 (by simp [go_sem])
  have m2 : w1.cell? ⟨w.heap.size + 1, 0, none⟩ = some (.int .i64 p) := cell_be hb1 (by simp [go_sem])
  have m3 : w1.cell? ⟨w.heap.size + 1, 1, none⟩ = some (.slice a k c) := cell_be hb1 (by simp [go_sem])
  have m4 : w1.cell? ⟨w.heap.size + 1, 2, none⟩ = some (.slice b k d) := cell_be hb1 (by simp [go_sem])
  have z1 : w.heap.size + 3 ≤ w1.heap.size := by have := hb1.size; simp at this; omega
  replace h2 := h2.below hb1
  replace he := he.below hb1
  have hB1 := bnext hb0 hb1
  clear hb1 hf
  go_wp2_with fail
  refine (apply_ok _ _ _ _ _ _ _ _ _ _ h2 oq.sl (by have := hsq.out; omega) (by omega) (by have := hsq.out; omega) hp hp2 hsa hx).mono ?_
  rintro e w2 ⟨rfl, hb2⟩
  have eH : dotK p (mulM p (opL p xs k) (opL p xs k)) xs 0 (mulM p (opL p xs k) (opL p xs k)).length = opH p xs k := rfl
  rw [eH]
  clear eH
  replace m0 := cell_be hb2 m0
  replace m1 := cell_be hb2 m1
  replace m2 := cell_be hb2 m2
  replace m3 := cell_be hb2 m3
  replace m4 := cell_be hb2 m4
  replace he := he.below hb2
  have z2 := hb2.size
  replace h2 := h2.below hb2
  replace oq := oq.below hb2
  have hB2 := bnext hB1 hb2
  clear hb2 hB1
  have hX := hide (mulX_dot hp (mulM p (opL p xs k) (opL p xs k)) xs (by have := hsq.out; omega))
  have rX := dotK_rng hp (mulM p (opL p xs k) (opL p xs k)) xs 1 (mulM p (opL p xs k) (opL p xs k)).length
  have rH := opH_rng hp xs k
  go_upto_region 4 with fail
  have hm := (Below.refl w2.heap.size w2).drew
  have F : ∀ w', Below w2.heap.size w2 w' → w'.cell? ⟨w.heap.size, 0, none⟩ = some (.int .i64 p) ∧ w'.cell? ⟨w.heap.size, 1, none⟩ = some (.slice a2 n2 c2) ∧ w'.cell? ⟨w.heap.size + 1, 0, none⟩ = some (.int .i64 p) ∧ w'.cell? ⟨w.heap.size + 1, 1, none⟩ = some (.slice a k c) ∧ w'.cell? ⟨w.heap.size + 1, 2, none⟩ = some (.slice b k d) := fun w' hb => ⟨cell_be hb m0, cell_be hb m1, cell_be hb m2, cell_be hb m3, cell_be hb m4⟩
  refine region_E (fun w' => w'.cell? ⟨w.heap.size, 0, none⟩ = some (.int .i64 p) ∧ w'.cell? ⟨w.heap.size, 1, none⟩ = some (.slice a2 n2 c2) ∧ w'.cell? ⟨w.heap.size + 1, 0, none⟩ = some (.int .i64 p) ∧ w'.cell? ⟨w.heap.size + 1, 1, none⟩ = some (.slice a k c) ∧ w'.cell? ⟨w.heap.size + 1, 2, none⟩ = some (.slice b k d)) 99 (by kernel_rfl) (F _ hm) ?_
  intro hS
  refine anyE_takeH 0 rfl (by kernel_rfl) (fun _ _ _ h => h) hS (by rfl) (v := ?_) ?_ ?_
  rotate_left
  · intro w' hSw; (try dsimp only at hSw); go_simp; (try with_reducible rfl)
  try simp only [Act.put, List.setIfInBounds_toArray, List.set_cons_zero, List.set_cons_succ]
  refine anyE_takeH 1 rfl (by kernel_rfl) (fun _ _ _ h => h) hS (by rfl) (v := ?_) ?_ ?_
  rotate_left
  · intro w' hSw; (try dsimp only at hSw); go_simp; (try with_reducible rfl)
  try simp only [Act.put, List.setIfInBounds_toArray, List.set_cons_zero, List.set_cons_succ]
  refine anyE_takeH 2 rfl (by kernel_rfl) (fun _ _ _ h => h) hS (by rfl) (v := ?_) ?_ ?_
  rotate_left
  · intro w' hSw; (try dsimp only at hSw); go_simp; (try with_reducible rfl)
  try simp only [Act.put, List.setIfInBounds_toArray, List.set_cons_zero, List.set_cons_succ]
  refine anyE_takeH 4 rfl (by kernel_rfl) (fun _ _ _ h => h) hS (by rfl) (v := ?_) ?_ ?_
  rotate_left
  · intro w' hSw; (try dsimp only at hSw); go_simp; (try with_reducible rfl)
  try simp only [Act.put, List.setIfInBounds_toArray, List.set_cons_zero, List.set_cons_succ]
  refine anyE_takeH 7 rfl (by kernel_rfl) (fun _ _ _ h => h) hS (by rfl) (v := ?_) ?_ ?_
  rotate_left
  · intro w' hSw; (try dsimp only at hSw); go_simp; (try with_reducible rfl)
  try simp only [Act.put, List.setIfInBounds_toArray, List.set_cons_zero, List.set_cons_succ]
  clear hS
  obtain ⟨u0, hu0⟩ : ∃ u, u = w2.drew := ⟨_, rfl⟩
  rw [← hu0] at hm ⊢
  clear hu0
  refine anyE_oneL 3 (by kernel_rfl) rfl (fun K' hK' => ?_)
  go_simp
  obtain ⟨u1, hu⟩ : ∃ u, u = u0.alloc (.cells #[.int .i64 0, .int .i64 1] 2) := ⟨_, rfl⟩
  have lx : Below u0.heap.size u0 u1 := by rw [hu]; exact bl1 _ _
  have lA : SL u1 (some ⟨u0.heap.size, 0, none⟩) 2 2 [0, 1] := by rw [hu]; exact litSL2 _ 0 1
  rw [← hu]
  clear hu
  replace hm := bnext hm lx
  refine hK'.out _ _ (F _ hm) ?_
  clear hK' K'
  try simp only [Act.put, List.setIfInBounds_toArray, List.set_cons_zero, List.set_cons_succ]
  refine anyE_oneL 5 (by kernel_rfl) rfl (fun K' hK' => ?_)
  go_simp
  refine (multiply_any _ _ _ _ _ _ _ _ _ _ lA (oq.sl.below hm) (by omega) (by have := hsq.out; omega) hp hp2 (by simp [areB, okN]; omega) hsa).mono ?_
  rintro e u2 ⟨ax, cx, rfl, ox, lx2⟩
  dsimp only
  replace hm := bnext hm lx2
  refine hK'.out _ _ (F _ hm) ?_
  clear hK' K'
  try simp only [Act.put, List.setIfInBounds_toArray, List.set_cons_zero, List.set_cons_succ]
  refine anyE_oneL 6 (by kernel_rfl) rfl (fun K' hK' => ?_)
  go_simp
  refine (apply_no _ _ _ _ _ _ _ ae _ (he.below hm) (by have := hX.out.1; have := hsq.out; omega) (by omega) (by have := hX.out.1; have := hsq.out; omega)).mono ?_
  rintro e u3 ⟨rfl, lx3⟩
  exact ⟨rfl, rfl, hB2.trans ((bnext hm lx3).mono hB2.size)⟩
set_option maxRecDepth 100000 in
set_option maxHeartbeats 1600000 in
theorem longer_no3 (p : Int) (a2 : Option Addr) (n2 c2 : Nat) (xs : List Int) (k : Nat) (a : Option Addr) (c : Nat) (b : Option Addr) (d : Nat) (a1 : Option Addr) (c1 : Nat) (ae : Addr) (w : World) (he : ErrV w ae) (h2 : SL w a2 n2 c2 xs) (hf : SL w a1 (k + 1) c1 (opL p xs k)) (hP : primeB p = true) (hx : areB p xs = true) (b2 : n2 ≤ 24) (hk : k ≤ 12) (h3 : 2 * k + 2 ≤ n2) (hz : opH p xs k = 0) :
    Calls Tryd.prog 96 #[mom p a2 n2 c2, jac p a k c b k d, .slice a1 (k + 1) c1] w fun e w' => e = .panicked (chE ae) ∧ Below w.heap.size w w' := by
  replace hz := hide hz
  obtain ⟨hp, hp2⟩ := primeB_lo hP
  have hlx := hide h2.len
  have hsm := opL_small hp xs k (by omega)
  have hfa := hsm.are
  have hfl := (opL_len hp xs k (by omega)).1
  have hsq := hide (sq_len (p := p) hfl)
  have hsa := mulM_areB (p := p) hp (opL p xs k) (opL p xs k)
  have hb0 := bl3 w (.cells #[.int .i64 p, .slice a2 n2 c2] 30) (.cells #[.int .i64 p, .slice a k c, .slice b k d] 27) (.cells #[.int .i64 0, .slice none 0 0, .slice none 0 0] 27)
  replace h2 := h2.below hb0
  replace hf := hf.below hb0
  replace he := he.below hb0
  clear hsm hfl
  go_enter Tryd.func96, Tryd.ntmps96
  go_wp2_with fail
  refine (multiply_any _ _ _ _ _ _ _ _ _ _ hf hf (by omega) (by omega) hp hp2 hfa hfa).mono ?_
  rintro e w1 ⟨aq, cq, rfl, oq, hb1⟩
  have m0 : w1.cell? ⟨w.heap.size, 0, none⟩ = some (.int .i64 p) := cell_be hb1 (by simp [go_sem])
  have m1 : w1.cell? ⟨w.heap.size, 1, none⟩ = some (.slice a2 n2 c2) := cell_be hb1 (by simp [go_sem])
  have m2 : w1.cell? ⟨w.heap.size + 1, 0, none⟩ = some (.int .i64 p) := cell_be hb1 (by simp [go_sem])
  have m3 : w1.cell? ⟨w.heap.size + 1, 1, none⟩ = some (.slice a k c) := cell_be hb1 (by simp [go_sem])
  have m4 : w1.cell? ⟨w.heap.size + 1, 2, none⟩ = some (.slice b k d) := cell_be hb1 (by simp [go_sem])
  have z1 : w.heap.size + 3 ≤ w1.heap.size := by have := hb1.size; simp at this; omega
  replace h2 := h2.below hb1
  replace he := he.below hb1
  have hB1 := bnext hb0 hb1
  clear hb1 hf
  go_wp2_with fail
  refine (apply_ok _ _ _ _ _ _ _ _ _ _ h2 oq.sl (by have := hsq.out; omega) (by omega) (by have := hsq.out; omega) hp hp2 hsa hx).mono ?_
  rintro e w2 ⟨rfl, hb2⟩
  have eH : dotK p (mulM p (opL p xs k) (opL p xs k)) xs 0 (mulM p (opL p xs k) (opL p xs k)).length = opH p xs k := rfl
  rw [eH]
  clear eH
  replace m0 := cell_be hb2 m0
  replace m1 := cell_be hb2 m1
  replace m2 := cell_be hb2 m2
  replace m3 := cell_be hb2 m3
  replace m4 := cell_be hb2 m4
  replace he := he.below hb2
  have z2 := hb2.size
  replace h2 := h2.below hb2
  replace oq := oq.below hb2
  have hB2 := bnext hB1 hb2
  clear hb2 hB1
  have hX := hide (mulX_dot hp (mulM p (opL p xs k) (opL p xs k)) xs (by have := hsq.out; omega))
  have rX := dotK_rng hp (mulM p (opL p xs k) (opL p xs k)) xs 1 (mulM p (opL p xs k) (opL p xs k)).length
  have rH := opH_rng hp xs k
  go_upto_region 4 with fail
  have hm := (Below.refl w2.heap.size w2).drew
  have F : ∀ w', Below w2.heap.size w2 w' → w'.cell? ⟨w.heap.size, 0, none⟩ = some (.int .i64 p) ∧ w'.cell? ⟨w.heap.size, 1, none⟩ = some (.slice a2 n2 c2) ∧ w'.cell? ⟨w.heap.size + 1, 0, none⟩ = some (.int .i64 p) ∧ w'.cell? ⟨w.heap.size + 1, 1, none⟩ = some (.slice a k c) ∧ w'.cell? ⟨w.heap.size + 1, 2, none⟩ = some (.slice b k d) := fun w' hb => ⟨cell_be hb m0, cell_be hb m1, cell_be hb m2, cell_be hb m3, cell_be hb m4⟩
  refine region_E (fun w' => w'.cell? ⟨w.heap.size, 0, none⟩ = some (.int .i64 p) ∧ w'.cell? ⟨w.heap.size, 1, none⟩ = some (.slice a2 n2 c2) ∧ w'.cell? ⟨w.heap.size + 1, 0, none⟩ = some (.int .i64 p) ∧ w'.cell? ⟨w.heap.size + 1, 1, none⟩ = some (.slice a k c) ∧ w'.cell? ⟨w.heap.size + 1, 2, none⟩ = some (.slice b k d)) 99 (by kernel_rfl) (F _ hm) ?_
  intro hS
  refine anyE_takeH 0 rfl (by kernel_rfl) (fun _ _ _ h => h) hS (by rfl) (v := ?_) ?_ ?_
  rotate_left
  · intro w' hSw; (try dsimp only at hSw); go_simp; (try with_reducible rfl)
  try simp only [Act.put, List.setIfInBounds_toArray, List.set_cons_zero, List.set_cons_succ]
  refine anyE_takeH 1 rfl (by kernel_rfl) (fun _ _ _ h => h) hS (by rfl) (v := ?_) ?_ ?_
  rotate_left
  · intro w' hSw; (try dsimp only at hSw); go_simp; (try with_reducible rfl)
  try simp only [Act.put, List.setIfInBounds_toArray, List.set_cons_zero, List.set_cons_succ]
  refine anyE_takeH 2 rfl (by kernel_rfl) (fun _ _ _ h => h) hS (by rfl) (v := ?_) ?_ ?_
  rotate_left
  · intro w' hSw; (try dsimp only at hSw); go_simp; (try with_reducible rfl)
  try simp only [Act.put, List.setIfInBounds_toArray, List.set_cons_zero, List.set_cons_succ]
  refine anyE_takeH 4 rfl (by kernel_rfl) (fun _ _ _ h => h) hS (by rfl) (v := ?_) ?_ ?_
  rotate_left
  · intro w' hSw; (try dsimp only at hSw); go_simp; (try with_reducible rfl)
  try simp only [Act.put, List.setIfInBounds_toArray, List.set_cons_zero, List.set_cons_succ]
  refine anyE_takeH 7 rfl (by kernel_rfl) (fun _ _ _ h => h) hS (by rfl) (v := ?_) ?_ ?_
  rotate_left
  · intro w' hSw; (try dsimp only at hSw); go_simp; (try with_reducible rfl)
  try simp only [Act.put, List.setIfInBounds_toArray, List.set_cons_zero, List.set_cons_succ]
  clear hS
  obtain ⟨u0, hu0⟩ : ∃ u, u = w2.drew := ⟨_, rfl⟩
  rw [← hu0] at hm ⊢
  clear hu0
  refine anyE_oneL 3 (by kernel_rfl) rfl (fun K' hK' => ?_)
  go_simp
  obtain ⟨u1, hu⟩ : ∃ u, u = u0.alloc (.cells #[.int .i64 0, .int .i64 1] 2) := ⟨_, rfl⟩
  have lx : Below u0.heap.size u0 u1 := by rw [hu]; exact bl1 _ _
  have lA : SL u1 (some ⟨u0.heap.size, 0, none⟩) 2 2 [0, 1] := by rw [hu]; exact litSL2 _ 0 1
  rw [← hu]
  clear hu
  replace hm := bnext hm lx
  refine hK'.out _ _ (F _ hm) ?_
  clear hK' K'
  try simp only [Act.put, List.setIfInBounds_toArray, List.set_cons_zero, List.set_cons_succ]
  refine anyE_oneL 5 (by kernel_rfl) rfl (fun K' hK' => ?_)
  go_simp
  refine (multiply_any _ _ _ _ _ _ _ _ _ _ lA (oq.sl.below hm) (by omega) (by have := hsq.out; omega) hp hp2 (by simp [areB, okN]; omega) hsa).mono ?_
  rintro e u2 ⟨ax, cx, rfl, ox, lx2⟩
  dsimp only
  replace hm := bnext hm lx2
  refine hK'.out _ _ (F _ hm) ?_
  clear hK' K'
  try simp only [Act.put, List.setIfInBounds_toArray, List.set_cons_zero, List.set_cons_succ]
  refine anyE_oneL 6 (by kernel_rfl) rfl (fun K' hK' => ?_)
  go_simp
  refine (apply_ok _ _ _ _ _ _ _ _ _ _ (h2.below hm) ox.sl (by have := hX.out.1; have := hsq.out; omega) (by omega) (by have := hX.out.1; have := hsq.out; omega) hp hp2 (mulM_areB hp _ _) hx).mono ?_
  rintro e u3 ⟨rfl, lx3⟩
  dsimp only
  rw [hX.out.2]
  replace hm := bnext hm lx3
  refine hK'.out _ _ (F _ hm) ?_
  clear hK' K'
  try simp only [Act.put, List.setIfInBounds_toArray, List.set_cons_zero, List.set_cons_succ]
  refine anyE_oneL 8 (by kernel_rfl) rfl (fun K' hK' => ?_)
  go_simp
  rw [hz.out]
  refine (divn_no _ _ ae _ (he.below hm)).mono ?_
  rintro e u4 ⟨rfl, lx4⟩
  exact ⟨rfl, rfl, hB2.trans ((bnext hm lx4).mono hB2.size)⟩
theorem longer_no (p : Int) (a2 : Option Addr) (n2 c2 : Nat) (xs : List Int) (k : Nat) (a : Option Addr) (c : Nat) (b : Option Addr) (d : Nat) (a1 : Option Addr) (c1 : Nat) (ae : Addr) (w : World) (he : ErrV w ae) (h2 : SL w a2 n2 c2 xs) (hf : SL w a1 (k + 1) c1 (opL p xs k)) (hP : primeB p = true) (hx : areB p xs = true) (b2 : n2 ≤ 24) (hk : k ≤ 12) (hno : ¬ Nxt p xs k) :
    Calls Tryd.prog 96 #[mom p a2 n2 c2, jac p a k c b k d, .slice a1 (k + 1) c1] w fun e w' => e = .panicked (chE ae) ∧ Below w.heap.size w w' := by
  have hl := h2.len
  by_cases c1' : n2 < 2 * k + 1
  · exact longer_no1 p a2 n2 c2 xs k a c b d a1 c1 ae w he h2 hf hP hx b2 hk c1'
  by_cases c2' : n2 < 2 * k + 2
  · exact longer_no2 p a2 n2 c2 xs k a c b d a1 c1 ae w he h2 hf hP hx b2 hk (by omega) c2'
  · refine longer_no3 p a2 n2 c2 xs k a c b d a1 c1 ae w he h2 hf hP hx b2 hk (by omega) ?_
    by_cases z : opH p xs k = 0
    · exact z
    · exact absurd ⟨by omega, z⟩ hno
end Go.Proofs.YtdjifjlgllohmaaDoor
