/- Merged texts. -/
import Derived.Test.YtllcgoachgfpjaaYD222
import Derived.Test.YtllcgoachgfpjaaYD220
import Derived.Test.YtllcgoachgfpjaaYD230
/- An append of many numbers onto an owned list, with what stays; regions in which two or three operations may come up. -/
namespace Go.Proofs.Ytllcgoachgfpjaa
open Go.RowKit
set_option linter.unusedVariables false
set_option linter.unusedSimpArgs false

set_option maxRecDepth 100000 in
theorem op_appG {w : World} {o : Oper} {a : Act} {K : Act → World → Prop} {Q : Exit → Act → World → Prop}
    (s x : Operand) (ho : o.op = .call { callee := .builtin .append, args := #[s, x], argTypes := #[22, 22] })
    (B : Nat) (ad : Option Addr) (n cap : Nat) (ys : List Int) (hs : a.eval s = .slice ad n cap) (hn : n = ys.length) (hown : Own B w ad cap ys)
    (ax : Option Addr) (m c : Nat) (zs : List Int) (hx : a.eval x = .slice ax m c) (hz : SL w ax m c zs) (hmax : n + m ≤ 4000000) (hB : B ≤ w.heap.size)
    (hK : ∀ ad' cap' w', Own B w' ad' cap' (ys ++ zs) → w.grownBy w' (blk ad) → (blk ad' = blk ad ∨ blk ad' = some w.heap.size) → K (a.put o.dst (.slice ad' (ys ++ zs).length cap')) w') :
    o.wp Try.prog a w K Q := by
  subst hn
  obtain ⟨i0, hi, hz0, hz1, hz2⟩ := info_parts infoI
  obtain ⟨hl, ⟨hle, hax⟩, hcs⟩ := hz
  cases ax with
  | none =>
    obtain rfl := hax rfl
    obtain rfl : m = 0 := by omega
    obtain rfl : zs = [] := List.eq_nil_of_length_eq_zero hl
    have hrun := run_append_owned_none (P := Try.prog) w B 22 o.type 2 i0 1 Try.underlying22 hi _ _ _ hown
    have hk := hK ad cap w (by simpa using hown) ⟨rfl, rfl, rfl, Nat.le_refl _, fun _ _ _ => rfl⟩ (.inl rfl)
    rw [List.append_nil] at hk
    unfold Oper.wp
    simp only [execOp, ho, resolve, invoke, builtin, Sem.run_bind, Sem.run_pure, Result.andThen_ok, List.map_toArray, List.map_cons, List.map_nil, hs, hx, hrun]
    exact hk
  | some p =>
    have hnews : ∀ j u, (zs.map (Value.int .i64))[j]? = some u → w.cell? (p.add j) = some u := by
      intro j u hj
      have hjz : j < zs.length := by
        have := (List.getElem?_eq_some_iff.1 hj).1
        simpa using this
      rcases hcs with h0 | ⟨b, off, hpe, hcell⟩
      · omega
      · obtain rfl := Option.some.inj hpe
        rw [Addr.add_lit, hcell j (by omega)]
        simpa [hjz] using hj
    have h1 : ∀ u ∈ zs.map (Value.int .i64), u.oneCell' = true := by
      intro u hu
      obtain ⟨_, _, rfl⟩ := List.mem_map.1 hu
      rfl
    obtain ⟨v', w1, hr, hown', hgrow, _, hloc⟩ := run_append_own_at (P := Try.prog) w B 22 o.type 2 i0 (.int .i64 0) 1 8 Try.underlying22 hi hz0 hz1 hz2 rfl (by decide) _ _ _ hown p m c (zs.map (Value.int .i64)) (by simpa using hl) hnews h1 (by unfold maxLen; omega) (by omega) hB
    have hb1 : ∀ (ad : Option Addr) (n c : Nat), (Value.slice ad n c).ownBlock = blk ad := fun ad n c => by cases ad <;> rfl
    rw [hb1] at hgrow hloc
    have hv : ∃ ad' cap', v' = .slice ad' (ys ++ zs).length cap' := by
      rcases hown'.2 with ⟨h1, h2⟩ | ⟨g, c', cur, h1, h2⟩
      · exact ⟨none, 0, by rw [h1]; congr 1; simp; omega⟩
      · exact ⟨_, c', by rw [h1]; congr 1; simp; omega⟩
    obtain ⟨ad', cap', rfl⟩ := hv
    rw [hb1] at hloc
    unfold Oper.wp execOp
    simp only [ho, resolve, invoke, builtin, Sem.run_bind, Sem.run_pure, Result.andThen_ok, List.map_toArray, List.map_cons, List.map_nil, hs, hx, hr]
    refine hK ad' cap' w1 ?_ hgrow hloc
    unfold Own
    have e : (ys ++ zs).length = ys.length + m := by simp; omega
    rw [List.map_append]
    rw [e] at hown' ⊢
    exact hown'
theorem wp_appG {w : World} {ops : Array Oper} {rest : List Oper} {o : Oper} {a : Act} {Q : Exit → Act → World → Prop}
    (hgd : o.guard = none) (s x : Operand) (ho : o.op = .call { callee := .builtin .append, args := #[s, x], argTypes := #[22, 22] })
    (B : Nat) (ad : Option Addr) (n cap : Nat) (ys : List Int) (hs : a.eval s = .slice ad n cap) (hn : n = ys.length) (hown : Own B w ad cap ys)
    (ax : Option Addr) (m c : Nat) (zs : List Int) (hx : a.eval x = .slice ax m c) (hz : SL w ax m c zs) (hmax : n + m ≤ 4000000) (hB : B ≤ w.heap.size)
    (hK : ∀ ad' cap' w', Own B w' ad' cap' (ys ++ zs) → w.grownBy w' (blk ad) → (blk ad' = blk ad ∨ blk ad' = some w.heap.size) → wpList Try.prog ops Q rest (a.put o.dst (.slice ad' (ys ++ zs).length cap')) w') :
    wpList Try.prog ops Q (o :: rest) a w :=
  wpList_plain hgd fun K hK' => op_appG s x ho B ad n cap ys hs hn hown ax m c zs hx hz hmax hB fun ad' cap' w' h1 h2 h3 => hK' _ _ (hK ad' cap' w' h1 h2 h3)
section
variable {P : Program} {Q : Exit → Act → World → Prop} {md : Region.Mode} {S : World → Prop} {L : Nat}
/-- What an operation that comes next owes. -/
def Next (P : Program) (md : Region.Mode) (l : List Oper) (Q : Exit → Act → World → Prop) (S : World → Prop) (L n : Nat) (done : Array Bool) (a : Act) (w : World) (i : Nat) (o : Oper) : Prop :=
  ∀ K : Act → World → Prop, Shut (∀ a w, S w → anyE P md l.toArray Q S L n (done.setIfInBounds i true) a w → K a w) → if Region.wanted o (yielded l.toArray a.tmps) = true then Oper.wp P o a w K Q else K (a.put o.dst undef) w
theorem Next.step {l : List Oper} {n : Nat} {done : Array Bool} {a : Act} {w : World} {i : Nat} {o : Oper} (hi : l[i]? = some o) (h : Next P md l Q S L n done a w i o) :
    wpOp P l.toArray Q i (fun a' w' => (i ≠ L → S w') ∧ anyE P md l.toArray Q S L n (done.setIfInBounds i true) a' w') a w :=
  wpOp_step (by rw [List.getElem?_toArray]; exact hi) fun K hK => h K (fun a w k1 k2 => hK a w ⟨fun _ => k1, k2⟩)
theorem anyE_2L (i j : Nat) {l : List Oper} {oi oj : Oper} {n : Nat} {done : Array Bool} {a : Act} {w : World} (hr : Region.ready md l.toArray done = [i, j]) (hoi : l[i]? = some oi) (hoj : l[j]? = some oj)
    (hi : ∀ K : Act → World → Prop, Shut (∀ a w, S w → anyE P md l.toArray Q S L n (done.setIfInBounds i true) a w → K a w) → if Region.wanted oi (yielded l.toArray a.tmps) = true then Oper.wp P oi a w K Q else K (a.put oi.dst undef) w)
    (hj : ∀ K : Act → World → Prop, Shut (∀ a w, S w → anyE P md l.toArray Q S L n (done.setIfInBounds j true) a w → K a w) → if Region.wanted oj (yielded l.toArray a.tmps) = true then Oper.wp P oj a w K Q else K (a.put oj.dst undef) w) :
    anyE P md l.toArray Q S L (n + 1) done a w := by
  refine ⟨fun h0 => (by rw [h0] at hr; cases hr), fun k hk => ?_⟩
  rw [hr] at hk
  rw [List.mem_cons, List.mem_singleton] at hk
  rcases hk with rfl | rfl
  · exact Next.step hoi hi
  · exact Next.step hoj hj
theorem anyE_3L (i j k : Nat) {l : List Oper} {oi oj ok : Oper} {n : Nat} {done : Array Bool} {a : Act} {w : World} (hr : Region.ready md l.toArray done = [i, j, k]) (hoi : l[i]? = some oi) (hoj : l[j]? = some oj) (hok : l[k]? = some ok)
    (hi : ∀ K : Act → World → Prop, Shut (∀ a w, S w → anyE P md l.toArray Q S L n (done.setIfInBounds i true) a w → K a w) → if Region.wanted oi (yielded l.toArray a.tmps) = true then Oper.wp P oi a w K Q else K (a.put oi.dst undef) w)
    (hj : ∀ K : Act → World → Prop, Shut (∀ a w, S w → anyE P md l.toArray Q S L n (done.setIfInBounds j true) a w → K a w) → if Region.wanted oj (yielded l.toArray a.tmps) = true then Oper.wp P oj a w K Q else K (a.put oj.dst undef) w)
    (hk : ∀ K : Act → World → Prop, Shut (∀ a w, S w → anyE P md l.toArray Q S L n (done.setIfInBounds k true) a w → K a w) → if Region.wanted ok (yielded l.toArray a.tmps) = true then Oper.wp P ok a w K Q else K (a.put ok.dst undef) w) :
    anyE P md l.toArray Q S L (n + 1) done a w := by
  refine ⟨fun h0 => (by rw [h0] at hr; cases hr), fun q hq => ?_⟩
  rw [hr] at hq
  rw [List.mem_cons, List.mem_cons, List.mem_singleton] at hq
  rcases hq with rfl | rfl | rfl
  · exact Next.step hoi hi
  · exact Next.step hoj hj
  · exact Next.step hok hk
end
end Go.Proofs.Ytllcgoachgfpjaa
/- Contract: StepBack (program). -/
namespace Go.Proofs.Ytllcgoachgfpjaa
open Go.RowKit
set_option linter.unusedVariables false
set_option linter.unusedSimpArgs false

theorem step_appG {w : World} {ops : Array Oper} {o : Oper} {a : Act} {K : Act → World → Prop} {Q : Exit → Act → World → Prop} {E : Prop}
    (hgd : o.guard = none) (s x : Operand) (ho : o.op = .call { callee := .builtin .append, args := #[s, x], argTypes := #[22, 22] })
    (B : Nat) (ad : Option Addr) (n cap : Nat) (ys : List Int) (hs : a.eval s = .slice ad n cap) (hn : n = ys.length) (hown : Own B w ad cap ys)
    (ax : Option Addr) (m c : Nat) (zs : List Int) (hx : a.eval x = .slice ax m c) (hz : SL w ax m c zs) (hmax : n + m ≤ 4000000) (hB : B ≤ w.heap.size)
    (hK : ∀ ad' cap' w', Own B w' ad' cap' (ys ++ zs) → w.grownBy w' (blk ad) → (blk ad' = blk ad ∨ blk ad' = some w.heap.size) → K (a.put o.dst (.slice ad' (ys ++ zs).length cap')) w') :
    if Region.wanted o (yielded ops a.tmps) = true then Oper.wp Try.prog o a w K Q else E := by
  have hw : Region.wanted o (yielded ops a.tmps) = true := by simp [Region.wanted, hgd]
  rw [if_pos hw]
  exact op_appG s x ho B ad n cap ys hs hn hown ax m c zs hx hz hmax hB hK
theorem own_lit2 (w : World) (y z : Int) : Own w.heap.size (w.alloc (.cells #[.int .i64 y, .int .i64 z] 2)) (some ⟨w.heap.size, 0, none⟩) 2 [y, z] :=
  World.ownsRow_lit w (base := w.heap.size) (e := 2) (size := 1) #[.int .i64 y, .int .i64 z] 2 (Nat.le_refl _) (by decide) rfl
set_option maxRecDepth 100000 in
set_option maxHeartbeats 6400000 in
theorem implStepBack (p : Int) (a : Option Addr) (n c : Nat) (xs : List Int) (b : Option Addr) (m d : Nat) (ys : List Int) (x q : Int) (w : World) (hs : SL w a n c xs) (ht : SL w b m d ys) (hn : n ≤ 4000000) (hm : m ≤ 4000000) :
    Calls Try.prog 34 #[jac p a n c b m d, .int .i64 x, .int .i64 q] w (ResJ w (sbkP p xs ys x q) (sbkV p xs ys x q) (sbkU p xs ys x q) (sbkC p xs ys x q)) := by
  have hl := hide hs.len
  have hl2 := hide ht.len
  have hb0 := bl2 w (.cells #[.int .i64 p, .slice a n c, .slice b m d] 38) (.cells #[.int .i64 0, .slice none 0 0, .slice none 0 0] 38)
  have g1 := hs.below hb0
  have g2 := ht.below hb0
  cases hj : jacB p xs ys
  · have HC := hide (show sbkC p xs ys x q = 1 by simp [sbkC, hj])
    have HE := hide (sbk_err HC.out (by decide))
    have Hj := hide hj
    clear hj
    go_enter Try.func34, Try.ntmps34
    go_wp2_with fail
    refine (checkJacobi_any _ _ _ _ _ _ _ _ _ _ _ _ 1 _ g1 g2 hn hm (by simp [jcd, Hj.out])).mono ?_
    rintro e w2 ⟨rfl, hb1⟩
    have f0 : w2.cell? ⟨w.heap.size, 0, none⟩ = some (.int .i64 p) := cell_be hb1 (by simp [go_sem])
    have f1 : w2.cell? ⟨w.heap.size, 1, none⟩ = some (.slice a n c) := cell_be hb1 (by simp [go_sem])
    have f2 : w2.cell? ⟨w.heap.size, 2, none⟩ = some (.slice b m d) := cell_be hb1 (by simp [go_sem])
    have r0 : w2.cell? ⟨w.heap.size + 1, 0, none⟩ = some (.int .i64 0) := cell_be hb1 (by simp [go_sem])
    have r1 : w2.cell? ⟨w.heap.size + 1, 1, none⟩ = some (.slice none 0 0) := cell_be hb1 (by simp [go_sem])
    have r2 : w2.cell? ⟨w.heap.size + 1, 2, none⟩ = some (.slice none 0 0) := cell_be hb1 (by simp [go_sem])
    have y0 : w2.frozen? ⟨w.heap.size + 1, 0, none⟩ = false := (hb1.frozen (by simp)).trans (by simp [go_sem])
    have y1 : w2.frozen? ⟨w.heap.size + 1, 1, none⟩ = false := (hb1.frozen (by simp)).trans (by simp [go_sem])
    have y2 : w2.frozen? ⟨w.heap.size + 1, 2, none⟩ = false := (hb1.frozen (by simp)).trans (by simp [go_sem])
    have hB2 := bnext hb0 hb1
    go_wp2
    refine bodyPost_ret (v := .tuple #[jac 0 none 0 0 none 0 0, .int .i64 1]) (by simp [results, Try.results34, go_sem, r0, r1, r2]) rfl ?_
    exact ResJ.nil HE.out.1 HE.out.2.1 HE.out.2.2 HC.out (((hB2.setCell (by simp) _).setCell (by simp) _).setCell (by simp) _)
  have Hj := hide hj
  obtain ⟨hpr, n1, n2, n3, hx, hy⟩ := jacB_rng hj
  obtain ⟨hp, hp2⟩ := primeB_lo hpr
  rw [hl.out] at n1 n2 n3
  rw [hl2.out] at n3
  subst n3
  have vp : IntKind.i64.wrap (p - 1) = p - 1 := IntWalk.i64_in _ (by omega)
  by_cases hr : 0 ≤ x ∧ x ≤ p - 1
  rotate_left
  · have HC := hide (show sbkC p xs ys x q = 2 by simp only [sbkC, hj, if_true]; rw [if_neg (fun h => hr h.1)])
    have HE := hide (sbk_err HC.out (by decide))
    have HR := hide (show jcd p xs ys x 0 (p - 1) = 2 by simp only [jcd, hj, if_true]; rw [if_neg hr])
    clear hj hr hx hy
    go_enter Try.func34, Try.ntmps34
    go_wp2_with fail
    refine (checkJacobi_any _ _ _ _ _ _ _ _ _ _ _ _ 2 _ g1 g2 hn hm HR.out).mono ?_
    rintro e w2 ⟨rfl, hb1⟩
    have f0 : w2.cell? ⟨w.heap.size, 0, none⟩ = some (.int .i64 p) := cell_be hb1 (by simp [go_sem])
    have f1 : w2.cell? ⟨w.heap.size, 1, none⟩ = some (.slice a m c) := cell_be hb1 (by simp [go_sem])
    have f2 : w2.cell? ⟨w.heap.size, 2, none⟩ = some (.slice b m d) := cell_be hb1 (by simp [go_sem])
    have r0 : w2.cell? ⟨w.heap.size + 1, 0, none⟩ = some (.int .i64 0) := cell_be hb1 (by simp [go_sem])
    have r1 : w2.cell? ⟨w.heap.size + 1, 1, none⟩ = some (.slice none 0 0) := cell_be hb1 (by simp [go_sem])
    have r2 : w2.cell? ⟨w.heap.size + 1, 2, none⟩ = some (.slice none 0 0) := cell_be hb1 (by simp [go_sem])
    have y0 : w2.frozen? ⟨w.heap.size + 1, 0, none⟩ = false := (hb1.frozen (by simp)).trans (by simp [go_sem])
    have y1 : w2.frozen? ⟨w.heap.size + 1, 1, none⟩ = false := (hb1.frozen (by simp)).trans (by simp [go_sem])
    have y2 : w2.frozen? ⟨w.heap.size + 1, 2, none⟩ = false := (hb1.frozen (by simp)).trans (by simp [go_sem])
    have hB2 := bnext hb0 hb1
    go_wp2
    refine bodyPost_ret (v := .tuple #[jac 0 none 0 0 none 0 0, .int .i64 2]) (by simp [results, Try.results34, go_sem, r0, r1, r2]) rfl ?_
    exact ResJ.nil HE.out.1 HE.out.2.1 HE.out.2.2 HC.out (((hB2.setCell (by simp) _).setCell (by simp) _).setCell (by simp) _)
  have HR := hide (show jcd p xs ys x 0 (p - 1) = 0 by simp only [jcd, hj, if_true]; rw [if_pos hr])
  by_cases hq : 0 ≤ q ∧ q < p
  rotate_left
  · have HC := hide (show sbkC p xs ys x q = 2 by simp only [sbkC, hj, if_true]; rw [if_neg (fun h => hq (by omega))])
    have HE := hide (sbk_err HC.out (by decide))
    have Hq := hide hq
    clear hj hr hx hy hq
    go_enter Try.func34, Try.ntmps34
    go_wp2_with fail
    refine (checkJacobi_any _ _ _ _ _ _ _ _ _ _ _ _ 0 _ g1 g2 hn hm HR.out).mono ?_
    rintro e w2 ⟨rfl, hb1⟩
    have f0 : w2.cell? ⟨w.heap.size, 0, none⟩ = some (.int .i64 p) := cell_be hb1 (by simp [go_sem])
    have f1 : w2.cell? ⟨w.heap.size, 1, none⟩ = some (.slice a m c) := cell_be hb1 (by simp [go_sem])
    have f2 : w2.cell? ⟨w.heap.size, 2, none⟩ = some (.slice b m d) := cell_be hb1 (by simp [go_sem])
    have r0 : w2.cell? ⟨w.heap.size + 1, 0, none⟩ = some (.int .i64 0) := cell_be hb1 (by simp [go_sem])
    have r1 : w2.cell? ⟨w.heap.size + 1, 1, none⟩ = some (.slice none 0 0) := cell_be hb1 (by simp [go_sem])
    have r2 : w2.cell? ⟨w.heap.size + 1, 2, none⟩ = some (.slice none 0 0) := cell_be hb1 (by simp [go_sem])
    have y0 : w2.frozen? ⟨w.heap.size + 1, 0, none⟩ = false := (hb1.frozen (by simp)).trans (by simp [go_sem])
    have y1 : w2.frozen? ⟨w.heap.size + 1, 1, none⟩ = false := (hb1.frozen (by simp)).trans (by simp [go_sem])
    have y2 : w2.frozen? ⟨w.heap.size + 1, 2, none⟩ = false := (hb1.frozen (by simp)).trans (by simp [go_sem])
    have hB2 := bnext hb0 hb1
    go_wp2_with fail
    refine (isNumber_no _ _ _ Hq.out).mono ?_
    rintro e w1' ⟨rfl, rfl⟩
    go_wp2
    refine bodyPost_ret (v := .tuple #[jac 0 none 0 0 none 0 0, .int .i64 2]) (by simp [results, Try.results34, go_sem, r0, r1, r2]) rfl ?_
    exact ResJ.nil HE.out.1 HE.out.2.1 HE.out.2.2 HC.out (((hB2.setCell (by simp) _).setCell (by simp) _).setCell (by simp) _)
  by_cases hq0 : q = 0
  · have HC := hide (show sbkC p xs ys x q = 2 by simp only [sbkC, hj, if_true]; rw [if_neg (fun h => by omega)])
    have HE := hide (sbk_err HC.out (by decide))
    have Hq := hide hq
    have ob : (q == 0) = true := by simp [hq0]
    clear hj hr hx hy hq hq0
    go_enter Try.func34, Try.ntmps34
    go_wp2_with fail
    refine (checkJacobi_any _ _ _ _ _ _ _ _ _ _ _ _ 0 _ g1 g2 hn hm HR.out).mono ?_
    rintro e w2 ⟨rfl, hb1⟩
    have f0 : w2.cell? ⟨w.heap.size, 0, none⟩ = some (.int .i64 p) := cell_be hb1 (by simp [go_sem])
    have f1 : w2.cell? ⟨w.heap.size, 1, none⟩ = some (.slice a m c) := cell_be hb1 (by simp [go_sem])
    have f2 : w2.cell? ⟨w.heap.size, 2, none⟩ = some (.slice b m d) := cell_be hb1 (by simp [go_sem])
    have r0 : w2.cell? ⟨w.heap.size + 1, 0, none⟩ = some (.int .i64 0) := cell_be hb1 (by simp [go_sem])
    have r1 : w2.cell? ⟨w.heap.size + 1, 1, none⟩ = some (.slice none 0 0) := cell_be hb1 (by simp [go_sem])
    have r2 : w2.cell? ⟨w.heap.size + 1, 2, none⟩ = some (.slice none 0 0) := cell_be hb1 (by simp [go_sem])
    have y0 : w2.frozen? ⟨w.heap.size + 1, 0, none⟩ = false := (hb1.frozen (by simp)).trans (by simp [go_sem])
    have y1 : w2.frozen? ⟨w.heap.size + 1, 1, none⟩ = false := (hb1.frozen (by simp)).trans (by simp [go_sem])
    have y2 : w2.frozen? ⟨w.heap.size + 1, 2, none⟩ = false := (hb1.frozen (by simp)).trans (by simp [go_sem])
    have hB2 := bnext hb0 hb1
    go_wp2_with fail
    refine (isNumber_yes _ _ _ Hq.out.1 Hq.out.2).mono ?_
    rintro e w1' ⟨rfl, rfl⟩
    go_wp2
    refine bodyPost_ret (v := .tuple #[jac 0 none 0 0 none 0 0, .int .i64 2]) (by simp [results, Try.results34, go_sem, r0, r1, r2]) rfl ?_
    exact ResJ.nil HE.out.1 HE.out.2.1 HE.out.2.2 HC.out (((hB2.setCell (by simp) _).setCell (by simp) _).setCell (by simp) _)
  have ob : (q == 0) = false := by simp [hq0]
  have q0 : 1 ≤ q := by omega
  have q1 : q < p := hq.2
  have q2 : 0 ≤ q := hq.1
  obtain ⟨x0, x1⟩ := hr
  have HCC := hide (show sbkC p xs ys x q = if dqB p xs ys x q (m - 1) then 0 else 5 by simp only [sbkC, hj, if_true, hl.out]; rw [if_pos (by omega)])
  have DB := hide (dqB_less p xs ys x q m hl.out (m - 1) (by omega))
  have DV := hide (dqV_less p xs ys x q m hl.out (m - 1) (by omega))
  have HX := hide hx
  have HY := hide (posB_are hy)
  have HP := hide hy
  have AX := hide (show areB p (tab m (afA p 1 (opp p x) xs m)) = true from areB_mk fun j hj => by
    rw [tab_len] at hj
    rw [tab_at _ _ _ hj]
    unfold afA
    rw [if_pos hj]
    exact modb hp)
  have Hpr := hide hpr
  obtain ⟨bb, bo, rfl, hbw, hcc⟩ := ht.at (show 0 < m by omega)
  have hY0 : w.cell? ⟨bb, bo, none⟩ = some (.int .i64 (ys.getD 0 0)) := hcc 0 (by omega)
  clear hj hq hq0 hx hy hpr hcc
  go_enter Try.func34, Try.ntmps34
  go_wp2_with fail
  refine (checkJacobi_any _ _ _ _ _ _ _ _ _ _ _ _ 0 _ g1 g2 hn hm HR.out).mono ?_
  rintro e w1 ⟨rfl, hb1⟩
  have f0 : w1.cell? ⟨w.heap.size, 0, none⟩ = some (.int .i64 p) := cell_be hb1 (by simp [go_sem])
  have f1 : w1.cell? ⟨w.heap.size, 1, none⟩ = some (.slice a m c) := cell_be hb1 (by simp [go_sem])
  have f2 : w1.cell? ⟨w.heap.size, 2, none⟩ = some (.slice (some ⟨bb, bo, none⟩) m d) := cell_be hb1 (by simp [go_sem])
  have r0 : w1.cell? ⟨w.heap.size + 1, 0, none⟩ = some (.int .i64 0) := cell_be hb1 (by simp [go_sem])
  have r1 : w1.cell? ⟨w.heap.size + 1, 1, none⟩ = some (.slice none 0 0) := cell_be hb1 (by simp [go_sem])
  have r2 : w1.cell? ⟨w.heap.size + 1, 2, none⟩ = some (.slice none 0 0) := cell_be hb1 (by simp [go_sem])
  have y0 : w1.frozen? ⟨w.heap.size + 1, 0, none⟩ = false := (hb1.frozen (by simp)).trans (by simp [go_sem])
  have y1 : w1.frozen? ⟨w.heap.size + 1, 1, none⟩ = false := (hb1.frozen (by simp)).trans (by simp [go_sem])
  have y2 : w1.frozen? ⟨w.heap.size + 1, 2, none⟩ = false := (hb1.frozen (by simp)).trans (by simp [go_sem])
  have hB1 := bnext hb0 hb1
  have z1 := hb1.size
  simp at z1
  go_wp2_with fail
  refine (isNumber_yes _ _ _ q2 q1).mono ?_
  rintro e w1' ⟨rfl, rfl⟩
  go_wp2_with fail
  refine (lessNumber_any p _ _ _ xs _ _ ys x _ (g1.below hb1) (g2.below hb1) Hj.out x0 (by omega)).mono ?_
  rintro e w2 ⟨a2, c2, b2, d2, rfl, o2, t2⟩
  replace y0 := (t2.frozen (World.block_lt_of_cell? _ _ r0)).trans y0
  replace y1 := (t2.frozen (World.block_lt_of_cell? _ _ r1)).trans y1
  replace y2 := (t2.frozen (World.block_lt_of_cell? _ _ r2)).trans y2
  replace f0 := cell_be t2 f0
  replace f1 := cell_be t2 f1
  replace f2 := cell_be t2 f2
  replace r0 := cell_be t2 r0
  replace r1 := cell_be t2 r1
  replace r2 := cell_be t2 r2
  have hB2 := bnext hB1 t2
  have z2 := t2.size
  go_wp2_with fail
  refine (diff_any p _ _ _ (tab m (afA p 1 (opp p x) xs m)) _ _ ys q _ o2.sl1 o2.sl2 hp hp2 AX.out HY.out n1 n2 q2 q1).mono ?_
  rw [DB.out, DV.out]
  rintro e w3 ⟨t3, hcs⟩
  replace y0 := (t3.frozen (World.block_lt_of_cell? _ _ r0)).trans y0
  replace y1 := (t3.frozen (World.block_lt_of_cell? _ _ r1)).trans y1
  replace y2 := (t3.frozen (World.block_lt_of_cell? _ _ r2)).trans y2
  replace f0 := cell_be t3 f0
  replace f1 := cell_be t3 f1
  replace f2 := cell_be t3 f2
  replace r0 := cell_be t3 r0
  replace r1 := cell_be t3 r1
  replace r2 := cell_be t3 r2
  have hB3 := bnext hB2 t3
  have z3 := t3.size
  rcases hcs with ⟨hdq, a3, c3, rfl, o3⟩ | ⟨hdq, rfl⟩
  rotate_left
  · have HC := hide (show sbkC p xs ys x q = 5 by rw [HCC.out, hdq]; rfl)
    have HE := hide (sbk_err HC.out (by decide))
    clear hdq
    go_wp2
    refine bodyPost_ret (v := .tuple #[jac 0 none 0 0 none 0 0, .int .i64 5]) (by simp [results, Try.results34, go_sem, r0, r1, r2]) rfl ?_
    exact ResJ.nil HE.out.1 HE.out.2.1 HE.out.2.2 HC.out (((hB3.setCell (by simp) _).setCell (by simp) _).setCell (by simp) _)
  have HC := hide (show sbkC p xs ys x q = 0 by rw [HCC.out, hdq]; rfl)
  have HV := hide (show sbkV p xs ys x q = tab m (sbA p xs ys x q) by rw [sbkV, if_pos HC.out, hl.out])
  have HU := hide (show sbkU p xs ys x q = tab m (sbB p xs ys x q) by rw [sbkU, if_pos HC.out, hl.out])
  have HQ := hide (show sbkP p xs ys x q = p by rw [sbkP, if_pos HC.out])
  have HJ := hide (sbk_jos (c := x) Hpr.out hl.out hl2.out n1 n2 HP.out q0 q1 hdq)
  clear hdq
  have rY := getD_rng HY.out hp 0
  have hTd := hide (show sbT p xs ys x q m = [ys.getD 0 0 * invM p q % p, q] ++ dqV p xs ys x q (m - 1) from rfl)
  have hTl := hide (sbT_len p xs ys x q m n1)
  have kY := cell_be hB3 hY0
  obtain ⟨y, hyy⟩ : ∃ y, ys.getD 0 0 = y := ⟨_, rfl⟩
  rw [hyy] at rY hTd kY
  have rI := invM_rng q hp
  obtain ⟨I, hI⟩ : ∃ I, invM p q = I := ⟨_, rfl⟩
  have HI := hide hI
  rw [hI] at rI hTd
  obtain ⟨m1, m2⟩ := mulb rY.1 rY.2 rI.1 rI.2 hp2
  have v1 : IntKind.i64.wrap (y * I) = y * I := IntWalk.i64_in _ (by omega)
  have v2 : (y * I).tmod p = y * I % p := Int.tmod_eq_emod_of_nonneg m1
  have rN := modb (x := y * I) hp
  obtain ⟨N, hN⟩ : ∃ N, y * I % p = N := ⟨_, rfl⟩
  rw [hN] at v2 rN hTd
  have v3 : IntKind.i64.wrap N = N := IntWalk.i64_in _ (by omega)
  have hp0 : ¬ p = 0 := by omega
  have i0 : (0 : Int) < (m : Int) := by omega
  have i1 : 0 < m := by omega
  obtain ⟨T, hT⟩ : ∃ T, sbT p xs ys x q m = T := ⟨_, rfl⟩
  rw [hT] at hTd hTl HJ
  obtain ⟨V, hV⟩ : ∃ V, dqV p xs ys x q (m - 1) = V := ⟨_, rfl⟩
  have hVl := hide (show V.length = 2 * (m - 1) by rw [← hV, dqV_len])
  rw [hV] at hTd o3
  clear hyy hI hN hT hV hY0
  have hbd := (Below.refl w3.heap.size w3).drew
  go_upto_region 10 with fail
  refine region_E (fun v => v.cell? ⟨w.heap.size, 2, none⟩ = some (.slice (some ⟨bb, bo, none⟩) m d) ∧ v.cell? ⟨bb, bo, none⟩ = some (.int .i64 y)) 14 (by kernel_rfl) ⟨cell_be hbd f2, cell_be hbd kY⟩ ?_
  intro hS
  refine anyE_takeL 0 rfl (by kernel_rfl) (fun _ _ _ h => h) hS (by rfl) (v := ?_) ?_ ?_
  rotate_left
  · intro w' hSw; (try dsimp only at hSw); go_simp; (try with_reducible rfl)
  try simp only [Act.put, List.setIfInBounds_toArray, List.set_cons_zero, List.set_cons_succ]
  refine anyE_takeL 1 rfl (by kernel_rfl) (fun _ _ _ h => h) hS (by rfl) (v := ?_) ?_ ?_
  rotate_left
  · intro w' hSw; (try dsimp only at hSw); go_simp; (try with_reducible rfl)
  try simp only [Act.put, List.setIfInBounds_toArray, List.set_cons_zero, List.set_cons_succ]
  refine anyE_takeL 2 rfl (by kernel_rfl) (fun _ _ _ h => h) hS (by rfl) (v := ?_) ?_ ?_
  rotate_left
  · intro w' hSw; (try dsimp only at hSw); go_simp; (try with_reducible rfl)
  try simp only [Act.put, List.setIfInBounds_toArray, List.set_cons_zero, List.set_cons_succ]
  refine anyE_takeL 3 rfl (by kernel_rfl) (fun _ _ _ h => h) hS (by rfl) (v := ?_) ?_ ?_
  rotate_left
  · intro w' hSw; (try dsimp only at hSw); go_simp; (try with_reducible rfl)
  try simp only [Act.put, List.setIfInBounds_toArray, List.set_cons_zero, List.set_cons_succ]
  refine anyE_takeL 4 rfl (by kernel_rfl) (fun _ _ _ h => h) hS (by rfl) (v := ?_) ?_ ?_
  rotate_left
  · intro w' hSw; (try dsimp only at hSw); go_simp; (try with_reducible rfl)
  try simp only [Act.put, List.setIfInBounds_toArray, List.set_cons_zero, List.set_cons_succ]
  refine anyE_takeL 5 rfl (by kernel_rfl) (fun _ _ _ h => h) hS (by rfl) (v := ?_) ?_ ?_
  rotate_left
  · intro w' hSw; (try dsimp only at hSw); go_simp; (try with_reducible rfl)
  try simp only [Act.put, List.setIfInBounds_toArray, List.set_cons_zero, List.set_cons_succ]
  refine anyE_takeL 8 rfl (by kernel_rfl) (fun _ _ _ h => h) hS (by rfl) (v := ?_) ?_ ?_
  rotate_left
  · intro w' hSw; (try dsimp only at hSw); go_simp; (try with_reducible rfl)
  try simp only [Act.put, List.setIfInBounds_toArray, List.set_cons_zero, List.set_cons_succ]
  refine anyE_takeL 10 rfl (by kernel_rfl) (fun _ _ _ h => h) hS (by rfl) (v := ?_) ?_ ?_
  rotate_left
  · intro w' hSw; (try dsimp only at hSw); go_simp; (try with_reducible rfl)
  try simp only [Act.put, List.setIfInBounds_toArray, List.set_cons_zero, List.set_cons_succ]
  refine anyE_takeL 12 rfl (by kernel_rfl) (fun _ _ _ h => h) hS (by rfl) (v := ?_) ?_ ?_
  rotate_left
  · intro w' hSw; (try dsimp only at hSw); go_simp; (try with_reducible rfl)
  try simp only [Act.put, List.setIfInBounds_toArray, List.set_cons_zero, List.set_cons_succ]
  refine anyE_oneL 6 (by kernel_rfl) rfl (fun K hK => ?_)
  go_simp
  refine (inverse_any p q _ hp hp2 q2 q1).mono ?_
  rintro e w4 ⟨rfl, t4'⟩
  rw [HI.out]
  dsimp only
  have t4 := bnext hbd t4'
  have S4 := And.intro (cell_be t4 f2) (cell_be t4 kY)
  refine hK.out _ _ S4 ?_
  clear hK K hS
  try simp only [Act.put, List.setIfInBounds_toArray, List.set_cons_zero, List.set_cons_succ]
  refine anyE_takeL 7 rfl (by kernel_rfl) (fun _ _ _ h => h) S4 (by rfl) (v := ?_) ?_ ?_
  rotate_left
  · intro w' hSw; (try dsimp only at hSw); go_simp; (try with_reducible rfl)
  try simp only [Act.put, List.setIfInBounds_toArray, List.set_cons_zero, List.set_cons_succ]
  refine anyE_takeL 9 rfl (by kernel_rfl) (fun _ _ _ h => h) S4 (by rfl) (v := ?_) ?_ ?_
  rotate_left
  · intro w' hSw; (try dsimp only at hSw); go_simp; (try with_reducible rfl)
  try simp only [Act.put, List.setIfInBounds_toArray, List.set_cons_zero, List.set_cons_succ]
  refine anyE_oneL 11 (by kernel_rfl) rfl (fun K hK => ?_)
  go_simp
  have t5 := bl1 w4 (.cells #[.int .i64 N, .int .i64 q] 2)
  have S5 := And.intro (cell_be t5 S4.1) (cell_be t5 S4.2)
  refine hK.out _ _ S5 ?_
  clear hK K
  try simp only [Act.put, List.setIfInBounds_toArray, List.set_cons_zero, List.set_cons_succ]
  have s5 := ((o3.below t4).below t5).sl
  rw [hVl.out] at s5
  have z4 := t4.size
  refine anyE_oneL 13 (by kernel_rfl) rfl (fun K hK => ?_)
  refine step_appG (by rfl) _ _ (by rfl) w4.heap.size _ 2 _ [N, q] (by rfl) rfl (own_lit2 w4 N q) _ (2 * (m - 1)) _ V (by rfl) s5 (by omega) (by first | (simp; done) | (simp; omega)) ?_
  intro ad' cap' w6 hown' hgr hloc
  have t6 : Below w4.heap.size w4 w6 := (bl1 w4 _).grown hgr (by first | (simp; done) | (simp; omega)) (own_blk_ge (own_lit2 w4 N q))
  have S6 := And.intro (cell_be t6 S4.1) (cell_be t6 S4.2)
  refine hK.out _ _ S6 ?_
  clear hK K S4 S5 S6
  try simp only [Act.put, List.setIfInBounds_toArray, List.set_cons_zero, List.set_cons_succ]
  refine anyE_lastL (by kernel_rfl) rfl (by kernel_rfl) (fun K hK => ?_)
  go_simp
  refine hK.out _ _ ?_
  clear hK K
  try simp only [Act.put, List.setIfInBounds_toArray, List.set_cons_zero, List.set_cons_succ]
  have t46 := t4.trans (t6.mono z4)
  replace y0 := (t46.frozen (World.block_lt_of_cell? _ _ r0)).trans y0
  replace y1 := (t46.frozen (World.block_lt_of_cell? _ _ r1)).trans y1
  replace y2 := (t46.frozen (World.block_lt_of_cell? _ _ r2)).trans y2
  replace f0 := cell_be t46 f0
  replace f1 := cell_be t46 f1
  replace f2 := cell_be t46 f2
  replace r0 := cell_be t46 r0
  replace r1 := cell_be t46 r1
  replace r2 := cell_be t46 r2
  have hB6 := bnext hB3 t46
  have z6 := t46.size
  have sT : SL w6 ad' (V.length + 1 + 1) cap' T := by rw [hTd.out]; simpa using hown'.sl
  have hlT : V.length + 1 + 1 ≤ 4000000 := by have := hVl.out; omega
  clear t4 t4' t5 t6 t46 hgr hloc hown' s5 kY v1 v2 v3 hbd
  go_wp2_with fail
  refine (implJacobiOfSteps p _ _ _ T _ sT hlT).mono ?_
  rintro e w7 ⟨a7, c7, b7, d7, rfl, o7, _, t7⟩
  replace y0 := (t7.frozen (World.block_lt_of_cell? _ _ r0)).trans y0
  replace y1 := (t7.frozen (World.block_lt_of_cell? _ _ r1)).trans y1
  replace y2 := (t7.frozen (World.block_lt_of_cell? _ _ r2)).trans y2
  replace f0 := cell_be t7 f0
  replace f1 := cell_be t7 f1
  replace f2 := cell_be t7 f2
  replace r0 := cell_be t7 r0
  replace r1 := cell_be t7 r1
  replace r2 := cell_be t7 r2
  have hB7 := bnext hB6 t7
  have z7 := t7.size
  have K7 := hide HJ.out
  rw [K7.out.2.1, K7.out.2.2.1, tab_len, tab_len] at o7
  rw [K7.out.1, K7.out.2.1, K7.out.2.2.1, K7.out.2.2.2.1, tab_len, tab_len]
  have t8 := bl1 w7 (.cells #[.int .i64 p, .slice a7 m c7, .slice b7 m d7] 38)
  replace y0 := (t8.frozen (World.block_lt_of_cell? _ _ r0)).trans y0
  replace y1 := (t8.frozen (World.block_lt_of_cell? _ _ r1)).trans y1
  replace y2 := (t8.frozen (World.block_lt_of_cell? _ _ r2)).trans y2
  replace f0 := cell_be t8 f0
  replace f1 := cell_be t8 f1
  replace f2 := cell_be t8 f2
  replace r0 := cell_be t8 r0
  replace r1 := cell_be t8 r1
  replace r2 := cell_be t8 r2
  have hB8 := bnext hB7 t8
  have q8a : (w7.alloc (.cells #[.int .i64 p, .slice a7 m c7, .slice b7 m d7] 38)).cell? ⟨w7.heap.size, 0, none⟩ = some (.int .i64 p) := by simp [go_sem]
  have q8b : (w7.alloc (.cells #[.int .i64 p, .slice a7 m c7, .slice b7 m d7] 38)).cell? ⟨w7.heap.size, 1, none⟩ = some (.slice a7 m c7) := by simp [go_sem]
  have q8c : (w7.alloc (.cells #[.int .i64 p, .slice a7 m c7, .slice b7 m d7] 38)).cell? ⟨w7.heap.size, 2, none⟩ = some (.slice b7 m d7) := by simp [go_sem]
  have u1 := o7.sl1.below t8
  have u2 := o7.sl2.below t8
  go_wp2_with fail
  refine (affine_ok p _ m _ (tab m (jsA p T)) _ _ (tab m (jsB p T)) 1 x _ u1 u2 K7.out.2.2.2.2.1 (by omega) (by omega) x0 (by omega)).mono ?_
  rintro e w9 ⟨a9, c9, b9, d9, rfl, o9, t9⟩
  replace y0 := (t9.frozen (World.block_lt_of_cell? _ _ r0)).trans y0
  replace y1 := (t9.frozen (World.block_lt_of_cell? _ _ r1)).trans y1
  replace y2 := (t9.frozen (World.block_lt_of_cell? _ _ r2)).trans y2
  replace f0 := cell_be t9 f0
  replace f1 := cell_be t9 f1
  replace f2 := cell_be t9 f2
  replace r0 := cell_be t9 r0
  replace r1 := cell_be t9 r1
  replace r2 := cell_be t9 r2
  have hB9 := bnext hB8 t9
  have z8 := t8.size
  rw [K7.out.2.2.2.2.2.1, K7.out.2.2.2.2.2.2] at o9
  clear q8a q8b q8c u1 u2 f0 f1 f2 t7 t8 t9
  go_wp2
  refine bodyPost_ret (v := .tuple #[jac p a9 m c9 b9 m d9, .int .i64 0]) (by simp [results, Try.results34, go_sem, r0, r1, r2]) rfl ?_
  have o9z := (((o9.setLow (x := ⟨w.heap.size + 1, 0, none⟩) (by simp; omega) (.int .i64 p)).setLow (x := ⟨w.heap.size + 1, 1, none⟩) (by simp; omega) (.slice a9 m c9)).setLow (x := ⟨w.heap.size + 1, 2, none⟩) (by simp; omega) (.slice b9 m d9))
  exact ResJ.mk HQ.out HC.out (by rw [HV.out, tab_len]) (by rw [HU.out, tab_len]) (by rw [HV.out, HU.out]; simpa using o9z.mono (lo' := w.heap.size) (by simp; omega) (Nat.le_refl _)) (by rw [HV.out, tab_len]; omega) (by rw [HU.out, tab_len]; omega) (((hB9.setCell (by simp) _).setCell (by simp) _).setCell (by simp) _)
end Go.Proofs.Ytllcgoachgfpjaa
