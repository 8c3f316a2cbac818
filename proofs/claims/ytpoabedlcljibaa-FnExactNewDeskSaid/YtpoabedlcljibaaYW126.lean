/- Merged texts. -/
import Derived.Test.YtpoabedlcljibaaYW118
import Derived.Test.YtpoabedlcljibaaYW16
import Derived.Test.YtpoabedlcljibaaYW112
import Derived.IntWalk
import Derived.Test.YtpoabedlcljibaaYW124
import Derived.Test.YtpoabedlcljibaaYW122
/- Contracts: addNumber, functional at numbers, l02Apply, checkFunctional, l02Code, ApplyFunctional (program and model). -/
namespace Go.Proofs.Ytpoabedlcljibaa
open Go.RowKit
set_option linter.unusedVariables false
set_option linter.unusedSimpArgs false

set_option maxHeartbeats 400000 in
theorem addNumber_any (p s k x : Int) (w : World) (hp : 2 ≤ p) (hp2 : p ≤ 10007) (hs : 0 ≤ s) (hs2 : s < p) (hk : 0 ≤ k) (hk2 : k < p) (hx : 0 ≤ x) (hx2 : x < p) :
    Calls Try.prog 81 #[.int .i64 p, .int .i64 s, .int .i64 k, .int .i64 x] w fun e w' => e = .returned (.int .i64 ((s + k * x) % p)) ∧ w = w' := by
  obtain ⟨m1, m2⟩ := mulb hk hk2 hx hx2 hp2
  go_enter Try.func81, Try.ntmps81
  go_wp2
  go_ret
  exact ⟨rfl, rfl⟩
set_option maxRecDepth 100000 in
set_option maxHeartbeats 1600000 in
theorem functional_int (p : Int) (a1 : Option Addr) (n1 c1 : Nat) (f : List Int) (a2 : Option Addr) (n2 c2 : Nat) (xs : List Int) (w : World) (h1 : SL w a1 n1 c1 f) (h2 : SL w a2 n2 c2 xs)
    (b1 : n1 ≤ 1000) (hn : n1 ≤ n2) (hp : 2 ≤ p) (hp2 : p ≤ 10007) (hf : areB p f = true) (hx : areB p xs = true) :
    Calls Try.prog 79 #[.int .i64 p, .slice a1 n1 c1, .slice a2 n2 c2, .int .i64 0, .func (.func 81) #[] #[]] w
      fun e w' => e = .returned (.int .i64 (dotK p f xs 0 f.length)) ∧ w = w' := by
  have hl1 := hide h1.len
  have Hf := hide hf
  have Hx := hide hx
  clear hf hx
  by_cases h0 : n1 = 0
  · subst h0
    have he : Hid (dotK p f xs 0 f.length = 0) := hide (by rw [hl1.out]; rfl)
    go_enter Try.func79, Try.ntmps79
    go_wp2
    refine wp_loop_rounds 1 ?_
    rw [rounds_succ]
    go_wp2
    go_ret
    exact ⟨ret_int he.out.symm, rfl⟩
  obtain ⟨b, off, rfl, hbw, hcell⟩ := h1.at (by omega)
  obtain ⟨b', off', rfl, hbw', hcell'⟩ := h2.at (by omega)
  clear h1 h2
  go_enter Try.func79, Try.ntmps79
  go_wp2
  go_loop [3, 15] (fun sv iv => ∃ i : Nat, i ≤ n1 ∧ iv = .int .i64 i ∧ sv = .int .i64 (dotK p f xs 0 i)) (fun _ iv => n1 - (intOf iv).toNat)
  case atStart => exact ⟨0, by omega, rfl, rfl⟩
  case round =>
    obtain ⟨i, hi, rfl, rfl⟩ := hrel
    by_cases hlt : i < n1
    · have e1 := hcell i hlt
      have e2 := hcell' i (by omega)
      have hst : Hid (dotK p f xs 0 (i + 1) = (dotK p f xs 0 i + f.getD i 0 * xs.getD i 0) % p) := hide (by rw [dotK, Nat.add_zero])
      have r1 := getD_rng Hf.out hp i
      have r2 := getD_rng Hx.out hp i
      have r3 := dotK_rng hp f xs 0 i
      obtain ⟨x, hx⟩ : ∃ x, f.getD i 0 = x := ⟨_, rfl⟩
      obtain ⟨y, hy⟩ : ∃ y, xs.getD i 0 = y := ⟨_, rfl⟩
      obtain ⟨s, hs⟩ : ∃ s, dotK p f xs 0 i = s := ⟨_, rfl⟩
      rw [hx] at e1 hst r1
      rw [hy] at e2 hst r2
      rw [hs] at hst r3 ⊢
      clear hx hy hs hcell hcell'
      have hlt' : (i : Int) < (n1 : Int) := by omega
      have hlt2 : (i : Int) < (n2 : Int) := by omega
      go_wp2_with (go_at_call 81; refine (addNumber_any p s x y _ hp hp2 r3.1 r3.2 r1.1 r1.2 r2.1 r2.2).mono ?_; rintro e w' ⟨rfl, rfl⟩)
      go_round
      case rel => exact ⟨i + 1, by omega, by go_num, by rw [hst.out]⟩
      case measure => simp [intOf]; omega
    · have he : Hid (i = f.length) := hide (by rw [hl1.out]; omega)
      have hlt' : ¬ (i : Int) < (n1 : Int) := by omega
      go_wp2
      go_ret
      exact ⟨ret_int (by rw [← he.out]), rfl⟩
def fnC (p : Int) (xs f : List Int) : Int := if momB p xs then (if polyB p f then (if f.length ≤ xs.length then 0 else 2) else 1) else 1
def fnV (p : Int) (xs f : List Int) : Int := if fnC p xs f = 0 then dotK p f xs 0 f.length else 0
theorem fnC_cases (p : Int) (xs f : List Int) : fnC p xs f = 1 ∨ fnC p xs f = 2 ∨ (fnC p xs f = 0 ∧ momB p xs = true ∧ polyB p f = true ∧ f.length ≤ xs.length) := by
  unfold fnC
  cases momB p xs <;> cases polyB p f <;> simp
  by_cases h : f.length ≤ xs.length
  · exact .inr (.inr h)
  · exact .inr (.inl (by omega))
end Go.Proofs.Ytpoabedlcljibaa
/- An append of many numbers onto an owned list, with what stays; regions in which two or three operations may come up. -/
namespace Go.Proofs.Ytpoabedlcljibaa
open Go.RowKit
set_option linter.unusedVariables false
set_option linter.unusedSimpArgs false

set_option maxRecDepth 100000 in
theorem op_appG {w : World} {o : Oper} {a : Act} {K : Act → World → Prop} {Q : Exit → Act → World → Prop}
    (s x : Operand) (ho : o.op = .call { callee := .builtin .append, args := #[s, x], argTypes := #[22, 22] })
    (B : Nat) (ad : Option Addr) (n cap : Nat) (ys : List Int) (hs : a.eval s = .slice ad n cap) (hn : n = ys.length) (hown : Own B w ad cap ys)
    (ax : Option Addr) (m c : Nat) (zs : List Int) (hx : a.eval x = .slice ax m c) (hz : SL w ax m c zs) (hmax : n + m ≤ 4000000) (hB : B ≤ w.heap.size)
    (hK : ∀ ad' cap' w', Own B w' ad' cap' (ys ++ zs) → w.grownBy w' (blk ad) → (blk ad' = blk ad ∨ blk ad' = some w.heap.size) → K (a.put o.dst (.slice ad' (ys ++ zs).length cap')) w') :
    o.wp Try.prog a w K Q := by
  subst hn
  obtain ⟨i0, hi, hz0, hz1, hz2⟩ := info_parts infoI
  obtain ⟨hl, ⟨hle, hax⟩, hcs⟩ := hz
  cases ax with
  | none =>
    obtain rfl := hax rfl
    obtain rfl : m = 0 := by omega
    obtain rfl : zs = [] := List.eq_nil_of_length_eq_zero hl
    have hrun := run_append_owned_none (P := Try.prog) w B 22 o.type 2 i0 1 Try.underlying22 hi _ _ _ hown
    have hk := hK ad cap w (by simpa using hown) ⟨rfl, rfl, rfl, Nat.le_refl _, fun _ _ _ => rfl⟩ (.inl rfl)
    rw [List.append_nil] at hk
    unfold Oper.wp
    simp only [execOp, ho, resolve, invoke, builtin, Sem.run_bind, Sem.run_pure, Result.andThen_ok, List.map_toArray, List.map_cons, List.map_nil, hs, hx, hrun]
    exact hk
  | some p =>
    have hnews : ∀ j u, (zs.map (Value.int .i64))[j]? = some u → w.cell? (p.add j) = some u := by
      intro j u hj
      have hjz : j < zs.length := by
        have := (List.getElem?_eq_some_iff.1 hj).1
        simpa using this
      rcases hcs with h0 | ⟨b, off, hpe, hcell⟩
      · omega
      · obtain rfl := Option.some.inj hpe
        rw [Addr.add_lit, hcell j (by omega)]
        simpa [hjz] using hj
    have h1 : ∀ u ∈ zs.map (Value.int .i64), u.oneCell' = true := by
      intro u hu
      obtain ⟨_, _, rfl⟩ := List.mem_map.1 hu
      rfl
    obtain ⟨v', w1, hr, hown', hgrow, _, hloc⟩ := run_append_own_at (P := Try.prog) w B 22 o.type 2 i0 (.int .i64 0) 1 8 Try.underlying22 hi hz0 hz1 hz2 rfl (by decide) _ _ _ hown p m c (zs.map (Value.int .i64)) (by simpa using hl) hnews h1 (by unfold maxLen; omega) (by omega) hB
    have hb1 : ∀ (ad : Option Addr) (n c : Nat), (Value.slice ad n c).ownBlock = blk ad := fun ad n c => by cases ad <;> rfl
    rw [hb1] at hgrow hloc
    have hv : ∃ ad' cap', v' = .slice ad' (ys ++ zs).length cap' := by
      rcases hown'.2 with ⟨h1, h2⟩ | ⟨g, c', cur, h1, h2⟩
      · exact ⟨none, 0, by rw [h1]; congr 1; simp; omega⟩
      · exact ⟨_, c', by rw [h1]; congr 1; simp; omega⟩
    obtain ⟨ad', cap', rfl⟩ := hv
    rw [hb1] at hloc
    unfold Oper.wp execOp
    simp only [ho, resolve, invoke, builtin, Sem.run_bind, Sem.run_pure, Result.andThen_ok, List.map_toArray, List.map_cons, List.map_nil, hs, hx, hr]
    refine hK ad' cap' w1 ?_ hgrow hloc
    unfold Own
    have e : (ys ++ zs).length = ys.length + m := by simp; omega
    rw [List.map_append]
    rw [e] at hown' ⊢
    exact hown'
theorem wp_appG {w : World} {ops : Array Oper} {rest : List Oper} {o : Oper} {a : Act} {Q : Exit → Act → World → Prop}
    (hgd : o.guard = none) (s x : Operand) (ho : o.op = .call { callee := .builtin .append, args := #[s, x], argTypes := #[22, 22] })
    (B : Nat) (ad : Option Addr) (n cap : Nat) (ys : List Int) (hs : a.eval s = .slice ad n cap) (hn : n = ys.length) (hown : Own B w ad cap ys)
    (ax : Option Addr) (m c : Nat) (zs : List Int) (hx : a.eval x = .slice ax m c) (hz : SL w ax m c zs) (hmax : n + m ≤ 4000000) (hB : B ≤ w.heap.size)
    (hK : ∀ ad' cap' w', Own B w' ad' cap' (ys ++ zs) → w.grownBy w' (blk ad) → (blk ad' = blk ad ∨ blk ad' = some w.heap.size) → wpList Try.prog ops Q rest (a.put o.dst (.slice ad' (ys ++ zs).length cap')) w') :
    wpList Try.prog ops Q (o :: rest) a w :=
  wpList_plain hgd fun K hK' => op_appG s x ho B ad n cap ys hs hn hown ax m c zs hx hz hmax hB fun ad' cap' w' h1 h2 h3 => hK' _ _ (hK ad' cap' w' h1 h2 h3)
section
variable {P : Program} {Q : Exit → Act → World → Prop} {md : Region.Mode} {S : World → Prop} {L : Nat}
/-- What an operation that comes next owes. -/
def Next (P : Program) (md : Region.Mode) (l : List Oper) (Q : Exit → Act → World → Prop) (S : World → Prop) (L n : Nat) (done : Array Bool) (a : Act) (w : World) (i : Nat) (o : Oper) : Prop :=
  ∀ K : Act → World → Prop, Shut (∀ a w, S w → anyE P md l.toArray Q S L n (done.setIfInBounds i true) a w → K a w) → if Region.wanted o (yielded l.toArray a.tmps) = true then Oper.wp P o a w K Q else K (a.put o.dst undef) w
theorem Next.step {l : List Oper} {n : Nat} {done : Array Bool} {a : Act} {w : World} {i : Nat} {o : Oper} (hi : l[i]? = some o) (h : Next P md l Q S L n done a w i o) :
    wpOp P l.toArray Q i (fun a' w' => (i ≠ L → S w') ∧ anyE P md l.toArray Q S L n (done.setIfInBounds i true) a' w') a w :=
  wpOp_step (by rw [List.getElem?_toArray]; exact hi) fun K hK => h K (fun a w k1 k2 => hK a w ⟨fun _ => k1, k2⟩)
theorem anyE_2L (i j : Nat) {l : List Oper} {oi oj : Oper} {n : Nat} {done : Array Bool} {a : Act} {w : World} (hr : Region.ready md l.toArray done = [i, j]) (hoi : l[i]? = some oi) (hoj : l[j]? = some oj)
    (hi : ∀ K : Act → World → Prop, Shut (∀ a w, S w → anyE P md l.toArray Q S L n (done.setIfInBounds i true) a w → K a w) → if Region.wanted oi (yielded l.toArray a.tmps) = true then Oper.wp P oi a w K Q else K (a.put oi.dst undef) w)
    (hj : ∀ K : Act → World → Prop, Shut (∀ a w, S w → anyE P md l.toArray Q S L n (done.setIfInBounds j true) a w → K a w) → if Region.wanted oj (yielded l.toArray a.tmps) = true then Oper.wp P oj a w K Q else K (a.put oj.dst undef) w) :
    anyE P md l.toArray Q S L (n + 1) done a w := by
  refine ⟨fun h0 => (by rw [h0] at hr; cases hr), fun k hk => ?_⟩
  rw [hr] at hk
  rw [List.mem_cons, List.mem_singleton] at hk
  rcases hk with rfl | rfl
  · exact Next.step hoi hi
  · exact Next.step hoj hj
theorem anyE_3L (i j k : Nat) {l : List Oper} {oi oj ok : Oper} {n : Nat} {done : Array Bool} {a : Act} {w : World} (hr : Region.ready md l.toArray done = [i, j, k]) (hoi : l[i]? = some oi) (hoj : l[j]? = some oj) (hok : l[k]? = some ok)
    (hi : ∀ K : Act → World → Prop, Shut (∀ a w, S w → anyE P md l.toArray Q S L n (done.setIfInBounds i true) a w → K a w) → if Region.wanted oi (yielded l.toArray a.tmps) = true then Oper.wp P oi a w K Q else K (a.put oi.dst undef) w)
    (hj : ∀ K : Act → World → Prop, Shut (∀ a w, S w → anyE P md l.toArray Q S L n (done.setIfInBounds j true) a w → K a w) → if Region.wanted oj (yielded l.toArray a.tmps) = true then Oper.wp P oj a w K Q else K (a.put oj.dst undef) w)
    (hk : ∀ K : Act → World → Prop, Shut (∀ a w, S w → anyE P md l.toArray Q S L n (done.setIfInBounds k true) a w → K a w) → if Region.wanted ok (yielded l.toArray a.tmps) = true then Oper.wp P ok a w K Q else K (a.put ok.dst undef) w) :
    anyE P md l.toArray Q S L (n + 1) done a w := by
  refine ⟨fun h0 => (by rw [h0] at hr; cases hr), fun q hq => ?_⟩
  rw [hr] at hq
  rw [List.mem_cons, List.mem_cons, List.mem_singleton] at hq
  rcases hq with rfl | rfl | rfl
  · exact Next.step hoi hi
  · exact Next.step hoj hj
  · exact Next.step hok hk
end
end Go.Proofs.Ytpoabedlcljibaa
