/- Merged texts. -/
import Derived.Test.YthahcnmfaghohaaYTC6
import Derived.Test.YthahcnmfaghohaaYTC1
import Derived.Test.YthahcnmfaghohaaYTC5
import Derived.Laws.Bits64b
/- An append of many numbers onto an owned list, with what stays; regions in which two or three operations may come up. -/
namespace Go.Proofs.Ythahcnmfaghohaa
open Go.RowKit
set_option linter.unusedVariables false
set_option linter.unusedSimpArgs false

set_option maxRecDepth 100000 in
theorem op_appG {w : World} {o : Oper} {a : Act} {K : Act → World → Prop} {Q : Exit → Act → World → Prop}
    (s x : Operand) (ho : o.op = .call { callee := .builtin .append, args := #[s, x], argTypes := #[22, 22] })
    (B : Nat) (ad : Option Addr) (n cap : Nat) (ys : List Int) (hs : a.eval s = .slice ad n cap) (hn : n = ys.length) (hown : Own B w ad cap ys)
    (ax : Option Addr) (m c : Nat) (zs : List Int) (hx : a.eval x = .slice ax m c) (hz : SL w ax m c zs) (hmax : n + m ≤ 4000000) (hB : B ≤ w.heap.size)
    (hK : ∀ ad' cap' w', Own B w' ad' cap' (ys ++ zs) → w.grownBy w' (blk ad) → (blk ad' = blk ad ∨ blk ad' = some w.heap.size) → K (a.put o.dst (.slice ad' (ys ++ zs).length cap')) w') :
    o.wp Try.prog a w K Q := by
  subst hn
  obtain ⟨i0, hi, hz0, hz1, hz2⟩ := info_parts infoI
  obtain ⟨hl, ⟨hle, hax⟩, hcs⟩ := hz
  cases ax with
  | none =>
    obtain rfl := hax rfl
    obtain rfl : m = 0 := by omega
    obtain rfl : zs = [] := List.eq_nil_of_length_eq_zero hl
    have hrun := run_append_owned_none (P := Try.prog) w B 22 o.type 2 i0 1 Try.underlying22 hi _ _ _ hown
    have hk := hK ad cap w (by simpa using hown) ⟨rfl, rfl, rfl, Nat.le_refl _, fun _ _ _ => rfl⟩ (.inl rfl)
    rw [List.append_nil] at hk
    unfold Oper.wp
    simp only [execOp, ho, resolve, invoke, builtin, Sem.run_bind, Sem.run_pure, Result.andThen_ok, List.map_toArray, List.map_cons, List.map_nil, hs, hx, hrun]
    exact hk
  | some p =>
    have hnews : ∀ j u, (zs.map (Value.int .i64))[j]? = some u → w.cell? (p.add j) = some u := by
      intro j u hj
      have hjz : j < zs.length := by
        have := (List.getElem?_eq_some_iff.1 hj).1
        simpa using this
      rcases hcs with h0 | ⟨b, off, hpe, hcell⟩
      · omega
      · obtain rfl := Option.some.inj hpe
        rw [Addr.add_lit, hcell j (by omega)]
        simpa [hjz] using hj
    have h1 : ∀ u ∈ zs.map (Value.int .i64), u.oneCell' = true := by
      intro u hu
      obtain ⟨_, _, rfl⟩ := List.mem_map.1 hu
      rfl
    obtain ⟨v', w1, hr, hown', hgrow, _, hloc⟩ := run_append_own_at (P := Try.prog) w B 22 o.type 2 i0 (.int .i64 0) 1 8 Try.underlying22 hi hz0 hz1 hz2 rfl (by decide) _ _ _ hown p m c (zs.map (Value.int .i64)) (by simpa using hl) hnews h1 (by unfold maxLen; omega) (by omega) hB
    have hb1 : ∀ (ad : Option Addr) (n c : Nat), (Value.slice ad n c).ownBlock = blk ad := fun ad n c => by cases ad <;> rfl
    rw [hb1] at hgrow hloc
    have hv : ∃ ad' cap', v' = .slice ad' (ys ++ zs).length cap' := by
      rcases hown'.2 with ⟨h1, h2⟩ | ⟨g, c', cur, h1, h2⟩
      · exact ⟨none, 0, by rw [h1]; congr 1; simp; omega⟩
      · exact ⟨_, c', by rw [h1]; congr 1; simp; omega⟩
    obtain ⟨ad', cap', rfl⟩ := hv
    rw [hb1] at hloc
    unfold Oper.wp execOp
    simp only [ho, resolve, invoke, builtin, Sem.run_bind, Sem.run_pure, Result.andThen_ok, List.map_toArray, List.map_cons, List.map_nil, hs, hx, hr]
    refine hK ad' cap' w1 ?_ hgrow hloc
    unfold Own
    have e : (ys ++ zs).length = ys.length + m := by simp; omega
    rw [List.map_append]
    rw [e] at hown' ⊢
    exact hown'
theorem wp_appG {w : World} {ops : Array Oper} {rest : List Oper} {o : Oper} {a : Act} {Q : Exit → Act → World → Prop}
    (hgd : o.guard = none) (s x : Operand) (ho : o.op = .call { callee := .builtin .append, args := #[s, x], argTypes := #[22, 22] })
    (B : Nat) (ad : Option Addr) (n cap : Nat) (ys : List Int) (hs : a.eval s = .slice ad n cap) (hn : n = ys.length) (hown : Own B w ad cap ys)
    (ax : Option Addr) (m c : Nat) (zs : List Int) (hx : a.eval x = .slice ax m c) (hz : SL w ax m c zs) (hmax : n + m ≤ 4000000) (hB : B ≤ w.heap.size)
    (hK : ∀ ad' cap' w', Own B w' ad' cap' (ys ++ zs) → w.grownBy w' (blk ad) → (blk ad' = blk ad ∨ blk ad' = some w.heap.size) → wpList Try.prog ops Q rest (a.put o.dst (.slice ad' (ys ++ zs).length cap')) w') :
    wpList Try.prog ops Q (o :: rest) a w :=
  wpList_plain hgd fun K hK' => op_appG s x ho B ad n cap ys hs hn hown ax m c zs hx hz hmax hB fun ad' cap' w' h1 h2 h3 => hK' _ _ (hK ad' cap' w' h1 h2 h3)
section
variable {P : Program} {Q : Exit → Act → World → Prop} {md : Region.Mode} {S : World → Prop} {L : Nat}
/-- What an operation that comes next owes. -/
def Next (P : Program) (md : Region.Mode) (l : List Oper) (Q : Exit → Act → World → Prop) (S : World → Prop) (L n : Nat) (done : Array Bool) (a : Act) (w : World) (i : Nat) (o : Oper) : Prop :=
  ∀ K : Act → World → Prop, Shut (∀ a w, S w → anyE P md l.toArray Q S L n (done.setIfInBounds i true) a w → K a w) → if Region.wanted o (yielded l.toArray a.tmps) = true then Oper.wp P o a w K Q else K (a.put o.dst undef) w
theorem Next.step {l : List Oper} {n : Nat} {done : Array Bool} {a : Act} {w : World} {i : Nat} {o : Oper} (hi : l[i]? = some o) (h : Next P md l Q S L n done a w i o) :
    wpOp P l.toArray Q i (fun a' w' => (i ≠ L → S w') ∧ anyE P md l.toArray Q S L n (done.setIfInBounds i true) a' w') a w :=
  wpOp_step (by rw [List.getElem?_toArray]; exact hi) fun K hK => h K (fun a w k1 k2 => hK a w ⟨fun _ => k1, k2⟩)
theorem anyE_2L (i j : Nat) {l : List Oper} {oi oj : Oper} {n : Nat} {done : Array Bool} {a : Act} {w : World} (hr : Region.ready md l.toArray done = [i, j]) (hoi : l[i]? = some oi) (hoj : l[j]? = some oj)
    (hi : ∀ K : Act → World → Prop, Shut (∀ a w, S w → anyE P md l.toArray Q S L n (done.setIfInBounds i true) a w → K a w) → if Region.wanted oi (yielded l.toArray a.tmps) = true then Oper.wp P oi a w K Q else K (a.put oi.dst undef) w)
    (hj : ∀ K : Act → World → Prop, Shut (∀ a w, S w → anyE P md l.toArray Q S L n (done.setIfInBounds j true) a w → K a w) → if Region.wanted oj (yielded l.toArray a.tmps) = true then Oper.wp P oj a w K Q else K (a.put oj.dst undef) w) :
    anyE P md l.toArray Q S L (n + 1) done a w := by
  refine ⟨fun h0 => (by rw [h0] at hr; cases hr), fun k hk => ?_⟩
  rw [hr] at hk
  rw [List.mem_cons, List.mem_singleton] at hk
  rcases hk with rfl | rfl
  · exact Next.step hoi hi
  · exact Next.step hoj hj
theorem anyE_3L (i j k : Nat) {l : List Oper} {oi oj ok : Oper} {n : Nat} {done : Array Bool} {a : Act} {w : World} (hr : Region.ready md l.toArray done = [i, j, k]) (hoi : l[i]? = some oi) (hoj : l[j]? = some oj) (hok : l[k]? = some ok)
    (hi : ∀ K : Act → World → Prop, Shut (∀ a w, S w → anyE P md l.toArray Q S L n (done.setIfInBounds i true) a w → K a w) → if Region.wanted oi (yielded l.toArray a.tmps) = true then Oper.wp P oi a w K Q else K (a.put oi.dst undef) w)
    (hj : ∀ K : Act → World → Prop, Shut (∀ a w, S w → anyE P md l.toArray Q S L n (done.setIfInBounds j true) a w → K a w) → if Region.wanted oj (yielded l.toArray a.tmps) = true then Oper.wp P oj a w K Q else K (a.put oj.dst undef) w)
    (hk : ∀ K : Act → World → Prop, Shut (∀ a w, S w → anyE P md l.toArray Q S L n (done.setIfInBounds k true) a w → K a w) → if Region.wanted ok (yielded l.toArray a.tmps) = true then Oper.wp P ok a w K Q else K (a.put ok.dst undef) w) :
    anyE P md l.toArray Q S L (n + 1) done a w := by
  refine ⟨fun h0 => (by rw [h0] at hr; cases hr), fun q hq => ?_⟩
  rw [hr] at hq
  rw [List.mem_cons, List.mem_cons, List.mem_singleton] at hq
  rcases hq with rfl | rfl | rfl
  · exact Next.step hoi hi
  · exact Next.step hoj hj
  · exact Next.step hok hk
end
end Go.Proofs.Ythahcnmfaghohaa
/- Contracts: math/bits.Mul at 1 and a small number, slices.Repeat of a list of one number (program). -/
namespace Go.Proofs.Ythahcnmfaghohaa
open Go.RowKit
set_option linter.unusedVariables false
set_option linter.unusedSimpArgs false

theorem mask_n (a : Nat) (ha : a < 4294967296) : bits .and .u64 (a : Int) 4294967295 = (a : Int) := by
  have h := bits_and_u64_nat a 4294967295 (by omega) (by omega)
  have e : a &&& 4294967295 = a % 4294967296 := Nat.and_two_pow_sub_one_eq_mod a 32
  rw [e, Nat.mod_eq_of_lt ha] at h
  exact h
set_option maxHeartbeats 1000000 in
theorem Mul64_one (n : Nat) (hn : n ≤ 1000) (w : World) :
    Calls Try.prog 69 #[.int .u64 1, .int .u64 n] w fun e w' => e = .returned (.tuple #[.int .u64 0, .int .u64 n]) ∧ w = w' := by
  have b1 : bits .and .u64 1 4294967295 = 1 := mask_n 1 (by omega)
  have b0 : bits .and .u64 0 4294967295 = 0 := mask_n 0 (by omega)
  have bn := mask_n n (by omega)
  have dn : (n : Int) / 4294967296 = 0 := by omega
  have wn : IntKind.u64.wrap (n : Int) = (n : Int) := by rw [IntKind.wrap_u64]; omega
  go_enter Try.func69, Try.ntmps69
  go_wp2
  go_ret2
  exact ⟨rfl, rfl⟩
set_option maxHeartbeats 1000000 in
theorem Mul_one (n : Nat) (hn : n ≤ 1000) (w : World) :
    Calls Try.prog 62 #[.int .u64 1, .int .u64 n] w fun e w' => e = .returned (.tuple #[.int .u64 0, .int .u64 n]) ∧ w = w' := by
  go_enter Try.func62, Try.ntmps62
  go_wp2_with fail
  refine (Mul64_one n hn _).mono ?_
  rintro e w1 ⟨rfl, rfl⟩
  go_wp2
  go_ret2
  exact ⟨rfl, rfl⟩
set_option maxRecDepth 100000 in
/-- copy inside of one block: as many numbers as fit, from its beginning. -/
theorem step_copyM {ops : Array Oper} {o : Oper} {a : Act} {w : World} {K : Act → World → Prop} {Q : Exit → Act → World → Prop} {F : Prop}
    (hgd : o.guard = none) (d s : Operand) (ho : o.op = .call { callee := .builtin .copy, args := #[d, s], argTypes := #[22, 22] })
    (L off dLen dCap : Nat) (Y : List Int) (hd : a.eval d = .slice (some ⟨L, off, none⟩) dLen dCap) (hrow : RowI w L Y) (sp : Option Addr) (m c k : Nat) (zs : List Int)
    (hs : a.eval s = .slice sp m c) (hz : SL w sp m c zs) (hk : k = min m dLen) (hk0 : 0 < k) (hfit : off + k ≤ Y.length)
    (h : ∀ w', Hid (RowI w' L (splice Y off (zs.take k))) → w.grownBy w' (some L) → K (a.put o.dst (.int .i64 k)) w') :
    if Region.wanted o (yielded ops a.tmps) = true then Oper.wp Try.prog o a w K Q else F := by
  rw [if_pos (show Region.wanted o (yielded ops a.tmps) = true by simp [Region.wanted, hgd])]
  obtain ⟨hl, hle, hcs⟩ := hz
  have hkl : (zs.take k).length = k := by rw [List.length_take]; omega
  rcases hcs with hc | ⟨b, o2, rfl, hcell⟩
  · omega
  · have hcl : ((zs.take k).map (Value.int .i64)).length = k := by rw [List.length_map, hkl]
    have hsrc : ∀ j v, ((zs.take k).map (Value.int .i64))[j]? = some v → w.cell? ((⟨b, o2, none⟩ : Addr).add j) = some v := fun j v hj => by
      have hjz : j < k := by
        have := (List.getElem?_eq_some_iff.1 hj).1
        rwa [hcl] at this
      rw [Addr.add_lit, hcell j (by omega)]
      simpa [List.getElem?_take, hjz, show j < zs.length by omega] using hj
    have h1 : ∀ v ∈ (zs.take k).map (Value.int .i64), v.oneCell' = true := fun u hu => by
      obtain ⟨_, _, rfl⟩ := List.mem_map.1 hu
      rfl
    have hrun := run_copy_row (P := Try.prog) w 22 22 o.type 2 L off dLen dCap ⟨b, o2, none⟩ m c (Y.map (Value.int .i64)).toArray 2 ((zs.take k).map (Value.int .i64)) Try.underlying22 sizeI hrow (by rw [hcl, hk]) hsrc (by rw [hcl]; simpa using hfit) h1
    have hR : RowI (w.setRow L (((Y.map (Value.int .i64)).toArray.toList.take off ++ (zs.take k).map (Value.int .i64) ++ (Y.map (Value.int .i64)).toArray.toList.drop (off + ((zs.take k).map (Value.int .i64)).length)).toArray)) L (splice Y off (zs.take k)) := by
      unfold RowI
      rw [setRow_heap w L _ _ _ _ hrow]
      simp [splice]
    have := h _ (hide hR) ⟨rfl, rfl, rfl, by simp [World.setRow], fun k _ hk => setRow_other w L k _ (fun e => hk (by rw [e]))⟩
    rw [hcl] at hrun this
    rw [hcl] at hR
    simp only [← List.append_assoc] at hrun this
    generalize World.setRow w L _ = W at hrun this
    unfold Oper.wp
    simp [execOp, ho, resolve, invoke, builtin, hd, hs, hrun, Result.andThen]
    exact this
set_option maxRecDepth 100000 in
/-- copy of as many numbers as fit. -/
theorem wp_copyU {w : World} {ops : Array Oper} {rest : List Oper} {o : Oper} {a : Act} {Q : Exit → Act → World → Prop}
    (hgd : o.guard = none) (d s : Operand) (ho : o.op = .call { callee := .builtin .copy, args := #[d, s], argTypes := #[22, 22] })
    (g dLen dCap : Nat) (ys : List Int) (hd : a.eval d = .slice (some ⟨g, 0, none⟩) dLen dCap) (hrow : RowI w g ys) (hdl : dLen = ys.length)
    (sp : Option Addr) (m c k : Nat) (zs : List Int) (hs : a.eval s = .slice sp m c) (hz : SL w sp m c zs) (hk : k = min m ys.length) (B : Nat) (hB : B ≤ g)
    (h : ∀ w', Hid (RowI w' g (zs.take k ++ ys.drop k)) → Below B w w' → wpList Try.prog ops Q rest (a.put o.dst (.int .i64 k)) w') :
    wpList Try.prog ops Q (o :: rest) a w := by
  subst hdl
  obtain ⟨hl, hle, hcs⟩ := hz
  have hkm : k ≤ m := by omega
  have hky : k ≤ ys.length := by omega
  have hkl : (zs.take k).length = k := by simp; omega
  refine wpList_copy_splice hgd d s 22 22 ho 2 Try.underlying22 sizeI (some ⟨g, 0, none⟩) sp ys.length dCap m c hd hs g 0 (ys.map (Value.int .i64)) 2 hrow ((zs.take k).map (Value.int .i64)) ?_ ?_ ?_ ?_ B w (Below.refl _ _) hB ?_
  · rw [List.length_map, hkl]
    omega
  · intro hpos
    refine ⟨rfl, ?_⟩
    have hm0 : 0 < k := by rw [List.length_map, hkl] at hpos; exact hpos
    rcases hcs with h0 | ⟨b, off, rfl, hcell⟩
    · omega
    · refine ⟨_, rfl, fun j v hj => ?_⟩
      have hjk : j < k := by
        have := (List.getElem?_eq_some_iff.1 hj).1
        rw [List.length_map, hkl] at this
        exact this
      rw [Addr.add_lit, hcell j (by omega)]
      simpa [List.getElem?_take, hjk, show j < zs.length by omega] using hj
  · simp [hl]; omega
  · intro u hu
    obtain ⟨_, _, rfl⟩ := List.mem_map.1 hu
    rfl
  · intro w' hw hb
    have e : splice (ys.map (Value.int .i64)) 0 ((zs.take k).map (Value.int .i64)) = (zs.take k ++ ys.drop k).map (Value.int .i64) := by
      simp [splice, hl, Nat.min_eq_left hkm]
    have hw2 := hw.out
    rw [e] at hw2
    have := h w' hw2 hb
    have hmin : min k zs.length = k := by omega
    simpa [goInt, hmin] using this
theorem pad_tabT (f : List Int) (N k : Nat) (hk : k = min f.length N) : f.take k ++ (List.replicate N (0 : Int)).drop k = tab N (fun j => f.getD j 0) := by
  apply ext_tab
  · simp [tab]; omega
  · intro j hj
    have hj' : j < N := by simp at hj; omega
    rw [tab_at _ _ _ hj']
    have hkl : (f.take k).length = k := by simp; omega
    by_cases h : j < k
    · simp [List.getElem?_append_left (show j < (f.take k).length by omega), List.getElem?_take, h]
    · simp [List.getElem?_append_right (show (f.take k).length ≤ j by omega), show ¬ j < f.length by omega, hkl]
      have : ∀ (i : Nat), (List.replicate (N - k) (0 : Int))[i]?.getD 0 = 0 := fun i => by
        by_cases hi : i < N - k <;> simp [hi]
      exact this _
/-- the first c of n numbers are v, the others 0 -/
def repL (v : Int) (n c : Nat) : List Int := tab n (fun j => if j < c then v else 0)
theorem repL_len (v : Int) (n c : Nat) : (repL v n c).length = n := tab_len _ _
theorem repL_splice (v : Int) (n c k : Nat) (hc : c + k ≤ n) (hk : k ≤ c) : splice (repL v n c) c ((repL v n c).take k) = repL v n (c + k) := by
  have hl : ((repL v n c).take k).length = k := by rw [List.length_take, repL_len]; omega
  have e1 : (splice (repL v n c) c ((repL v n c).take k)).length = n := by
    unfold splice
    simp [repL_len]
    omega
  refine ext_tab (by rw [e1, repL_len]) (fun j hj => ?_)
  rw [e1] at hj
  have e2 : (splice (repL v n c) c ((repL v n c).take k)).getD j 0 = if c ≤ j ∧ j < c + k then ((repL v n c).take k).getD (j - c) 0 else (repL v n c).getD j 0 := by
    unfold splice
    simp only [List.getD_eq_getElem?_getD]
    by_cases h1 : j < c
    · rw [if_neg (by omega), List.getElem?_append_left (by simp [repL_len]; omega), List.getElem?_take_of_lt h1]
    · by_cases h2 : j < c + k
      · rw [if_pos ⟨by omega, h2⟩, List.getElem?_append_right (by simp [repL_len]; omega), List.getElem?_append_left (by simp [repL_len]; omega)]
        simp [repL_len]
        rw [Nat.min_eq_left (by omega)]
      · rw [if_neg (by omega), List.getElem?_append_right (by simp [repL_len]; omega), List.getElem?_append_right (by simp [repL_len]; omega), List.getElem?_drop]
        simp only [List.length_take, repL_len]
        rw [show c + min k n + (j - min c n - min k n) = j by omega]
  rw [e2]
  unfold repL
  rw [tab_at n _ j hj, tab_at n _ j hj]
  split
  · rename_i h
    rw [List.getD_eq_getElem?_getD, List.getElem?_take_of_lt (by omega), ← List.getD_eq_getElem?_getD, tab_at _ _ _ (by omega), if_pos (by omega), if_pos (by omega)]
  · rename_i h
    by_cases h1 : j < c
    · rw [if_pos h1, if_pos (by omega)]
    · rw [if_neg h1, if_neg (by omega)]
theorem repL_zero (v : Int) (n : Nat) : List.replicate n 0 = repL v n 0 := by
  rw [tab_zero]; exact tab_congr (fun j _ => by simp)
theorem repL_all (v : Int) (n : Nat) : repL v n n = List.replicate n v := by
  refine ext_tab (by rw [repL_len, List.length_replicate]) (fun j hj => ?_)
  rw [repL_len] at hj
  unfold repL
  rw [tab_at _ _ _ hj, if_pos hj]
  simp [List.getD_eq_getElem?_getD, hj]
theorem repL_one (v : Int) (n : Nat) (hn : 1 ≤ n) : splice (repL v n 0) 0 [v] = repL v n 1 := by
  have e1 : (splice (repL v n 0) 0 [v]).length = n := by
    unfold splice
    simp [repL_len]
    omega
  refine ext_tab (by rw [e1, repL_len]) (fun j hj => ?_)
  rw [e1] at hj
  unfold splice
  cases j with
  | zero =>
    have := tab_at n (fun j => if j < 1 then v else 0) 0 (by omega)
    unfold repL
    rw [this]
    simp
  | succ j =>
    have h1 := tab_at n (fun j => if j < 1 then v else 0) (j + 1) hj
    have h0 := tab_at n (fun j => if j < 0 then v else 0) (j + 1) hj
    unfold repL
    rw [h1, if_neg (by omega)]
    rw [if_neg (by omega), List.getD_eq_getElem?_getD] at h0
    simp only [List.take_zero, List.nil_append, List.singleton_append, List.getD_eq_getElem?_getD, List.getElem?_cons_succ, List.getElem?_drop, List.length_singleton]
    rw [Nat.add_comm (0 + 1) j, Nat.zero_add, h0]
set_option maxRecDepth 100000 in
set_option maxHeartbeats 1600000 in
theorem repeat_any (v : Int) (g : Nat) (n : Nat) (w : World) (hs : SL w (some ⟨g, 0, none⟩) 1 1 [v]) (hn : 1 ≤ n) (hn2 : n ≤ 1000) :
    Calls Try.prog 52 #[.slice (some ⟨g, 0, none⟩) 1 1, .int .i64 n] w fun e w' => ∃ a', e = .returned (.slice a' n n) ∧ Own w.heap.size w' a' n (List.replicate n v) ∧ Below w.heap.size w w' := by
  have h0 : ¬ (n : Int) < 0 := by omega
  have wn : IntKind.u64.wrap (n : Int) = (n : Int) := by rw [IntKind.wrap_u64]; omega
  have wm : IntKind.i64.wrap (n : Int) = (n : Int) := IntWalk.i64_in _ (by omega)
  have h9 : ¬ (9223372036854775807 : Int) < (n : Int) := by omega
  go_enter Try.func52, Try.ntmps52
  go_wp2_with fail
  refine (Mul_one n hn2 _).mono ?_
  rintro e w1 ⟨rfl, rfl⟩
  go_wp2_with (first | (at_make; refine wp_make rfl _ _ rfl _ _ n rfl rfl rfl rfl (by omega) ?_; intro w1 hrow hb hsz; have hrow2 := hide (show RowI w1 w.heap.size (repL v n 0) from (by have := hrow.out; rwa [repL_zero v n] at this)); clear hrow) | (with_reducible refine wp_copyU rfl _ _ rfl w.heap.size _ _ (repL v n 0) rfl hrow2.out (repL_len v n 0).symm _ _ _ 1 [v] rfl (hs.below hb) (by rw [repL_len]; omega) w.heap.size (Nat.le_refl _) ?_; intro w2 hR2 hb2))
  have hR3 : Hid (RowI w2 w.heap.size (repL v n 1)) := hide (by
    have t := hR2.out
    have e : splice (repL v n 0) 0 [v] = repL v n 1 := repL_one v n hn
    unfold splice at e
    simpa using (show RowI w2 w.heap.size _ from by rw [← e]; simpa using t))
  have hB2 : Below w.heap.size w w2 := hb.trans (hb2.mono (Nat.le_refl _))
  clear hR2 hrow2 hs wn wm h9 h0
  go_loopw [8] (fun kv wr => ∃ c : Nat, 1 ≤ c ∧ c ≤ n ∧ kv = .int .i64 c ∧ Hid (RowI wr w.heap.size (repL v n c)) ∧ Below w.heap.size w wr) (fun kv _ => n - (intOf kv).toNat)
  case atStart => exact ⟨1, by omega, hn, rfl, hR3, hB2⟩
  case round =>
    obtain ⟨c, hc1, hc2, rfl, hR, hBr⟩ := hrel
    clear hR3 hB2 hb hb2
    by_cases hlt : c < n
    · have hlt' : (c : Int) < (n : Int) := by omega
      have q1 : (0 : Int) ≤ (c : Int) := by omega
      have q2 : (c : Int) ≤ (n : Int) := by omega
      have q3 : ¬ n = c := by omega
      have hbd := (Below.refl wr.heap.size wr).drew
      obtain ⟨k, hk⟩ : ∃ k, k = min c (n - c) := ⟨_, rfl⟩
      have k1 : 0 < k := by omega
      have k2 : c + k ≤ n := by omega
      have k3 : k ≤ c := by omega
      have HK := hide hk
      clear hk
      go_upto_region 9 with fail
      refine region_E (fun _ => True) 100 (by kernel_rfl) trivial ?_
      intro hS
      refine anyE_takeH 0 rfl (by kernel_rfl) (fun _ _ _ h => h) hS (by rfl) (v := ?_) ?_ ?_
      rotate_left
      · intro w' hSw; (try dsimp only at hSw); go_simp; (try with_reducible rfl)
      try simp only [Act.put, List.setIfInBounds_toArray, List.set_cons_zero, List.set_cons_succ]
      refine anyE_takeH 1 rfl (by kernel_rfl) (fun _ _ _ h => h) hS (by rfl) (v := ?_) ?_ ?_
      rotate_left
      · intro w' hSw; (try dsimp only at hSw); go_simp; (try with_reducible rfl)
      try simp only [Act.put, List.setIfInBounds_toArray, List.set_cons_zero, List.set_cons_succ]
      refine anyE_takeH 2 rfl (by kernel_rfl) (fun _ _ _ h => h) hS (by rfl) (v := ?_) ?_ ?_
      rotate_left
      · intro w' hSw; (try dsimp only at hSw); go_simp; (try with_reducible rfl)
      try simp only [Act.put, List.setIfInBounds_toArray, List.set_cons_zero, List.set_cons_succ]
      refine anyE_takeH 3 rfl (by kernel_rfl) (fun _ _ _ h => h) hS (by rfl) (v := ?_) ?_ ?_
      rotate_left
      · intro w' hSw; (try dsimp only at hSw); go_simp; (try with_reducible rfl)
      try simp only [Act.put, List.setIfInBounds_toArray, List.set_cons_zero, List.set_cons_succ]
      refine anyE_takeH 4 rfl (by kernel_rfl) (fun _ _ _ h => h) hS (by rfl) (v := ?_) ?_ ?_
      rotate_left
      · intro w' hSw; (try dsimp only at hSw); go_simp; (try with_reducible rfl)
      try simp only [Act.put, List.setIfInBounds_toArray, List.set_cons_zero, List.set_cons_succ]
      refine anyE_takeH 5 rfl (by kernel_rfl) (fun _ _ _ h => h) hS (by rfl) (v := ?_) ?_ ?_
      rotate_left
      · intro w' hSw; (try dsimp only at hSw); go_simp; (try with_reducible rfl)
      try simp only [Act.put, List.setIfInBounds_toArray, List.set_cons_zero, List.set_cons_succ]
      refine anyE_takeH 6 rfl (by kernel_rfl) (fun _ _ _ h => h) hS (by rfl) (v := ?_) ?_ ?_
      rotate_left
      · intro w' hSw; (try dsimp only at hSw); go_simp; (try with_reducible rfl)
      try simp only [Act.put, List.setIfInBounds_toArray, List.set_cons_zero, List.set_cons_succ]
      refine anyE_oneL 7 (by kernel_rfl) rfl (fun K' hK' => ?_)
      have hR1 := hR.out.next hbd
      have hsl := (hR1.sl (m := c) (by rw [repL_len]; omega))
      rw [repL_len] at hsl
      refine step_copyM rfl _ _ rfl w.heap.size c (n - c) (n - c) (repL v n c) rfl hR1 (some ⟨w.heap.size, 0, none⟩) c n k ((repL v n c).take c) rfl hsl HK.out k1 (by rw [repL_len]; omega) ?_
      intro w4 hR4 hg4
      have e4 : splice (repL v n c) c (((repL v n c).take c).take k) = repL v n (c + k) := by
        rw [List.take_take, Nat.min_eq_left (by omega)]
        exact repL_splice v n c k (by omega) (by omega)
      rw [e4] at hR4
      have hB4 : Below w.heap.size w w4 := (hBr.trans (hbd.mono hBr.size)).grown hg4 (Nat.le_trans hBr.size hbd.size) (fun k e => by cases e; exact Nat.le_refl _)
      have v1 : IntKind.i64.wrap ((c : Int) + (k : Int)) = (c : Int) + (k : Int) := IntWalk.i64_in _ (by omega)
      refine hK'.out _ _ trivial ?_
      clear hK' K' hS hR1 hsl hg4 e4
      try simp only [Act.put, List.setIfInBounds_toArray, List.set_cons_zero, List.set_cons_succ]
      refine anyE_oneL 8 (by kernel_rfl) rfl (fun K' hK' => ?_)
      go_simp
      refine hK'.out _ _ trivial ?_
      clear hK' K'
      try simp only [Act.put, List.setIfInBounds_toArray, List.set_cons_zero, List.set_cons_succ]
      refine anyE_oneL 9 (by kernel_rfl) rfl (fun K' hK' => ?_)
      go_simp
      refine hK'.out _ _ trivial (anyE_doneL (by kernel_rfl) ?_)
      clear hK' K'
      try simp only [Act.put, List.setIfInBounds_toArray, List.set_cons_zero, List.set_cons_succ]
      go_wp2
      go_roundw
      case rel => exact ⟨c + k, by omega, by omega, by go_num, hR4, hB4⟩
      case measure => simp [intOf]; omega
    · have hcn : Hid (c = n) := hide (by omega)
      have hge : ¬ (c : Int) < (n : Int) := by omega
      go_wp2
      go_ret
      have t := hR.out
      rw [hcn.out, repL_all] at t
      have o := t.own' (Nat.le_refl _) (by rw [List.length_replicate]; unfold maxLen; omega)
      rw [List.length_replicate] at o
      exact ⟨_, rfl, o, hBr⟩
end Go.Proofs.Ythahcnmfaghohaa
