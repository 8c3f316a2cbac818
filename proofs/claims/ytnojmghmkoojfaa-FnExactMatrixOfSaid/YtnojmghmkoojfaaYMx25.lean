/- Merged texts. -/
import Derived.Test.YtnojmghmkoojfaaYMx18
import Derived.Test.YtnojmghmkoojfaaYMx19
/- Plain mathematics of chapter 5: series of quotients, number by number. No program. -/
namespace Go.Proofs.Ytnojmghmkoojfaa
open Go.RowKit
set_option linter.unusedVariables false
set_option linter.unusedSimpArgs false

/-- The number k of f less the first i products of numbers of g, from x^1 on, and of S that are told ahead of it. -/
def serT (p : Int) (f g : List Int) (S : Nat → Int) (k : Nat) : Nat → Int
  | 0 => f.getD k 0
  | i + 1 => (serT p f g S k i - g.getD (i + 1) 0 * S (k - (i + 1))) % p
/-- The first n numbers of the series of f and g. -/
def serL (p : Int) (f g : List Int) : Nat → List Int
  | 0 => []
  | k + 1 => serL p f g k ++ [serT p f g (fun j => (serL p f g k).getD j 0) k k * invM p (g.getD 0 0) % p]
def serS (p : Int) (f g : List Int) (k : Nat) : Int := (serL p f g (k + 1)).getD k 0
theorem serL_len (p : Int) (f g : List Int) (n : Nat) : (serL p f g n).length = n := by
  induction n with
  | zero => rfl
  | succ n ih => simp [serL, ih]
theorem serL_tab (p : Int) (f g : List Int) (n : Nat) : serL p f g n = tab n (serS p f g) := by
  induction n with
  | zero => rfl
  | succ n ih =>
    have e : serL p f g (n + 1) = tab n (serS p f g) ++ [serS p f g n] := by
      have h : serS p f g n = serT p f g (fun j => (serL p f g n).getD j 0) n n * invM p (g.getD 0 0) % p := by
        unfold serS
        rw [serL]
        simp [List.getElem?_append_right (show (serL p f g n).length ≤ n by rw [serL_len]; exact Nat.le_refl _), serL_len]
      rw [h, ← ih, serL]
    rw [e]
    unfold tab
    rw [List.range_succ, List.map_append]
    rfl
theorem serT_congr (p : Int) (f g : List Int) (S S' : Nat → Int) (k : Nat) (h : ∀ j, j < k → S j = S' j) : ∀ i, i ≤ k → serT p f g S k i = serT p f g S' k i := by
  intro i
  induction i with
  | zero => intro _; rfl
  | succ i ih => intro hi; rw [serT, serT, ih (by omega), h (k - (i + 1)) (by omega)]
theorem serS_eq (p : Int) (f g : List Int) (k : Nat) : serS p f g k = serT p f g (serS p f g) k k * invM p (g.getD 0 0) % p := by
  have h : serS p f g k = serT p f g (fun j => (serL p f g k).getD j 0) k k * invM p (g.getD 0 0) % p := by
    unfold serS
    rw [serL]
    simp [List.getElem?_append_right (show (serL p f g k).length ≤ k by rw [serL_len]; exact Nat.le_refl _), serL_len]
  rw [h, serT_congr p f g _ (serS p f g) k (fun j hj => by rw [serL_tab, tab_at _ _ _ hj]) k (Nat.le_refl _)]
theorem serS_rng {p : Int} (hp : 2 ≤ p) (f g : List Int) (k : Nat) : 0 ≤ serS p f g k ∧ serS p f g k < p := by
  rw [serS_eq]; exact modb hp
theorem serL_are {p : Int} (hp : 2 ≤ p) (f g : List Int) (n : Nat) : areB p (serL p f g n) = true := areB_mk fun j hj => by
  rw [serL_len] at hj
  rw [serL_tab, tab_at _ _ _ hj]
  exact serS_rng hp f g j
theorem serT_rng {p : Int} (hp : 2 ≤ p) {f : List Int} (hf : areB p f = true) (g : List Int) (S : Nat → Int) (k i : Nat) : 0 ≤ serT p f g S k i ∧ serT p f g S k i < p := by
  cases i with
  | zero => exact getD_rng hf hp k
  | succ i => exact modb hp
theorem getD_far {g : List Int} {j : Nat} (h : g.length ≤ j) : g.getD j 0 = 0 := by
  rw [List.getD_eq_getElem?_getD, List.getElem?_eq_none h]; rfl
/-- Behind the numbers of g nothing changes any more. -/
theorem serT_far {p : Int} (hp : 2 ≤ p) {f : List Int} (hf : areB p f = true) (g : List Int) (S : Nat → Int) (k m : Nat) (hm : g.length ≤ m + 1) : ∀ i, m ≤ i → serT p f g S k i = serT p f g S k m := by
  intro i
  induction i with
  | zero => intro h; rw [show m = 0 by omega]
  | succ i ih =>
    intro h
    by_cases e : m = i + 1
    · rw [e]
    · have r := serT_rng hp hf g S k i
      rw [serT, getD_far (g := g) (j := i + 1) (by omega), Int.zero_mul, Int.sub_zero, Int.emod_eq_of_lt r.1 r.2]
      exact ih (by omega)
/-- The numbers behind k, when what those ahead of the place i add to them is taken off. -/
def serP (p : Int) (f g : List Int) (S : Nat → Int) : Nat → Nat → Int
  | 0, j => f.getD j 0
  | i + 1, j => if i < j then (serP p f g S i j + (p - S i) * g.getD (j - i) 0) % p else serP p f g S i j
theorem serP_rng {p : Int} (hp : 2 ≤ p) {f : List Int} (hf : areB p f = true) (g : List Int) (S : Nat → Int) (i j : Nat) : 0 ≤ serP p f g S i j ∧ serP p f g S i j < p := by
  induction i with
  | zero => exact getD_rng hf hp j
  | succ i ih =>
    unfold serP
    split
    · exact modb hp
    · exact ih
theorem serP_sm (p : Int) (f g : List Int) (S : Nat → Int) (j : Nat) : ∀ i, i ≤ j → serP p f g S i j % p = (f.getD j 0 - sm i (fun a => S a * g.getD (j - a) 0)) % p := by
  intro i
  induction i with
  | zero => intro _; simp [serP, sm]
  | succ i ih =>
    intro hi
    rw [serP, if_pos (by omega), Int.emod_emod, Int.add_emod, ih (by omega), ← Int.add_emod, sm]
    have e : f.getD j 0 - sm i (fun a => S a * g.getD (j - a) 0) + (p - S i) * g.getD (j - i) 0 = f.getD j 0 - (sm i (fun a => S a * g.getD (j - a) 0) + S i * g.getD (j - i) 0) + p * g.getD (j - i) 0 := by
      rw [Int.sub_mul]; omega
    rw [e, Int.add_mul_emod_self_left]
theorem serT_sm (p : Int) (f g : List Int) (S : Nat → Int) (k : Nat) : ∀ i, serT p f g S k i % p = (f.getD k 0 - sm i (fun a => g.getD (a + 1) 0 * S (k - (a + 1)))) % p := by
  intro i
  induction i with
  | zero => simp [serT, sm]
  | succ i ih =>
    rw [serT, Int.emod_emod, Int.sub_emod, ih, ← Int.sub_emod, sm]
    congr 1
    omega
theorem serP_T {p : Int} (hp : 2 ≤ p) {f : List Int} (hf : areB p f = true) (g : List Int) (S : Nat → Int) (k : Nat) : serP p f g S k k = serT p f g S k k := by
  have r1 := serP_rng hp hf g S k k
  have r2 := serT_rng hp hf g S k k
  rw [← Int.emod_eq_of_lt r1.1 r1.2, ← Int.emod_eq_of_lt r2.1 r2.2, serP_sm p f g S k k (Nat.le_refl _), serT_sm]
  congr 2
  cases k with
  | zero => rfl
  | succ n =>
    rw [sm_rev]
    apply sm_congr
    intro a ha
    rw [show n + 1 - (n - a) = a + 1 by omega, show n + 1 - (a + 1) = n - a by omega, Int.mul_comm]
/-- The row when the first k numbers are done. -/
def serR (p : Int) (f g : List Int) (k : Nat) : Nat → Int := fun j => if j < k then serS p f g j else serP p f g (serS p f g) k j
/-- The row while the number k takes itself off those behind it, up to k + i. -/
def serI (p : Int) (f g : List Int) (k i : Nat) : Nat → Int := fun j => if j < k + 1 then serS p f g j else if j < k + i then serP p f g (serS p f g) (k + 1) j else serP p f g (serS p f g) k j
theorem serR_done (p : Int) (f g : List Int) (n : Nat) : tab n (serR p f g n) = serL p f g n := by
  rw [serL_tab]
  exact tab_congr fun j hj => if_pos hj
theorem serR_at {p : Int} (hp : 2 ≤ p) {f : List Int} (hf : areB p f = true) (g : List Int) (k : Nat) : serR p f g k k * invM p (g.getD 0 0) % p = serS p f g k := by
  unfold serR
  rw [if_neg (by omega), serP_T hp hf, ← serS_eq]
theorem serR_rng {p : Int} (hp : 2 ≤ p) {f : List Int} (hf : areB p f = true) (g : List Int) (k j : Nat) : 0 ≤ serR p f g k j ∧ serR p f g k j < p := by
  unfold serR
  split
  · exact serS_rng hp f g j
  · exact serP_rng hp hf g _ k j
theorem serR_set (p : Int) (f g : List Int) (n k : Nat) : (tab n (serR p f g k)).set k (serS p f g k) = tab n (serI p f g k 1) := by
  rw [tab_set]
  apply tab_congr
  intro j _
  unfold serR serI
  by_cases e : j = k
  · subst e; rw [if_pos rfl, if_pos (by omega)]
  · rw [if_neg e]
    by_cases h : j < k
    · rw [if_pos h, if_pos (by omega)]
    · rw [if_neg h, if_neg (by omega), if_neg (by omega)]
theorem serI_set (p : Int) (f g : List Int) (n k i : Nat) (hi : 1 ≤ i) : (tab n (serI p f g k i)).set (k + i) ((serP p f g (serS p f g) k (k + i) + (p - serS p f g k) * g.getD i 0) % p) = tab n (serI p f g k (i + 1)) := by
  rw [tab_set]
  apply tab_congr
  intro j _
  unfold serI
  by_cases e : j = k + i
  · subst e
    rw [if_pos rfl, if_neg (by omega), if_pos (by omega), serP, if_pos (by omega), show k + i - k = i by omega]
  · rw [if_neg e]
    by_cases h : j < k + 1
    · rw [if_pos h, if_pos h]
    · rw [if_neg h, if_neg h]
      by_cases h2 : j < k + i
      · rw [if_pos h2, if_pos (by omega)]
      · rw [if_neg h2, if_neg (by omega)]
theorem serI_at (p : Int) (f g : List Int) (k i : Nat) (hi : 1 ≤ i) : serI p f g k i (k + i) = serP p f g (serS p f g) k (k + i) ∧ serI p f g k i k = serS p f g k := by
  unfold serI
  exact ⟨by rw [if_neg (by omega), if_neg (by omega)], by rw [if_pos (by omega)]⟩
theorem serI_end {p : Int} (hp : 2 ≤ p) {f : List Int} (hf : areB p f = true) (g : List Int) (n k i : Nat) (hi : g.length ≤ i ∨ n ≤ k + i) : tab n (serI p f g k i) = tab n (serR p f g (k + 1)) := by
  apply tab_congr
  intro j hj
  unfold serI serR
  by_cases h : j < k + 1
  · rw [if_pos h, if_pos h]
  · rw [if_neg h, if_neg h]
    by_cases h2 : j < k + i
    · rw [if_pos h2]
    · have r := serP_rng hp hf g (serS p f g) k j
      rw [if_neg h2, serP, if_pos (by omega), getD_far (g := g) (j := j - k) (by omega), Int.mul_zero, Int.add_zero, Int.emod_eq_of_lt r.1 r.2]
theorem serR_zero (p : Int) (f g : List Int) (n : Nat) : tab n (fun j => f.getD j 0) = tab n (serR p f g 0) := tab_congr fun j _ => by
  unfold serR
  rw [if_neg (by omega)]; rfl
end Go.Proofs.Ytnojmghmkoojfaa
/- Contracts: l05Series (model), seriesOf (program): the first numbers of the series of two lists. -/
namespace Go.Proofs.Ytnojmghmkoojfaa
open Go.RowKit
set_option linter.unusedVariables false
set_option linter.unusedSimpArgs false

theorem mulb2 {x y : Int} (h1 : 0 ≤ x) (h2 : x ≤ 10007) (h3 : 0 ≤ y) (h4 : y ≤ 10007) : 0 ≤ x * y ∧ x * y ≤ 100140049 := by
  refine ⟨Int.mul_nonneg h1 h3, ?_⟩
  have : x * y ≤ 10007 * 10007 := Int.mul_le_mul h2 h4 h3 (by omega)
  omega
set_option maxRecDepth 100000 in
/-- copy of as many numbers as fit. -/
theorem wp_copyT {w : World} {ops : Array Oper} {rest : List Oper} {o : Oper} {a : Act} {Q : Exit → Act → World → Prop}
    (hgd : o.guard = none) (d s : Operand) (ho : o.op = .call { callee := .builtin .copy, args := #[d, s], argTypes := #[22, 22] })
    (g dLen dCap : Nat) (ys : List Int) (hd : a.eval d = .slice (some ⟨g, 0, none⟩) dLen dCap) (hrow : RowI w g ys) (hdl : dLen = ys.length)
    (sp : Option Addr) (m c k : Nat) (zs : List Int) (hs : a.eval s = .slice sp m c) (hz : SL w sp m c zs) (hk : k = min m ys.length) (B : Nat) (hB : B ≤ g)
    (h : ∀ w', Hid (RowI w' g (zs.take k ++ ys.drop k)) → Below B w w' → wpList Try.prog ops Q rest (a.put o.dst (.int .i64 k)) w') :
    wpList Try.prog ops Q (o :: rest) a w := by
  subst hdl
  obtain ⟨hl, hle, hcs⟩ := hz
  have hkm : k ≤ m := by omega
  have hky : k ≤ ys.length := by omega
  have hkl : (zs.take k).length = k := by simp; omega
  refine wpList_copy_splice hgd d s 22 22 ho 2 Try.underlying22 sizeI (some ⟨g, 0, none⟩) sp ys.length dCap m c hd hs g 0 (ys.map (Value.int .i64)) 2 hrow ((zs.take k).map (Value.int .i64)) ?_ ?_ ?_ ?_ B w (Below.refl _ _) hB ?_
  · rw [List.length_map, hkl]
    omega
  · intro hpos
    refine ⟨rfl, ?_⟩
    have hm0 : 0 < k := by rw [List.length_map, hkl] at hpos; exact hpos
    rcases hcs with h0 | ⟨b, off, rfl, hcell⟩
    · omega
    · refine ⟨_, rfl, fun j v hj => ?_⟩
      have hjk : j < k := by
        have := (List.getElem?_eq_some_iff.1 hj).1
        rw [List.length_map, hkl] at this
        exact this
      rw [Addr.add_lit, hcell j (by omega)]
      simpa [List.getElem?_take, hjk, show j < zs.length by omega] using hj
  · simp [hl]; omega
  · intro u hu
    obtain ⟨_, _, rfl⟩ := List.mem_map.1 hu
    rfl
  · intro w' hw hb
    have e : splice (ys.map (Value.int .i64)) 0 ((zs.take k).map (Value.int .i64)) = (zs.take k ++ ys.drop k).map (Value.int .i64) := by
      simp [splice, hl, Nat.min_eq_left hkm]
    have hw2 := hw.out
    rw [e] at hw2
    have := h w' hw2 hb
    have hmin : min k zs.length = k := by omega
    simpa [goInt, hmin] using this
theorem pad_tabT (f : List Int) (N k : Nat) (hk : k = min f.length N) : f.take k ++ (List.replicate N (0 : Int)).drop k = tab N (fun j => f.getD j 0) := by
  apply ext_tab
  · simp [tab]; omega
  · intro j hj
    have hj' : j < N := by simp at hj; omega
    rw [tab_at _ _ _ hj']
    have hkl : (f.take k).length = k := by simp; omega
    by_cases h : j < k
    · simp [List.getElem?_append_left (show j < (f.take k).length by omega), List.getElem?_take, h]
    · simp [List.getElem?_append_right (show (f.take k).length ≤ j by omega), show ¬ j < f.length by omega, hkl]
      have : ∀ (i : Nat), (List.replicate (N - k) (0 : Int))[i]?.getD 0 = 0 := fun i => by
        by_cases hi : i < N - k <;> simp [hi]
      exact this _
set_option maxRecDepth 100000 in
set_option maxHeartbeats 3200000 in
theorem seriesOf_any (p : Int) (a1 : Option Addr) (n1 c1 : Nat) (f : List Int) (a2 : Option Addr) (n2 c2 : Nat) (g : List Int) (n : Nat) (w : World) (h1 : SL w a1 n1 c1 f) (h2 : SL w a2 n2 c2 g)
    (b1 : n1 ≤ 4000000) (b2 : n2 ≤ 4000000) (hg0 : 1 ≤ n2) (hn : n ≤ 1000) (hp : 2 ≤ p) (hp2 : p ≤ 10007) (hf : areB p f = true) (hg : areB p g = true) :
    Calls Try.prog 108 #[.int .i64 p, .slice a1 n1 c1, .slice a2 n2 c2, .int .i64 n] w fun e w' => ∃ a' c', e = .returned (.slice a' n c') ∧ Own w.heap.size w' a' c' (serL p f g n) ∧ Below w.heap.size w w' := by
  have hl1 := hide h1.len
  have hl2 := hide h2.len
  have Hf := hide hf
  have Hg := hide hg
  obtain ⟨bg, og, rfl, hbg, hcg⟩ := h2.at (by omega)
  have Hcg := hide hcg
  have hr0 := getD_rng hg hp 0
  obtain ⟨G0, hG0⟩ : ∃ G0, g.getD 0 0 = G0 := ⟨_, rfl⟩
  have HG0 := hide hG0
  have hk0 : Hid (min n1 n = min n1 (List.replicate n (0 : Int)).length) := hide (by rw [List.length_replicate])
  rw [hG0] at hr0
  clear hf hg hG0 hcg h2
  go_enter Try.func108, Try.ntmps108
  go_wp2_with (first | (at_make; refine wp_make rfl _ _ rfl _ _ n rfl rfl rfl rfl (by omega) ?_; intro w1 hrow hb hsz; have e0 : w1.cell? ⟨bg, og, none⟩ = some (.int .i64 G0) := (by rw [← HG0.out]; exact cell_be hb (Hcg.out 0 (by omega)))) | (with_reducible refine wp_copyT rfl _ _ rfl w.heap.size _ _ (List.replicate n 0) rfl hrow.out (by simp) _ _ _ _ f rfl (h1.below hb) hk0.out w.heap.size (Nat.le_refl _) ?_; intro w2 hrow2 hb2; replace e0 := (hb2.cell (p := ⟨bg, og, none⟩) (by exact hbg)).trans e0))
  refine (inverse_any p G0 _ hp hp2 hr0.1 hr0.2).mono ?_
  rintro e w3 ⟨rfl, hb3⟩
  have hq0 := powM_rng (p := p) (x := G0) (k := p - 2) hp
  obtain ⟨q, hqd⟩ : ∃ q, invM p G0 = q := ⟨_, rfl⟩
  have hq1 : 0 ≤ q ∧ q < p := by rw [← hqd]; exact hq0
  have HQ := hide hqd
  rw [hqd]
  have hB3 := (hb.trans hb2).trans (hb3.mono (Nat.le_trans (Nat.le_of_lt hsz) hb2.size))
  have hs3 : w.heap.size < w3.heap.size := Nat.lt_of_lt_of_le hsz (Nat.le_trans hb2.size hb3.size)
  have hR3 : Hid (RowI w3 w.heap.size (tab n (serR p f g 0))) := hide (by
    have := hrow2.out.next hb3
    rw [pad_tabT f n _ (by rw [hl1.out]), serR_zero p f g] at this
    exact this)
  clear e0 hq0 hqd hrow hrow2 hb hb2 hsz hb3 hk0
  go_wp2
  go_loopw [25] (fun kv wr => ∃ k : Nat, k ≤ n ∧ kv = .int .i64 k ∧ Hid (RowI wr w.heap.size (tab n (serR p f g k))) ∧ Below w.heap.size w wr ∧ w.heap.size < wr.heap.size) (fun kv _ => n - (intOf kv).toNat)
  case atStart => exact ⟨0, by omega, rfl, hR3, hB3, hs3⟩
  case round =>
    obtain ⟨k, hk, rfl, hR, hBr, hsr⟩ := hrel
    clear hR3 hB3 hs3
    by_cases hlt : k < n
    · have hlt' : (k : Int) < (n : Int) := by omega
      have e1 := hR.out.cell k (by rw [tab_len]; exact hlt)
      rw [tab_at _ _ _ hlt] at e1
      have r1 := serR_rng hp Hf.out g k k
      have hS : Hid (serR p f g k k * q % p = serS p f g k) := hide (by have := serR_at hp Hf.out g k; rwa [HG0.out, HQ.out] at this)
      have hfr := hR.out.free k
      have hset := hR.out.set k (serS p f g k)
      rw [serR_set] at hset
      have r2 := serS_rng hp f g k
      obtain ⟨x, hx⟩ : ∃ x, serR p f g k k = x := ⟨_, rfl⟩
      rw [hx] at e1 r1 hS
      obtain ⟨s, hs⟩ : ∃ s, serS p f g k = s := ⟨_, rfl⟩
      rw [hs] at hS hset r2
      have Hset := hide hset
      have HS := hide hs
      obtain ⟨m1, m2⟩ := mulb r1.1 r1.2 hq1.1 hq1.2 hp2
      have v3 : IntKind.i64.wrap (x * q) = x * q := IntWalk.i64_in _ (by omega)
      have v4 : (x * q).tmod p = s := by rw [← hS.out]; exact Int.tmod_eq_emod_of_nonneg (by omega)
      have hBn := hBr.setCell (p := ⟨w.heap.size, k, none⟩) (by simp) (.int .i64 s)
      have hsn : w.heap.size < (wr.setCell ⟨w.heap.size, k, none⟩ (.int .i64 s)).heap.size := by simpa using hsr
      clear hset hx hs hS hR
      go_wp2
      generalize wr.setCell ⟨w.heap.size, k, none⟩ (.int .i64 s) = wo at Hset hBn hsn ⊢
      go_loopw [12] (fun iv wr => ∃ i : Nat, 1 ≤ i ∧ k + i ≤ n ∧ iv = .int .i64 i ∧ Hid (RowI wr w.heap.size (tab n (serI p f g k i))) ∧ Below w.heap.size w wr ∧ w.heap.size < wr.heap.size) (fun iv _ => n - (intOf iv).toNat)
      case atStart => exact ⟨1, by omega, by omega, rfl, Hset, hBn, hsn⟩
      case round =>
        obtain ⟨i, hi1, hi2, rfl, hR, hBx, hsx⟩ := hrel
        clear Hset hBn hsn
        have hbw := hBx.size
        by_cases hgo : i < n2 ∧ k + i < n
        · have e2 := cell_be hBx (Hcg.out i hgo.1)
          have e3 := hR.out.cell (k + i) (by rw [tab_len]; omega)
          have e4 := hR.out.cell k (by rw [tab_len]; omega)
          rw [tab_at _ _ _ (by omega), (serI_at p f g k i hi1).1] at e3
          rw [tab_at _ _ _ (by omega), (serI_at p f g k i hi1).2, HS.out] at e4
          have r3 := getD_rng Hg.out hp i
          have r4 := serP_rng hp Hf.out g (serS p f g) k (k + i)
          have hfr2 := hR.out.free (k + i)
          have hset := hR.out.set (k + i) ((serP p f g (serS p f g) k (k + i) + (p - serS p f g k) * g.getD i 0) % p)
          rw [serI_set p f g n k i hi1, HS.out] at hset
          obtain ⟨y, hy⟩ : ∃ y, g.getD i 0 = y := ⟨_, rfl⟩
          obtain ⟨z, hz⟩ : ∃ z, serP p f g (serS p f g) k (k + i) = z := ⟨_, rfl⟩
          rw [hy] at e2 r3 hset
          rw [hz] at e3 r4 hset
          have Hset := hide hset
          obtain ⟨q1, q2⟩ := mulb2 (x := p - s) (y := y) (by omega) (by omega) r3.1 (by omega)
          have v1 : IntKind.i64.wrap ((p - s) * y) = (p - s) * y := IntWalk.i64_in _ (by omega)
          have v2 : IntKind.i64.wrap (z + (p - s) * y) = z + (p - s) * y := IntWalk.i64_in _ (by omega)
          have v5 : IntKind.i64.wrap (p - s) = p - s := IntWalk.i64_in _ (by omega)
          have v6 : (z + (p - s) * y).tmod p = (z + (p - s) * y) % p := Int.tmod_eq_emod_of_nonneg (by omega)
          have v7 : IntKind.i64.wrap ((k : Int) + (i : Int)) = (k : Int) + (i : Int) := IntWalk.i64_in _ (by omega)
          have v8 := modb (x := z + (p - s) * y) hp
          have v9 : IntKind.i64.wrap ((z + (p - s) * y) % p) = (z + (p - s) * y) % p := IntWalk.i64_in _ (by omega)
          have hki : ((k : Int) + (i : Int)).toNat = k + i := by omega
          have hp0 : ¬ p = 0 := by omega
          have g1 : (i : Int) < (n2 : Int) := by omega
          have g2 : (k : Int) + (i : Int) < (n : Int) := by omega
          have g3 : (0 : Int) ≤ (k : Int) + (i : Int) := by omega
          clear hset hy hz hgo v3 v4
          go_wp2
          refine wp_region_still_tail 25 (by kernel_rfl) (by kernel_rfl) ?_
          simp only [List.take_succ_cons, List.take_zero, List.drop_succ_cons, List.drop_zero]
          repeat still_step
          refine wpStill_nil ?_
          clear v1 v2 v5 v6 v7 v8 v9 hki
          go_wp2
          go_roundw
          case rel => exact ⟨i + 1, by omega, by omega, by go_num, Hset, (hBx.setCell (by simp) _).drew, by simpa using hsx⟩
          case measure => simp [intOf]; omega
        · have hnext : Hid (RowI wr w.heap.size (tab n (serR p f g (k + 1)))) := hide (by
            have := hR.out
            rwa [serI_end hp Hf.out g n k i (by rw [hl2.out]; omega)] at this)
          have hgo2 : ¬ ((i : Int) < (n2 : Int) ∧ (k : Int) + (i : Int) < (n : Int)) := by omega
          clear hR v3 v4
          by_cases hgk : (i : Int) < (n2 : Int)
          · have hgn : ¬ (k : Int) + (i : Int) < (n : Int) := fun h => hgo2 ⟨hgk, h⟩
            clear hgo hgo2
            go_wp2
            go_roundw
            case rel => exact ⟨k + 1, by omega, by go_num, hnext, hBx, hsx⟩
            case measure => simp [intOf]; omega
          · clear hgo hgo2
            go_wp2
            go_roundw
            case rel => exact ⟨k + 1, by omega, by go_num, hnext, hBx, hsx⟩
            case measure => simp [intOf]; omega
    · obtain rfl : k = n := by omega
      have hfin : Own w.heap.size wr (some ⟨w.heap.size, 0, none⟩) k (serL p f g k) := by
        have h3 := hR.out.own' (Nat.le_refl _) (by rw [tab_len]; unfold maxLen; omega)
        rw [tab_len, serR_done] at h3
        exact h3
      go_wp2
      go_ret
      exact ⟨_, k, rfl, hfin, hBr⟩
end Go.Proofs.Ytnojmghmkoojfaa
