/- Contracts: ScaleRoots (program and model). -/
import Derived.Test.YtnojmghmkoojfaaSu
import Derived.Test.YtnojmghmkoojfaaRz
import Derived.Test.YtnojmghmkoojfaaVa
import Derived.Test.YtnojmghmkoojfaaQa
namespace Go.Proofs.Ytnojmghmkoojfaa
open Go.RowKit Go.Shelf
set_option linter.unusedVariables false
set_option linter.unusedSimpArgs false
attribute [local go_sem] Oper.semAt_some

def scP (p c : Int) : Nat → Int
  | 0 => 1
  | j + 1 => scP p c j * c % p
theorem scP_rng {p : Int} (hp : 2 ≤ p) (c : Int) (j : Nat) : 0 ≤ scP p c j ∧ scP p c j < p := by
  cases j with
  | zero => unfold scP; omega
  | succ j => exact modb hp
def scT (p c : Int) (xs : List Int) (k : Nat) : Nat → Int := fun j => if xs.length ≤ j + k then xs.getD j 0 * scP p c (xs.length - 1 - j) % p else 0
def scL (p c : Int) (xs : List Int) : List Int := tab xs.length (scT p c xs xs.length)
def scC (p : Int) (f : List Int) (c : Int) : Int := if chk1 p f = 0 then (if 1 ≤ c ∧ c < p then 0 else 2) else chk1 p f
def scV (p : Int) (f : List Int) (c : Int) : List Int := if scC p f c = 0 then scL p c f else []
theorem scT_zero (p c : Int) (xs : List Int) (n : Nat) (h : xs.length = n) : List.replicate n (0 : Int) = tab n (scT p c xs 0) := by
  apply ext_tab
  · rw [List.length_replicate, tab_len]
  · intro j hj
    rw [List.length_replicate] at hj
    rw [tab_at _ _ _ hj]
    unfold scT
    rw [if_neg (by omega)]
    simp [hj]
theorem scT_set (p c : Int) (xs : List Int) (n k : Nat) (h : xs.length = n) (hk : k < n) : (tab n (scT p c xs k)).set (n - 1 - k) (xs.getD (n - 1 - k) 0 * scP p c k % p) = tab n (scT p c xs (k + 1)) := by
  rw [tab_set]
  apply tab_congr
  intro j hj
  unfold scT
  by_cases e : j = n - 1 - k
  · subst e
    rw [if_pos rfl, if_pos (by omega), h, show n - 1 - (n - 1 - k) = k by omega]
  · rw [if_neg e]
    by_cases h2 : xs.length ≤ j + k
    · rw [if_pos h2, if_pos (by omega)]
    · rw [if_neg h2, if_neg (by omega)]
set_option maxRecDepth 100000 in
set_option maxHeartbeats 3200000 in
theorem specScaleRoots (p : Int) (a1 : Option Addr) (n1 c1 : Nat) (f : List Int) (x : Int) (w : World) (h1 : SL w a1 n1 c1 f) (b1 : n1 ≤ 4000000) :
    Calls Try.prog 23 #[.int .i64 p, .slice a1 n1 c1, .int .i64 x] w (Res1 w (scV p f x) (scC p f x)) := by
  have hl1 := hide h1.len
  rcases chk1_cases p f with hc | hc | ⟨hc, hf, hpr⟩
  · have HC := hide (show scC p f x = 1 by simp [scC, hc])
    have HV := hide (show scV p f x = [] by simp [scV, HC.out])
    have Hc := hide hc
    clear hc
    go_enter Try.func23, Try.ntmps23
    go_wp2_with (go_at_call 58; refine (code1 p _ _ _ f 1 _ h1 b1 Hc.out).mono ?_; rintro e w1 ⟨rfl, hb1⟩)
    go_ret2
    exact Res1.nil HV.out HC.out hb1
  · have HC := hide (show scC p f x = 2 by simp [scC, hc])
    have HV := hide (show scV p f x = [] by simp [scV, HC.out])
    have Hc := hide hc
    clear hc
    go_enter Try.func23, Try.ntmps23
    go_wp2_with (go_at_call 58; refine (code1 p _ _ _ f 2 _ h1 b1 Hc.out).mono ?_; rintro e w1 ⟨rfl, hb1⟩)
    go_ret2
    exact Res1.nil HV.out HC.out hb1
  obtain ⟨hp, hp2⟩ := primeB_lo hpr
  have d1 : n1 ≤ 25 := by have := poly_len hf; have := hl1.out; omega
  have Hc := hide hc
  by_cases hx : 1 ≤ x ∧ x < p
  rotate_left
  · have HC := hide (show scC p f x = 2 by simp [scC, hc, hx])
    have HV := hide (show scV p f x = [] by simp [scV, HC.out])
    have Hx := hide hx
    clear hc hf hpr hx
    go_enter Try.func23, Try.ntmps23
    go_wp2_with fail
    refine (code1 p _ _ _ f 0 _ h1 b1 Hc.out).mono ?_
    rintro e w1 ⟨rfl, hb1⟩
    go_wp2_with fail
    refine (l01In_no _ _ _ _ (fun h => Hx.out ⟨h.1, by omega⟩)).mono ?_
    rintro e w2 ⟨rfl, rfl⟩
    go_wp2
    go_ret2
    exact Res1.nil HV.out HC.out hb1
  obtain ⟨hx0, hx1⟩ := hx
  have HC := hide (show scC p f x = 0 by simp [scC, hc, hx0, hx1])
  have HV := hide (show scV p f x = tab n1 (scT p x f n1) by simp only [scV, HC.out, if_true]; unfold scL; rw [hl1.out])
  have Hf := hide (poly_are hf)
  have HZ := hide (scT_zero p x f n1 hl1.out)
  clear hc hf hpr
  go_enter Try.func23, Try.ntmps23
  go_wp2_with fail
  refine (code1 p _ _ _ f 0 _ h1 b1 Hc.out).mono ?_
  rintro e w1 ⟨rfl, hb1⟩
  go_wp2_with fail
  refine (l01In_yes _ _ _ _ hx0 (by omega)).mono ?_
  rintro e w2 ⟨rfl, rfl⟩
  have s1 := h1.below hb1
  have hz1 := hb1.size
  go_wp2_with (at_make; refine wp_make rfl _ _ rfl _ _ n1 rfl rfl rfl rfl (by omega) ?_; intro w2 hrow hb hsz)
  have hR0 : Hid (RowI w2 w1.heap.size (tab n1 (scT p x f 0))) := hide (by have := hrow.out; rwa [HZ.out] at this)
  have hB0 := hb
  clear hrow hb
  go_loopw [10, 11] (fun pv iv wr => ∃ k : Nat, k ≤ n1 ∧ iv = .int .i64 ((n1 : Int) - 1 - (k : Int)) ∧ pv = .int .i64 (scP p x k) ∧ Hid (RowI wr w1.heap.size (tab n1 (scT p x f k))) ∧ Below w1.heap.size w1 wr ∧ w1.heap.size < wr.heap.size) (fun _ iv _ => (intOf iv + 1).toNat)
  case atStart => exact ⟨0, by omega, by simp, rfl, hR0, hB0, hsz⟩
  case round =>
    obtain ⟨k, hk, rfl, rfl, hR, hBr, hsr⟩ := hrel
    clear hR0 hB0 hsz
    by_cases hlt : k < n1
    · obtain ⟨i, hi⟩ : ∃ i : Nat, i = n1 - 1 - k := ⟨_, rfl⟩
      have hii : (n1 : Int) - 1 - (k : Int) = (i : Int) := by omega
      obtain ⟨b, off, ha, hbw, hcell⟩ := (s1.below hBr).at (by omega)
      subst ha
      have e1 := hcell i (by omega)
      have r1 := getD_rng Hf.out hp i
      have r2 := scP_rng hp x k
      have hset := hR.out.set i (f.getD i 0 * scP p x k % p)
      rw [hi, scT_set p x f n1 k hl1.out hlt, ← hi] at hset
      have hst := hide (show scP p x (k + 1) = scP p x k * x % p from rfl)
      obtain ⟨y, hy⟩ : ∃ y, f.getD i 0 = y := ⟨_, rfl⟩
      obtain ⟨q, hq⟩ : ∃ q, scP p x k = q := ⟨_, rfl⟩
      have hcw := hR.out.cell i (by rw [tab_len]; omega)
      obtain ⟨old, hold⟩ : ∃ old, (tab n1 (scT p x f k)).getD i 0 = old := ⟨_, rfl⟩
      rw [hold] at hcw
      rw [hy] at e1 r1 hset
      rw [hq] at r2 hset hst ⊢
      have hfr := hR.out.free i
      obtain ⟨m1, m2⟩ := mulb r1.1 r1.2 r2.1 r2.2 hp2
      obtain ⟨m3, m4⟩ := mulb r2.1 r2.2 (show 0 ≤ x by omega) hx1 hp2
      have v1 : IntKind.i64.wrap (y * q) = y * q := IntWalk.i64_in _ (by omega)
      have v2 : (y * q).tmod p = y * q % p := Int.tmod_eq_emod_of_nonneg m1
      have rd := modb (x := y * q) hp
      obtain ⟨z, hz⟩ : ∃ z, y * q % p = z := ⟨_, rfl⟩
      rw [hz] at v2 rd hset
      have v3 : IntKind.i64.wrap z = z := IntWalk.i64_in _ (by omega)
      have v4 : IntKind.i64.wrap (q * x) = q * x := IntWalk.i64_in _ (by omega)
      have v5 : (q * x).tmod p = q * x % p := Int.tmod_eq_emod_of_nonneg m3
      have re := modb (x := q * x) hp
      obtain ⟨t, ht⟩ : ∃ t, q * x % p = t := ⟨_, rfl⟩
      rw [ht] at v5 re hst
      have v6 : IntKind.i64.wrap t = t := IntWalk.i64_in _ (by omega)
      have v7 : IntKind.i64.wrap ((i : Int) - 1) = (i : Int) - 1 := IntWalk.i64_in _ (by omega)
      have hp0 : ¬ p = 0 := by omega
      have q1 : (i : Int) < (n1 : Int) := by omega
      have q2 : (0 : Int) ≤ (i : Int) := by omega
      have Hset := hide hset
      have Hi := hide hi
      have hBn := hBr.setCell (p := ⟨w1.heap.size, i, none⟩) (by simp) (.int .i64 z)
      have hsn : w1.heap.size < (wr.setCell ⟨w1.heap.size, i, none⟩ (.int .i64 z)).heap.size := by simpa using hsr
      rw [hii]
      clear hcell hy hq hold hz ht hset hi hii hR
      go_wp2
      go_roundw
      case rel => exact ⟨k + 1, by omega, by rw [show ((n1 : Int) - 1 - ((k + 1 : Nat) : Int)) = (i : Int) - 1 by have := Hi.out; omega], by rw [hst.out], Hset, hBn, hsn⟩
      case measure => first | (simp [intOf]; done) | (simp [intOf]; omega)
    · obtain rfl : k = n1 := by omega
      have hlt' : ¬ (0 : Int) ≤ (k : Int) - 1 - (k : Int) := by omega
      have hfin : Own w.heap.size wr (some ⟨w1.heap.size, 0, none⟩) k (tab k (scT p x f k)) := by
        have h3 := hR.out.own' (B := w.heap.size) hz1 (by rw [tab_len]; unfold maxLen; omega)
        rw [tab_len] at h3
        exact h3
      have Hfin := hide hfin
      have hBw := hb1.trans (hBr.mono hz1)
      clear hfin hR
      go_wp2
      go_ret2
      exact Res1.own HC.out (by rw [HV.out, tab_len]) (by rw [HV.out]; exact Hfin.out) (by rw [HV.out, tab_len]; omega) hBw
/-- An index kept within n, and a number. -/
def bkM {p : Int} (n : Nat) (x : Nat × NumP p) : Array Value := #[.int .i64 ((x.1 % n : Nat) : Int), .int .i64 x.2.1]
set_option maxRecDepth 100000 in
set_option maxHeartbeats 2000000 in
theorem back1M (F : Fence) (n : Nat) (h1 : F.fn 104) (hro : F.round = none) (hn : 1 ≤ n) (l Bs n₀ b off cap : Nat) (p : Int) (hp : 0 < p) (xs : List Int) (hx : ∀ (j : Nat), xs[j]?.getD 0 % p = xs[j]?.getD 0) (hlen : xs.length ≤ 1000) (hb : b < n₀) (J Jx : List (Nat × NumP p) → World → Prop)
    (hY : ∀ pre x W, J pre W → pre.length < xs.length → YieldAt F (n - 1) Try.prog l (bkM xs.length x) W fun e W' =>
      (e = .returned (.bool true) ∧ J (pre ++ [x]) W' ∧ KpB n₀ Bs W W') ∨ (e = .returned (.bool false) ∧ Jx (pre ++ [x]) W'))
    (W : World) (hBs : W.cell? ⟨Bs, 0, none⟩ = some (.slice (some ⟨b, off, none⟩) xs.length cap)) (hc : ∀ j, j < xs.length → W.cell? ⟨b, off + j, none⟩ = some (.int .i64 (xs[j]?.getD 0))) (h0 : J [] W) :
    CallsIn F n Try.prog 104 #[.func (.yield l) #[] #[], .pointer (some ⟨Bs, 0, none⟩)] W fun e W' => (∃ v, e = .returned v) ∧
      ((∃ ys, ys = upto (bkF p hp xs) xs.length ∧ J ys W') ∨ (∃ pre, (∃ k, k ≤ xs.length ∧ pre = upto (bkF p hp xs) k) ∧ Jx pre W')) := by
  have HX := hide hx
  clear hx
  obtain ⟨N, hN⟩ : ∃ N, xs.length = N := ⟨_, rfl⟩
  have HN := hide hN
  rw [hN] at hlen hBs
  have v0 : IntKind.i64.wrap ((N : Int) - 1) = (N : Int) - 1 := IntWalk.i64_in _ (by omega)
  refine callsIn_of_wp Try.func104 rfl h1 ?_ hro
  simp only [Try.ntmps104, List.size_toArray, List.length_cons, List.length_nil, Nat.reduceAdd, Nat.reduceSub, Array.replicate_succ, Array.replicate_zero, List.push_toArray, List.append_toArray, List.nil_append, List.cons_append]
  clear hN
  gi_wp2
  clear v0
  gi_loopw [3] (fun i wr => ∃ k : Nat, k ≤ N ∧ i = .int .i64 ((N : Int) - 1 - k) ∧ J (upto (bkF p hp xs) k) wr ∧ KpB n₀ Bs W wr)
    (fun i _ => (intOf i + 1).toNat)
  case atStart => exact ⟨0, Nat.zero_le _, by simp, h0, Below.refl _ _, fun v h => h⟩
  case round =>
    obtain ⟨k, hk, rfl, hJs, hnx⟩ := hrel
    have hBx := hnx.2 _ hBs
    by_cases hlt : k < N
    · obtain ⟨i, hi⟩ : ∃ i : Nat, i = N - 1 - k := ⟨_, rfl⟩
      have hii : (N : Int) - 1 - k = (i : Int) := by omega
      have hcx : wr.cell? ⟨b, off + i, none⟩ = some (.int .i64 (xs[i]?.getD 0)) := (hnx.1.cell (p := ⟨b, off + i, none⟩) hb).trans (hc i (by rw [HN.out]; omega))
      obtain ⟨fn, tmps, assign, body, hy, hR⟩ := hY _ (bkF p hp xs k) wr hJs (by rw [upto_length, HN.out]; exact hlt)
      have he : bkM xs.length (bkF p hp xs k) = #[.int .i64 (i : Int), .int .i64 (xs[i]?.getD 0)] := by
        unfold bkM bkF
        simp only [HN.out, ← hi, HX.out]
        rw [Nat.mod_eq_of_lt (show i < N by omega)]
      rw [he] at hy
      rw [hii]
      obtain ⟨x, hxd⟩ : ∃ x, xs[i]?.getD 0 = x := ⟨_, rfl⟩
      rw [hxd] at hcx hy
      have q0 : (0 : Int) ≤ (i : Int) := by omega
      have q1 : (i : Int) < (N : Int) := by omega
      have Hi := hide hi
      have v1 : IntKind.i64.wrap ((i : Int) - 1) = (i : Int) - 1 := IntWalk.i64_in _ (by omega)
      clear he hi hii hxd
      gi_wp2
      refine hR.mono ?_
      rintro e W3 (⟨rfl, hJ3, hk3⟩ | ⟨rfl, hJx3⟩)
      · have hn3 := hnx.t hk3
        clear hcx hBx
        gi_wp2
        go_roundw
        case rel => exact ⟨k + 1, by omega, by rw [show ((N : Int) - 1 - ((k + 1 : Nat) : Int)) = (i : Int) - 1 by have := Hi.out; omega], by rw [upto_succ]; exact hJ3, hn3⟩
        case measure => first | (simp [intOf]; done) | (simp [intOf]; omega)
      · gi_wp2
        refine bodyPost_ret (results_none rfl _ _ _) rfl ?_
        exact ⟨⟨_, rfl⟩, .inr ⟨_, ⟨k + 1, by rw [HN.out]; omega, (upto_succ _ _).symm⟩, hJx3⟩⟩
    · obtain rfl : k = N := by omega
      have hneg : ¬ (0 : Int) ≤ (k : Int) - 1 - (k : Int) := by omega
      gi_wp2
      go_end0
      rw [← HN.out] at hJs
      exact ⟨⟨_, rfl⟩, .inl hJs⟩
theorem backM_stops (F : Fence) (n : Nat) (h1 : F.fn 104) (hro : F.round = none) (hn : 1 ≤ n) (Bs n₀ b off cap : Nat) (p : Int) (hp : 0 < p) (xs : List Int) (hx : ∀ (j : Nat), xs[j]?.getD 0 % p = xs[j]?.getD 0) (hlen : xs.length ≤ 1000) (hb : b < n₀) (w : World) (hn0 : n₀ ≤ w.heap.size)
    (hBs : w.cell? ⟨Bs, 0, none⟩ = some (.slice (some ⟨b, off, none⟩) xs.length cap)) (hc : ∀ j, j < xs.length → w.cell? ⟨b, off + j, none⟩ = some (.int .i64 (xs[j]?.getD 0))) :
    SeqStopsK F n Try.prog 104 #[.pointer (some ⟨Bs, 0, none⟩)] (fun x : Nat × NumP p => #[Value.int .i64 ((x.1 % xs.length : Nat) : Int), Value.int .i64 x.2.1]) (KpB n₀ Bs) (fun ys => ys = upto (bkF p hp xs) xs.length) (fun pre => ∃ k, k ≤ xs.length ∧ pre = upto (bkF p hp xs) k) xs.length w := fun l J Jx W hW _ _ hY h0 =>
  back1M F n h1 hro hn l Bs n₀ b off cap p hp xs hx hlen hb J Jx hY W (cell_be hW hBs) (fun j hj => cell_be hW (hc j hj)) h0
/-- The row behind the rounds of pre. -/
def scG {p : Int} (c : Int) (n : Nat) (pre : List (Nat × NumP p)) : Nat × List Int :=
  pre.foldl (fun acc x => (acc.1 + 1, acc.2.set (x.1 % n) (x.2.1 * scP p c acc.1 % p))) (0, List.replicate n 0)
theorem scG_one {p : Int} (c : Int) (n : Nat) (pre : List (Nat × NumP p)) : (scG c n pre).1 = pre.length := by
  have : ∀ (pre : List (Nat × NumP p)) (a : Nat × List Int), (pre.foldl (fun acc x => (acc.1 + 1, acc.2.set (x.1 % n) (x.2.1 * scP p c acc.1 % p))) a).1 = a.1 + pre.length := by
    intro pre
    induction pre with
    | nil => intro a; rfl
    | cons x l ih => intro a; rw [List.foldl_cons, ih]; simp; omega
  unfold scG
  rw [this]
  simp
theorem scG_len {p : Int} (c : Int) (n : Nat) (pre : List (Nat × NumP p)) : (scG c n pre).2.length = n := by
  have : ∀ (pre : List (Nat × NumP p)) (a : Nat × List Int), (pre.foldl (fun acc x => (acc.1 + 1, acc.2.set (x.1 % n) (x.2.1 * scP p c acc.1 % p))) a).2.length = a.2.length := by
    intro pre
    induction pre with
    | nil => intro a; rfl
    | cons x l ih => intro a; rw [List.foldl_cons, ih]; simp
  unfold scG
  rw [this]
  simp
theorem scG_snoc {p : Int} (c : Int) (n : Nat) (pre : List (Nat × NumP p)) (x : Nat × NumP p) : (scG c n (pre ++ [x])).2 = (scG c n pre).2.set (x.1 % n) (x.2.1 * scP p c pre.length % p) := by
  have h := scG_one c n pre
  unfold scG at *
  rw [List.foldl_append, List.foldl_cons, List.foldl_nil]
  simp only [h]
theorem scG_all {p : Int} (hp : 0 < p) (c : Int) (xs : List Int) (hx : ∀ (j : Nat), xs[j]?.getD 0 % p = xs[j]?.getD 0) : ∀ k, k ≤ xs.length → (scG c xs.length (upto (bkF p hp xs) k)).2 = tab xs.length (scT p c xs k) := by
  intro k
  induction k with
  | zero => intro _; exact scT_zero p c xs xs.length rfl
  | succ k ih =>
    intro hk
    rw [upto_succ, scG_snoc, ih (by omega), upto_length]
    have e1 : (bkF p hp xs k).1 % xs.length = xs.length - 1 - k := Nat.mod_eq_of_lt (by unfold bkF; simp only; omega)
    have e2 : (bkF p hp xs k).2.1 = xs.getD (xs.length - 1 - k) 0 := by
      unfold bkF
      simp only [hx]
      rw [List.getD_eq_getElem?_getD]
    rw [e1, e2]
    exact scT_set p c xs xs.length k rfl (by omega)
theorem RowI.turn {w w' : World} {g : Nat} {ys : List Int} {row : Option Nat} (h : RowI w g ys) (hg : w.grownBy w' row) (hr : ∀ r, row = some r → ∃ o : Obj, w.heap[r]? = some o ∧ o.isCells = false) : RowI w' g ys :=
  (hg.block g h.lt (fun e => by
    obtain ⟨o, ho, hc⟩ := hr g e.symm
    rw [h] at ho
    cases ho
    cases hc)).trans h
/-- Between two rounds: the boxes of p and c, the list in block L with its box behind it, the box of the power, the box of the list that is walked. -/
def ScI (w w1 : World) (p c : Int) (n : Nat) (sv : Value) (pre : List (Nat × NumP p)) (W : World) : Prop :=
  (W.cell? ⟨w.heap.size, 0, none⟩ = some (.int .i64 p) ∧ W.cell? ⟨w.heap.size + 1, 0, none⟩ = some (.int .i64 c) ∧ W.cell? ⟨w1.heap.size + 1, 0, none⟩ = some (.slice (some ⟨w1.heap.size, 0, none⟩) n n)) ∧
  (W.cell? ⟨w1.heap.size + 1 + 1, 0, none⟩ = some (.int .i64 (scP p c pre.length)) ∧ W.frozen? ⟨w1.heap.size + 1 + 1, 0, none⟩ = false) ∧
  W.cell? ⟨w1.heap.size + 1 + 1 + 1, 0, none⟩ = some sv ∧ RowI W w1.heap.size (scG c n pre).2 ∧ Below w1.heap.size w1 W
theorem ScI.own {w w1 : World} {p c : Int} {n : Nat} {sv : Value} (B : Nat) (hB : w1.heap.size ≤ B) : OwnFrom B (ScI w w1 p c n sv) := by
  rintro pre W W' row ⟨⟨a1, a2, a3⟩, ⟨b1, b2⟩, c1, d1, hW⟩ hg hr
  have hr' := fun r e => (hr r e).2
  exact ⟨⟨cell_kept a1 hg hr', cell_kept a2 hg hr', cell_kept a3 hg hr'⟩, ⟨cell_kept b1 hg hr', (frozen_kept b1 hg hr').trans b2⟩, cell_kept c1 hg hr', d1.turn hg hr', hW.grown hg hW.size (fun k e => Nat.le_trans hB (hr k e).1)⟩
set_option maxRecDepth 100000 in
set_option maxHeartbeats 3200000 in
theorem implScaleRoots_good (p : Int) (b off n1 c1 : Nat) (f : List Int) (x : Int) (w : World) (h1 : SL w (some ⟨b, off, none⟩) n1 c1 f) (hc : chk1 p f = 0) (hf : polyB p f = true) (hpr : primeB p = true) (hx0 : 1 ≤ x) (hx1 : x < p) (hn0 : 1 ≤ n1) :
    Calls Try.prog 24 #[.int .i64 p, .slice (some ⟨b, off, none⟩) n1 c1, .int .i64 x] w (Res1 w (scL p x f) 0) := by
  have hl1 := hide h1.len
  obtain ⟨hp, hp2⟩ := primeB_lo hpr
  have d1 : n1 ≤ 25 := by have := poly_len hf; have := hl1.out; omega
  have Hc := hide hc
  have HF := hide (poly_are hf)
  obtain ⟨b', off', hb', hbw, hcell⟩ := h1.at (by omega)
  simp only [Option.some.injEq, Addr.mk.injEq, and_true] at hb'
  obtain ⟨rfl, rfl⟩ := hb'
  have Hcell := hide hcell
  have hb0 := bl2 w (.cells #[.int .i64 p] 2) (.cells #[.int .i64 x] 2)
  have s0 := h1.below hb0
  obtain ⟨w0, hw0⟩ : ∃ w0, w0 = (w.alloc (.cells #[.int .i64 p] 2)).alloc (.cells #[.int .i64 x] 2) := ⟨_, rfl⟩
  rw [← hw0] at hb0 s0
  have y1 : w0.cell? ⟨w.heap.size, 0, none⟩ = some (.int .i64 p) := by rw [hw0]; simp [go_sem]
  have y2 : w0.cell? ⟨w.heap.size + 1, 0, none⟩ = some (.int .i64 x) := by rw [hw0]; simp [go_sem]
  have hk := run_mk n1 (by omega)
  have hx0b : (x == 0) = false := by simp; omega
  have hle : x ≤ 10007 := by omega
  clear hc hpr hf hcell
  refine (callsIn_wide (n := 3)).1 ?_
  refine callsIn_of_wp_marks Try.func24 rfl trivial ?_ rfl
  simp only [Try.ntmps24, List.size_toArray, List.length_cons, List.length_nil, Nat.reduceAdd, Nat.reduceSub, Array.replicate_succ, Array.replicate_zero, List.push_toArray, List.append_toArray, List.nil_append, List.cons_append]
  gi_wp2_with fail
  refine ⟨trivial, ?_⟩
  have z0 : w.heap.size + 1 + 1 = w0.heap.size := by rw [hw0]; simp
  have hw0' := hide hw0
  rw [← hw0, z0]
  clear hw0
  refine (callsIn_wide.2 (check1 p _ _ _ f 0 _ s0 (by omega) Hc.out)).mono ?_
  rintro e w1 ⟨rfl, hb1⟩
  have y1' := cell_be hb1 y1
  have y2' := cell_be hb1 y2
  have hB1 := bnext hb0 hb1
  have hz1 := hb1.size
  gi_wp2_with fail
  refine ⟨trivial, ?_⟩
  refine (callsIn_wide.2 (isNumber_yes p x _ (by omega) hx1)).mono ?_
  rintro e w2 ⟨rfl, rfl⟩
  gi_wp2_with fail
  refine ⟨trivial, ?_⟩
  refine (callsIn_wide.2 (backward_any _ _ _ _)).mono ?_
  rintro e w' ⟨rfl, rfl⟩
  obtain ⟨W0, hW0⟩ : ∃ W0, W0 = ((((w1.alloc (.cells (zrow n1) 2)).alloc (.cells #[.slice (some ⟨w1.heap.size, 0, none⟩) n1 n1] 22)).alloc (.cells #[.int .i64 1] 2)).alloc (.cells #[.slice (some ⟨b, off, none⟩) n1 c1] 22)) := ⟨_, rfl⟩
  have hI0 : ScI w w1 p x n1 (.slice (some ⟨b, off, none⟩) n1 c1) [] W0 := by
    have e1 := bl4 w1 (.cells (zrow n1) 2) (.cells #[.slice (some ⟨w1.heap.size, 0, none⟩) n1 n1] 22) (.cells #[.int .i64 1] 2) (.cells #[.slice (some ⟨b, off, none⟩) n1 c1] 22)
    rw [← hW0] at e1
    have hr := (((zrow_row w1 n1).next (bl1 _ (.cells #[.slice (some ⟨w1.heap.size, 0, none⟩) n1 n1] 22))).next (bl1 _ (.cells #[.int .i64 1] 2))).next (bl1 _ (.cells #[.slice (some ⟨b, off, none⟩) n1 c1] 22))
    rw [← hW0] at hr
    have hre : tab n1 (fun _ => 0) = (scG x n1 ([] : List (Nat × NumP p))).2 := by
      unfold scG
      simp [tab, List.map_const']
    rw [hre] at hr
    exact ⟨⟨cell_be e1 y1', cell_be e1 y2', by rw [hW0]; simp [go_sem]⟩, ⟨by rw [hW0]; simp [go_sem, scP], by rw [hW0]; simp [go_sem]⟩, by rw [hW0]; simp [go_sem], hr, e1⟩
  have hz0 : W0.heap.size = w1.heap.size + 4 := by rw [hW0]; simp
  rw [← hW0]
  have hBB := hI0.2.2.2.2
  have hxs : ∀ (j : Nat), f[j]?.getD 0 % p = f[j]?.getD 0 := fun j => by
    have := getD_rng HF.out hp j
    rw [List.getD_eq_getElem?_getD] at this
    exact Int.emod_eq_of_lt this.1 this.2
  have hst := backM_stops Fence.wide 2 trivial rfl (by omega) (w1.heap.size + 1 + 1 + 1) w1.heap.size b off c1 p (by omega) f hxs (by rw [hl1.out]; omega) (by have := hB1.size; omega) W0 hBB.size (by rw [hl1.out]; exact hI0.2.2.1) (fun j hj => cell_be (hB1.trans (hBB.mono hB1.size)) (by have := Hcell.out j (by rw [← hl1.out]; exact hj); rwa [List.getD_eq_getElem?_getD] at this))
  have Hst := hide hst
  have HI0 := hide hI0
  clear hst hI0 hW0 hk
  gi_wp2
  refine wpIn_rangeFunc_ownG rfl (by omega) (gf := 104) (lb := #[.pointer (some ⟨w1.heap.size + 1 + 1 + 1, 0, none⟩)]) rfl trivial (enters_of Try.func104 (by kernel_rfl) rfl) Hst.out KpB.t (KpB.b hBB.size) (Below.refl _ _) (fun _ => rfl)
    (ScI w w1 p x n1 (.slice (some ⟨b, off, none⟩) n1 c1)) (fun _ _ _ => False) (ScI.own _ hBB.size) (fun _ _ _ _ _ hs _ _ => hs) HI0.out _ (by intro l x W K hK; gi_wp2; exact hK) ?body ?done ?stop
  case body =>
    rintro l pre ⟨xi, xv, hx0', hx1'⟩ W ⟨⟨a1, a2, a3⟩, ⟨b1', b2⟩, c1', d1', hW⟩ hpl
    have hsn := scG_snoc x n1 pre (xi, (⟨xv, hx0', hx1'⟩ : NumP p))
    have hq : xi % f.length < n1 := by rw [hl1.out]; exact Nat.mod_lt _ (by omega)
    obtain ⟨q, hqd⟩ : ∃ q, xi % f.length = q := ⟨_, rfl⟩
    have r2 := scP_rng hp x pre.length
    have hnx : scP p x (pre ++ [(xi, (⟨xv, hx0', hx1'⟩ : NumP p))]).length = scP p x pre.length * x % p := by rw [List.length_append]; rfl
    obtain ⟨pw, hpw⟩ : ∃ pw, scP p x pre.length = pw := ⟨_, rfl⟩
    simp only at hsn
    rw [hl1.out] at hqd hq
    rw [hqd, hpw] at hsn
    rw [hqd] at hq
    rw [hpw] at b1' r2 hnx
    obtain ⟨m1, m2⟩ := mulb hx0' hx1' r2.1 r2.2 hp2
    obtain ⟨m3, m4⟩ := mulb r2.1 r2.2 (show 0 ≤ x by omega) hx1 hp2
    have v1 : IntKind.i64.wrap (xv * pw) = xv * pw := IntWalk.i64_in _ (by omega)
    have v2 : (xv * pw).tmod p = xv * pw % p := Int.tmod_eq_emod_of_nonneg m1
    have rd := modb (x := xv * pw) hp
    obtain ⟨z, hz⟩ : ∃ z, xv * pw % p = z := ⟨_, rfl⟩
    rw [hz] at v2 rd hsn
    have v3 : IntKind.i64.wrap z = z := IntWalk.i64_in _ (by omega)
    have v4 : IntKind.i64.wrap (pw * x) = pw * x := IntWalk.i64_in _ (by omega)
    have v5 : (pw * x).tmod p = pw * x % p := Int.tmod_eq_emod_of_nonneg m3
    have re := modb (x := pw * x) hp
    obtain ⟨t, ht⟩ : ∃ t, pw * x % p = t := ⟨_, rfl⟩
    rw [ht] at v5 re hnx
    have v6 : IntKind.i64.wrap t = t := IntWalk.i64_in _ (by omega)
    have hp0 : ¬ p = 0 := by omega
    have q1 : (q : Int) < (n1 : Int) := by omega
    have q2 : (0 : Int) ≤ (q : Int) := by omega
    have cw := d1'.cell q (by rw [scG_len]; exact hq)
    obtain ⟨old, hold⟩ : ∃ old, (scG x n1 pre).2.getD q 0 = old := ⟨_, rfl⟩
    rw [hold] at cw
    have fw := d1'.free q
    have hset := d1'.set q z
    rw [← hsn] at hset
    have Hset := hide hset
    have HN := hide hnx
    have Hq := hide hqd
    have D1 := hide d1'
    clear hset hnx hsn hold hz ht hpw d1'
    have hcast := hide (show (xi : Int) % (f.length : Int) = (q : Int) by rw [hl1.out, ← hqd]; simp)
    clear hqd
    gi_wp2
    simp only [hcast.out]
    have cwd : W.drew.cell? ⟨w1.heap.size, q, none⟩ = some (.int .i64 old) := cw
    have fwd : W.drew.frozen? ⟨w1.heap.size, q, none⟩ = false := fw
    refine region_EI (fun W' => W'.cell? ⟨w1.heap.size + 1, 0, none⟩ = some (.slice (some ⟨w1.heap.size, 0, none⟩) n1 n1) ∧ W'.cell? ⟨w1.heap.size + 1 + 1, 0, none⟩ = some (.int .i64 pw) ∧ W'.cell? ⟨w.heap.size, 0, none⟩ = some (.int .i64 p)) 8 (fun _ => trivial) (by kernel_rfl) (by kernel_rfl) ⟨a3, b1', a1⟩ ?_
    intro hS
    refine anyE_takeL 0 rfl (by kernel_rfl) (fun _ _ _ h => h) hS (by rfl) (v := ?_) ?_ ?_
    rotate_left
    · intro w' hSw; (try dsimp only at hSw); go_simp; (try with_reducible rfl)
    try simp only [Act.put, List.setIfInBounds_toArray, List.set_cons_zero, List.set_cons_succ]
    refine anyE_takeL 1 rfl (by kernel_rfl) (fun _ _ _ h => h) hS (by rfl) (v := ?_) ?_ ?_
    rotate_left
    · intro w' hSw; (try dsimp only at hSw); go_simp; (try with_reducible rfl)
    try simp only [Act.put, List.setIfInBounds_toArray, List.set_cons_zero, List.set_cons_succ]
    refine anyE_takeL 2 rfl (by kernel_rfl) (fun _ _ _ h => h) hS (by rfl) (v := ?_) ?_ ?_
    rotate_left
    · intro w' hSw; (try dsimp only at hSw); go_simp; (try with_reducible rfl)
    try simp only [Act.put, List.setIfInBounds_toArray, List.set_cons_zero, List.set_cons_succ]
    refine anyE_takeL 3 rfl (by kernel_rfl) (fun _ _ _ h => h) hS (by rfl) (v := ?_) ?_ ?_
    rotate_left
    · intro w' hSw; (try dsimp only at hSw); go_simp; (try with_reducible rfl)
    try simp only [Act.put, List.setIfInBounds_toArray, List.set_cons_zero, List.set_cons_succ]
    refine anyE_takeL 4 rfl (by kernel_rfl) (fun _ _ _ h => h) hS (by rfl) (v := ?_) ?_ ?_
    rotate_left
    · intro w' hSw; (try dsimp only at hSw); go_simp; (try with_reducible rfl)
    try simp only [Act.put, List.setIfInBounds_toArray, List.set_cons_zero, List.set_cons_succ]
    refine anyE_takeL 5 rfl (by kernel_rfl) (fun _ _ _ h => h) hS (by rfl) (v := ?_) ?_ ?_
    rotate_left
    · intro w' hSw; (try dsimp only at hSw); go_simp; (try with_reducible rfl)
    try simp only [Act.put, List.setIfInBounds_toArray, List.set_cons_zero, List.set_cons_succ]
    refine anyE_takeL 6 rfl (by kernel_rfl) (fun _ _ _ h => h) hS (by rfl) (v := ?_) ?_ ?_
    rotate_left
    · intro w' hSw; (try dsimp only at hSw); go_simp; (try with_reducible rfl)
    try simp only [Act.put, List.setIfInBounds_toArray, List.set_cons_zero, List.set_cons_succ]
    refine anyE_takeL 7 rfl (by kernel_rfl) (fun _ _ _ h => h) hS (by rfl) (v := ?_) ?_ ?_
    rotate_left
    · intro w' hSw; (try dsimp only at hSw); go_simp; (try with_reducible rfl)
    try simp only [Act.put, List.setIfInBounds_toArray, List.set_cons_zero, List.set_cons_succ]
    clear hS
    refine anyE_lastL (by kernel_rfl) rfl (by kernel_rfl) (fun K' hK' => ?_)
    go_simp
    refine hK'.out _ _ ?_
    clear hK' K'
    simp only [onlyN]
    obtain ⟨W3, hW3⟩ : ∃ W3, W3 = (W.setCell ⟨w1.heap.size, q, none⟩ (.int .i64 z)).drew := ⟨_, rfl⟩
    have hz3 : w1.heap.size + 1 + 1 + 1 < W.heap.size := World.block_lt_of_cell? _ _ c1'
    have hzw := hB1.size
    have k1 : W3.cell? ⟨w.heap.size, 0, none⟩ = some (.int .i64 p) := by rw [hW3]; exact cell_set2 a1 (by simp; omega) _
    have k2 : W3.cell? ⟨w.heap.size + 1, 0, none⟩ = some (.int .i64 x) := by rw [hW3]; exact cell_set2 a2 (by have := hz1; have := z0; simp; omega) _
    have k3 : W3.cell? ⟨w1.heap.size + 1, 0, none⟩ = some (.slice (some ⟨w1.heap.size, 0, none⟩) n1 n1) := by rw [hW3]; exact cell_set2 a3 (by simp) _
    have k4 : W3.cell? ⟨w1.heap.size + 1 + 1, 0, none⟩ = some (.int .i64 pw) := by rw [hW3]; exact cell_set2 b1' (by simp; omega) _
    have k5 : W3.frozen? ⟨w1.heap.size + 1 + 1, 0, none⟩ = false := by
      rw [hW3]
      have t : (W.setCell ⟨w1.heap.size, q, none⟩ (.int .i64 z)).frozen? ⟨w1.heap.size + 1 + 1, 0, none⟩ = false := by simpa using b2
      exact t
    have k6 : W3.cell? ⟨w1.heap.size + 1 + 1 + 1, 0, none⟩ = some (.slice (some ⟨b, off, none⟩) n1 c1) := by rw [hW3]; exact cell_set2 c1' (by simp; omega) _
    have k7 : Hid (RowI W3 w1.heap.size (scG x n1 (pre ++ [(xi, (⟨xv, hx0', hx1'⟩ : NumP p))])).2) := hide (by rw [hW3]; exact Hset.out)
    have k8 : Hid (KeepsFrom W0.heap.size W W3) := hide (by
      rw [hW3]
      have t := (KeepsOthers.setCell W ⟨w1.heap.size, q, none⟩ (.int .i64 z)).from W0.heap.size
      exact ⟨t.1, t.2⟩)
    have k9 : Hid (Below w1.heap.size W W3) := hide (by rw [hW3]; exact ((Below.refl w1.heap.size W).setCell (p := ⟨w1.heap.size, q, none⟩) (by simp) _).drew)
    have k10 : Hid (∀ v, W.cell? ⟨w1.heap.size + 1 + 1 + 1, 0, none⟩ = some v → W3.cell? ⟨w1.heap.size + 1 + 1 + 1, 0, none⟩ = some v) := hide (fun v hv => by rw [hW3]; exact cell_set2 hv (by simp; omega) _)
    rw [← hW3]
    have HW := hide hW
    clear hW3 Hset D1 cw fw cwd fwd a1 a2 a3 b1' b2 c1' hW
    gi_wp2
    refine ⟨k8.out.trans ((KeepsOthers.setCell _ _ _).from _), ⟨k9.out.setCell (by simp; omega) _, fun v hv => cell_set2 (k10.out v hv) (by simp) _⟩, ?_⟩
    refine ⟨⟨cell_set2 k1 (by simp; omega) _, cell_set2 k2 (by have := z0; simp; omega) _, cell_set2 k3 (by simp) _⟩, ⟨?_, by simpa using k5⟩, cell_set2 k6 (by simp) _, k7.out.other (by omega) _, (HW.out.trans k9.out).setCell (by simp; omega) _⟩
    rw [HN.out]
    exact World.cell?_setCell_same _ _ _ k4
  case done =>
    rintro D ys W hD rfl ⟨⟨a1, a2, a3⟩, ⟨b1', b2⟩, c1', d1', hW⟩ hK
    have hD0 : w1.heap.size + 4 ≤ D := by omega
    have hfin : RowI W w1.heap.size (scL p x f) := by
      have e := scG_all (show 0 < p by omega) x f hxs f.length (Nat.le_refl _)
      rw [hl1.out] at e d1'
      unfold scL
      rw [hl1.out, ← e]
      exact d1'
    clear b1' b2 c1' d1' a1 a2
    gi_wp2
    have u3 := cell_kept a3 (grownBy_putObj' W D (.deferred none)) (fun r e => by cases e; exact ⟨_, hK, rfl⟩)
    have hR2 := hfin.turn (grownBy_putObj' W D (.deferred none)) (fun r e => by cases e; exact ⟨_, hK, rfl⟩)
    have hB2 := (hB1.trans (hW.mono hB1.size)).trans (belowK_b (w := w) (Nat.le_refl _) W D _ (.deferred none) (by have := hB1.size; omega) hK rfl rfl)
    refine ⟨by simp, .inl ⟨_, _, rfl, run_takeDeferred hK, ?_⟩⟩
    refine ⟨.tuple #[.slice (some ⟨w1.heap.size, 0, none⟩) n1 n1, .int .i64 0], ?_, ?_⟩
    · simp [results, Try.results24, go_sem, u3]
    · have ho := hR2.own' (B := w.heap.size) hB1.size (by unfold scL; rw [tab_len, hl1.out]; unfold maxLen; omega)
      have hsl : (scL p x f).length = n1 := by unfold scL; rw [tab_len, hl1.out]
      rw [hsl] at ho
      exact Res1.own rfl hsl.symm ho (by omega) hB2
  case stop =>
    rintro D c' pre W _ _ h _
    exact h.elim
set_option maxRecDepth 100000 in
set_option maxHeartbeats 2000000 in
theorem back0_in (F : Fence) (n : Nat) (h1 : F.fn 104) (hro : F.round = none) (hn : 1 ≤ n) (l Bs : Nat) (a : Option Addr) (cap : Nat) (J Jx : List Nat → World → Prop)
    (W : World) (hBs : W.cell? ⟨Bs, 0, none⟩ = some (.slice a 0 cap)) (h0 : J [] W) :
    CallsIn F n Try.prog 104 #[.func (.yield l) #[] #[], .pointer (some ⟨Bs, 0, none⟩)] W fun e W' => (∃ v, e = .returned v) ∧
      ((∃ ys, ys = [] ∧ J ys W') ∨ (∃ pre, pre = [] ∧ Jx pre W')) := by
  refine callsIn_of_wp Try.func104 rfl h1 ?_ hro
  simp only [Try.ntmps104, List.size_toArray, List.length_cons, List.length_nil, Nat.reduceAdd, Nat.reduceSub, Array.replicate_succ, Array.replicate_zero, List.push_toArray, List.append_toArray, List.nil_append, List.cons_append]
  gi_wp2
  gi_loopw [3] (fun i wr => i = .int .i64 (-1) ∧ wr = W) (fun i _ => 0)
  case atStart => exact ⟨rfl, rfl⟩
  case round =>
    obtain ⟨rfl, rfl⟩ := hrel
    gi_wp2
    go_end0
    exact ⟨⟨_, rfl⟩, .inl ⟨_, rfl, h0⟩⟩
theorem back0_stops (F : Fence) (n : Nat) (h1 : F.fn 104) (hro : F.round = none) (hn : 1 ≤ n) (Bs n₀ : Nat) (a : Option Addr) (cap : Nat) (w : World) (hn0 : n₀ ≤ w.heap.size)
    (hBs : w.cell? ⟨Bs, 0, none⟩ = some (.slice a 0 cap)) :
    SeqStopsK F n Try.prog 104 #[.pointer (some ⟨Bs, 0, none⟩)] (fun x : Nat => #[Value.int .i64 0, Value.int .i64 0]) (KpB n₀ Bs) (fun ys => ys = []) (fun pre => pre = []) 0 w := fun l J Jx W hW _ _ hY h0 =>
  back0_in F n h1 hro hn l Bs a cap J Jx W (cell_be hW hBs) h0
/-- Between two rounds that there are none of. -/
def Sc0 (w1 : World) (pre : List Nat) (W : World) : Prop :=
  W.cell? ⟨w1.heap.size + 1, 0, none⟩ = some (.slice (some ⟨w1.heap.size, 0, none⟩) 0 0) ∧ RowI W w1.heap.size [] ∧ Below w1.heap.size w1 W
theorem Sc0.own {w1 : World} (B : Nat) (hB : w1.heap.size ≤ B) : OwnFrom B (Sc0 w1) := by
  rintro pre W W' row ⟨a3, d1, hW⟩ hg hr
  have hr' := fun r e => (hr r e).2
  exact ⟨cell_kept a3 hg hr', d1.turn hg hr', hW.grown hg hW.size (fun k e => Nat.le_trans hB (hr k e).1)⟩
set_option maxRecDepth 100000 in
set_option maxHeartbeats 3200000 in
theorem implScaleRoots_zero (p : Int) (a : Option Addr) (c1 : Nat) (x : Int) (w : World) (h1 : SL w a 0 c1 []) (hc : chk1 p [] = 0) (hpr : primeB p = true) (hx0 : 1 ≤ x) (hx1 : x < p) :
    Calls Try.prog 24 #[.int .i64 p, .slice a 0 c1, .int .i64 x] w (Res1 w [] 0) := by
  obtain ⟨hp, hp2⟩ := primeB_lo hpr
  have Hc := hide hc
  have hb0 := bl2 w (.cells #[.int .i64 p] 2) (.cells #[.int .i64 x] 2)
  have s0 := h1.below hb0
  obtain ⟨w0, hw0⟩ : ∃ w0, w0 = (w.alloc (.cells #[.int .i64 p] 2)).alloc (.cells #[.int .i64 x] 2) := ⟨_, rfl⟩
  rw [← hw0] at hb0 s0
  have y1 : w0.cell? ⟨w.heap.size, 0, none⟩ = some (.int .i64 p) := by rw [hw0]; simp [go_sem]
  have y2 : w0.cell? ⟨w.heap.size + 1, 0, none⟩ = some (.int .i64 x) := by rw [hw0]; simp [go_sem]
  have hk : ∀ W : World, (Instr.makeSlice 22 (.int .i64 0) (.int .i64 0)).run Try.prog W = .ok (.slice (some ⟨W.heap.size, 0, none⟩) 0 0) (W.alloc (.cells (zrow 0) 2)) := run_mk 0 (by omega)
  have hx0b : (x == 0) = false := by simp; omega
  clear hc hpr
  refine (callsIn_wide (n := 3)).1 ?_
  refine callsIn_of_wp_marks Try.func24 rfl trivial ?_ rfl
  simp only [Try.ntmps24, List.size_toArray, List.length_cons, List.length_nil, Nat.reduceAdd, Nat.reduceSub, Array.replicate_succ, Array.replicate_zero, List.push_toArray, List.append_toArray, List.nil_append, List.cons_append]
  gi_wp2_with fail
  refine ⟨trivial, ?_⟩
  have z0 : w.heap.size + 1 + 1 = w0.heap.size := by rw [hw0]; simp
  rw [← hw0, z0]
  clear hw0
  refine (callsIn_wide.2 (check1 p _ _ _ [] 0 _ s0 (by omega) Hc.out)).mono ?_
  rintro e w1 ⟨rfl, hb1⟩
  have y1' := cell_be hb1 y1
  have y2' := cell_be hb1 y2
  have hB1 := bnext hb0 hb1
  have hz1 := hb1.size
  gi_wp2_with fail
  refine ⟨trivial, ?_⟩
  refine (callsIn_wide.2 (isNumber_yes p x _ (by omega) hx1)).mono ?_
  rintro e w2 ⟨rfl, rfl⟩
  gi_wp2_with fail
  refine ⟨trivial, ?_⟩
  refine (callsIn_wide.2 (backward_any _ _ _ _)).mono ?_
  rintro e w' ⟨rfl, rfl⟩
  obtain ⟨W0, hW0⟩ : ∃ W0, W0 = ((((w1.alloc (.cells (zrow 0) 2)).alloc (.cells #[.slice (some ⟨w1.heap.size, 0, none⟩) 0 0] 22)).alloc (.cells #[.int .i64 1] 2)).alloc (.cells #[.slice a 0 c1] 22)) := ⟨_, rfl⟩
  have hBs : W0.cell? ⟨w1.heap.size + 1 + 1 + 1, 0, none⟩ = some (.slice a 0 c1) := by rw [hW0]; simp [go_sem]
  have hI0 : Sc0 w1 [] W0 := by
    have e1 := bl4 w1 (.cells (zrow 0) 2) (.cells #[.slice (some ⟨w1.heap.size, 0, none⟩) 0 0] 22) (.cells #[.int .i64 1] 2) (.cells #[.slice a 0 c1] 22)
    rw [← hW0] at e1
    have hr := (((zrow_row w1 0).next (bl1 _ (.cells #[.slice (some ⟨w1.heap.size, 0, none⟩) 0 0] 22))).next (bl1 _ (.cells #[.int .i64 1] 2))).next (bl1 _ (.cells #[.slice a 0 c1] 22))
    rw [← hW0] at hr
    exact ⟨by rw [hW0]; simp [go_sem], hr, e1⟩
  have hz0 : W0.heap.size = w1.heap.size + 4 := by rw [hW0]; simp
  rw [← hW0]
  have hBB := hI0.2.2
  have Hst := hide (back0_stops Fence.wide 2 trivial rfl (by omega) (w1.heap.size + 1 + 1 + 1) w1.heap.size a c1 W0 hBB.size hBs)
  have HI0 := hide hI0
  clear hI0 hW0 hk
  gi_wp2
  refine wpIn_rangeFunc_ownG rfl (by omega) (gf := 104) (lb := #[.pointer (some ⟨w1.heap.size + 1 + 1 + 1, 0, none⟩)]) rfl trivial (enters_of Try.func104 (by kernel_rfl) rfl) Hst.out KpB.t (KpB.b hBB.size) (Below.refl _ _) (fun _ => rfl)
    (Sc0 w1) (fun _ _ _ => False) (Sc0.own _ hBB.size) (fun _ _ _ _ _ hs _ _ => hs) HI0.out _ (by intro l x W K hK; gi_wp2; exact hK) ?body ?done ?stop
  case body =>
    intro l pre x W _ hpl
    exact absurd hpl (Nat.not_lt_zero _)
  case done =>
    rintro D ys W hD rfl ⟨a3, d1', hW⟩ hK
    gi_wp2
    have u3 := cell_kept a3 (grownBy_putObj' W D (.deferred none)) (fun r e => by cases e; exact ⟨_, hK, rfl⟩)
    have hR2 := d1'.turn (grownBy_putObj' W D (.deferred none)) (fun r e => by cases e; exact ⟨_, hK, rfl⟩)
    have hB2 := (hB1.trans (hW.mono hB1.size)).trans (belowK_b (w := w) (Nat.le_refl _) W D _ (.deferred none) (by have := hB1.size; omega) hK rfl rfl)
    refine ⟨by simp, .inl ⟨_, _, rfl, run_takeDeferred hK, ?_⟩⟩
    refine ⟨.tuple #[.slice (some ⟨w1.heap.size, 0, none⟩) 0 0, .int .i64 0], ?_, ?_⟩
    · simp [results, Try.results24, go_sem, u3]
    · exact Res1.own rfl rfl (hR2.own' (B := w.heap.size) hB1.size (by simp)) (by simp) hB2
  case stop =>
    rintro D c' pre W _ _ h _
    exact h.elim
set_option maxRecDepth 100000 in
set_option maxHeartbeats 3200000 in
theorem implScaleRoots (p : Int) (a1 : Option Addr) (n1 c1 : Nat) (f : List Int) (x : Int) (w : World) (h1 : SL w a1 n1 c1 f) (b1 : n1 ≤ 4000000) :
    Calls Try.prog 24 #[.int .i64 p, .slice a1 n1 c1, .int .i64 x] w (Res1 w (scV p f x) (scC p f x)) := by
  have hl1 := hide h1.len
  have hb0 := bl2 w (.cells #[.int .i64 p] 2) (.cells #[.int .i64 x] 2)
  have s0 := h1.below hb0
  obtain ⟨w0, hw0⟩ : ∃ w0, w0 = (w.alloc (.cells #[.int .i64 p] 2)).alloc (.cells #[.int .i64 x] 2) := ⟨_, rfl⟩
  have z0 : w.heap.size + 1 + 1 = w0.heap.size := by rw [hw0]; simp
  have y1 : w0.cell? ⟨w.heap.size, 0, none⟩ = some (.int .i64 p) := by rw [hw0]; simp [go_sem]
  have y2 : w0.cell? ⟨w.heap.size + 1, 0, none⟩ = some (.int .i64 x) := by rw [hw0]; simp [go_sem]
  rw [← hw0] at hb0 s0
  have Hw0 := hide hw0
  clear hw0
  rcases chk1_cases p f with hc | hc | ⟨hc, hf, hpr⟩
  · have HC := hide (show scC p f x = 1 by simp [scC, hc])
    have HV := hide (show scV p f x = [] by simp [scV, HC.out])
    have Hc := hide hc
    clear hc
    go_enter Try.func24, Try.ntmps24
    go_wp2_with fail
    rw [← Hw0.out]
    refine (check1 p _ _ _ f 1 _ s0 b1 Hc.out).mono ?_
    rintro e w1 ⟨rfl, hb1⟩
    have hB := bnext hb0 hb1
    go_wp2
    go_ret2
    exact Res1.nil HV.out HC.out hB
  · have HC := hide (show scC p f x = 2 by simp [scC, hc])
    have HV := hide (show scV p f x = [] by simp [scV, HC.out])
    have Hc := hide hc
    clear hc
    go_enter Try.func24, Try.ntmps24
    go_wp2_with fail
    rw [← Hw0.out]
    refine (check1 p _ _ _ f 2 _ s0 b1 Hc.out).mono ?_
    rintro e w1 ⟨rfl, hb1⟩
    have hB := bnext hb0 hb1
    go_wp2
    go_ret2
    exact Res1.nil HV.out HC.out hB
  have Hc := hide hc
  by_cases hx : 1 ≤ x ∧ x < p
  · have HC : scC p f x = 0 := by simp [scC, hc, hx]
    have HV : scV p f x = scL p x f := by simp only [scV, HC, if_true]
    rw [HC, HV]
    by_cases h0 : n1 = 0
    · subst h0
      obtain rfl : f = [] := List.eq_nil_of_length_eq_zero hl1.out
      exact implScaleRoots_zero p a1 c1 x w h1 hc hpr hx.1 hx.2
    · obtain ⟨b, off, rfl, _, _⟩ := h1.at (by omega)
      exact implScaleRoots_good p b off n1 c1 f x w h1 hc hf hpr hx.1 hx.2 (by omega)
  · have HC := hide (show scC p f x = 2 by simp [scC, hc, hx])
    have HV := hide (show scV p f x = [] by simp [scV, HC.out])
    by_cases hx2 : 0 ≤ x ∧ x < p
    · obtain rfl : x = 0 := by omega
      have hp0 := hx2.2
      clear hc hf hpr hx hx2
      go_enter Try.func24, Try.ntmps24
      go_wp2_with fail
      rw [← Hw0.out]
      refine (check1 p _ _ _ f 0 _ s0 b1 Hc.out).mono ?_
      rintro e w1 ⟨rfl, hb1⟩
      have hB := bnext hb0 hb1
      have y1' := cell_be hb1 y1
      have y2' := cell_be hb1 y2
      go_wp2_with fail
      refine (isNumber_yes p 0 _ (by omega) hp0).mono ?_
      rintro e w2 ⟨rfl, rfl⟩
      go_wp2
      go_ret2
      exact Res1.nil HV.out HC.out hB
    · have HX := hide hx2
      clear hc hf hpr hx hx2
      go_enter Try.func24, Try.ntmps24
      go_wp2_with fail
      rw [← Hw0.out]
      refine (check1 p _ _ _ f 0 _ s0 b1 Hc.out).mono ?_
      rintro e w1 ⟨rfl, hb1⟩
      have hB := bnext hb0 hb1
      have y1' := cell_be hb1 y1
      have y2' := cell_be hb1 y2
      go_wp2_with fail
      refine (isNumber_no p x _ HX.out).mono ?_
      rintro e w2 ⟨rfl, rfl⟩
      go_wp2
      go_ret2
      exact Res1.nil HV.out HC.out hB
end Go.Proofs.Ytnojmghmkoojfaa
