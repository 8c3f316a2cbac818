/- Merged texts. -/
import Derived.Test.YtpoabedlcljibaaYW112
import Derived.Test.YtpoabedlcljibaaYW113
import Derived.Test.YtpoabedlcljibaaYW15
import Derived.Test.YtpoabedlcljibaaYW125
import Derived.Test.YtpoabedlcljibaaYW126
import Derived.Test.YtpoabedlcljibaaYW115
import Derived.Test.YtpoabedlcljibaaYW118
/- Na, Nb, Nc in one text: mathematics of the moments with names; their lists; namedList, NamedMoments (program). -/
namespace Go.Proofs.Ytpoabedlcljibaa
open Go.RowKit
set_option linter.unusedVariables false
set_option linter.unusedSimpArgs false

def laF (p : Int) : Nat → Int
  | 0 => 1
  | k + 1 => laF p k * ((k : Int) + 1) % p
def heF (p : Int) : Nat → Int
  | 0 => 1
  | 1 => 0
  | k + 2 => heF p k * ((k : Int) + 1) % p
def unF (p : Int) (k : Nat) : Int := invM p ((k : Int) + 1)
theorem laF_rng {p : Int} (hp : 2 ≤ p) : ∀ k, 0 ≤ laF p k ∧ laF p k < p
  | 0 => by unfold laF; omega
  | k + 1 => modb hp
theorem heF_rng {p : Int} (hp : 2 ≤ p) : ∀ k, 0 ≤ heF p k ∧ heF p k < p
  | 0 => by unfold heF; omega
  | 1 => by unfold heF; omega
  | k + 2 => modb hp
theorem heF_odd (p : Int) : ∀ k, heF p (2 * k + 1) = 0
  | 0 => rfl
  | k + 1 => by
    show heF p (2 * k + 1) * (((2 * k + 1 : Nat) : Int) + 1) % p = 0
    rw [heF_odd p k, Int.zero_mul]
    exact Int.zero_emod p
def rvL (xs : List Int) : List Int := tab xs.length (fun j => xs.getD (xs.length - 1 - j) 0)
/-- lists that grow: each number is the product of those ahead of it with a row -/
def grL (p : Int) (row : Nat → List Int → List Int) : Nat → List Int
  | 0 => []
  | k + 1 => grL p row k ++ [if k = 0 then 1 else dotK p (row k (grL p row k)) (grL p row k) 0 k]
theorem grL_len (p : Int) (row : Nat → List Int → List Int) (k : Nat) : (grL p row k).length = k := by
  induction k with
  | zero => rfl
  | succ k ih => unfold grL; rw [List.length_append, ih]; rfl
theorem grL_are {p : Int} (hp : 2 ≤ p) (row : Nat → List Int → List Int) (k : Nat) : areB p (grL p row k) = true := by
  induction k with
  | zero => rfl
  | succ k ih =>
    unfold grL
    have e : ∀ (a b : List Int), areB p (a ++ b) = (areB p a && areB p b) := fun a b => by unfold areB; exact List.all_append
    rw [e, ih]
    have : okN p (if k = 0 then 1 else dotK p (row k (grL p row k)) (grL p row k) 0 k) = true := by
      unfold okN
      split
      · simp; omega
      · simpa using dotK_rng hp (row k (grL p row k)) (grL p row k) 0 k
    simp [areB, this]
/-- the numbers of (1 + x)^k modulo p -/
def psL (p : Int) : Nat → List Int
  | 0 => [1]
  | k + 1 => mulM p (psL p k) [1, 1]
theorem psL_len (p : Int) (k : Nat) : (psL p k).length = k + 1 := by
  induction k with
  | zero => rfl
  | succ k ih => unfold psL; rw [mulM_mlen, ih]; rfl
theorem psL_are {p : Int} (hp : 2 ≤ p) (k : Nat) : areB p (psL p k) = true := by
  cases k with
  | zero => simp [psL, areB, okN]; omega
  | succ k => exact mulM_areB hp _ _
/-- Pascal's step. -/
def pcL (p : Int) (row : List Int) : List Int := tab (row.length + 1) (fun j => if j = 0 ∨ j = row.length then 1 else (row.getD (j - 1) 0 + row.getD j 0) % p)
theorem ps_ends {p : Int} (hp : 2 ≤ p) : ∀ k, cf (psL p k) 0 = 1 ∧ cf (psL p k) k = 1 := by
  have one : ∀ (f : List Int) (j : Nat), cv (cf f) (cf [1, 1]) j = cf f j + (if j = 0 then 0 else cf f (j - 1)) := fun f j => by
    rw [cv_comm]
    unfold cv
    cases j with
    | zero => simp [sm, cf]
    | succ j =>
      rw [sm_head, sm_head]
      have z : sm j (fun k => cf [1, 1] (k + 1 + 1) * cf f (j + 1 - (k + 1 + 1))) = 0 := by
        rw [show (0 : Int) = sm 0 (fun k => cf [1, 1] (k + 1 + 1) * cf f (j + 1 - (k + 1 + 1))) from rfl]
        apply sm_ext _ 0 _ (by omega)
        intro k _ _
        rw [cf_far (f := [1, 1]) (by simp), Int.zero_mul]
      rw [z]
      simp [cf]
  intro k
  induction k with
  | zero => exact ⟨rfl, rfl⟩
  | succ k ih =>
    unfold psL
    rw [mulM_cf hp, mulM_cf hp, one, one, if_pos rfl, if_neg (by omega), Nat.add_sub_cancel, ih.1, ih.2, cf_far (f := psL p k) (by rw [psL_len]; omega)]
    exact ⟨by rw [Int.emod_eq_of_lt] <;> omega, by rw [Int.emod_eq_of_lt] <;> omega⟩
theorem pcL_ps {p : Int} (hp : 2 ≤ p) (k : Nat) : pcL p (psL p k) = psL p (k + 1) := by
  have one : ∀ (f : List Int) (j : Nat), cv (cf f) (cf [1, 1]) j = cf f j + (if j = 0 then 0 else cf f (j - 1)) := fun f j => by
    rw [cv_comm]
    unfold cv
    cases j with
    | zero => simp [sm, cf]
    | succ j =>
      rw [sm_head, sm_head]
      have z : sm j (fun k => cf [1, 1] (k + 1 + 1) * cf f (j + 1 - (k + 1 + 1))) = 0 := by
        rw [show (0 : Int) = sm 0 (fun k => cf [1, 1] (k + 1 + 1) * cf f (j + 1 - (k + 1 + 1))) from rfl]
        apply sm_ext _ 0 _ (by omega)
        intro k _ _
        rw [cf_far (f := [1, 1]) (by simp), Int.zero_mul]
      rw [z]
      simp [cf]
  have hl := psL_len p k
  apply ext_cf
  · unfold pcL; rw [tab_len, psL_len, psL_len]
  · intro j
    by_cases hj : j < k + 2
    · have e : cf (pcL p (psL p k)) j = if j = 0 ∨ j = k + 1 then 1 else (cf (psL p k) (j - 1) + cf (psL p k) j) % p := by
        unfold pcL
        show (tab _ _).getD j 0 = _
        rw [tab_at _ _ _ (by rw [hl]; omega), hl]
        rfl
      rw [e]
      by_cases h : j = 0 ∨ j = k + 1
      · rw [if_pos h]
        rcases h with h | h
        · rw [h]; exact (ps_ends hp (k + 1)).1.symm
        · rw [h]; exact (ps_ends hp (k + 1)).2.symm
      · rw [if_neg h, show psL p (k + 1) = mulM p (psL p k) [1, 1] from rfl, mulM_cf hp, one, if_neg (by omega), Int.add_comm]
    · rw [cf_far (f := pcL p (psL p k)) (by unfold pcL; rw [tab_len, hl]; omega), cf_far (f := psL p (k + 1)) (by rw [psL_len]; omega)]
theorem dotK_comm (p : Int) (f xs : List Int) : ∀ i, dotK p f xs 0 i = dotK p xs f 0 i := by
  intro i
  induction i with
  | zero => rfl
  | succ i ih =>
    unfold dotK
    rw [ih]
    simp only [Nat.zero_add, Nat.add_zero]
    rw [Int.mul_comm]
/-- the moments with a name: 0 uniform, 1 laguerre, 2 hermite, 3 catalan, 4 poisson -/
def nmL (p : Int) (i n : Nat) : List Int :=
  if i = 0 then tab n (unF p) else if i = 1 then tab n (laF p) else if i = 2 then tab n (heF p) else if i = 3 then grL p (fun _ l => rvL l) n else grL p (fun k _ => psL p (k - 1)) n
theorem nmL_len (p : Int) (i n : Nat) : (nmL p i n).length = n := by
  unfold nmL
  repeat' split
  all_goals first | exact tab_len _ _ | exact grL_len _ _ _
end Go.Proofs.Ytpoabedlcljibaa
namespace Go.Proofs.Ytpoabedlcljibaa
open Go.RowKit
set_option linter.unusedVariables false
set_option linter.unusedSimpArgs false

/-- a list of n numbers, the first t of which are told -/
def fillL (n : Nat) (F : Nat → Int) (t : Nat) : List Int := tab n (fun j => if j < t then F j else 0)
theorem fillL_len (n : Nat) (F : Nat → Int) (t : Nat) : (fillL n F t).length = n := tab_len _ _
theorem fillL_set (n : Nat) (F : Nat → Int) (t : Nat) (ht : t < n) : (fillL n F t).set t (F t) = fillL n F (t + 1) := by
  apply ext_tab
  · rw [List.length_set, fillL_len, fillL_len]
  · intro j hj
    rw [List.length_set, fillL_len] at hj
    unfold fillL
    rw [tab_at _ _ _ hj]
    simp only [List.getD_eq_getElem?_getD, List.getElem?_set]
    by_cases e : t = j
    · subst e
      rw [if_pos rfl, tab_len, if_pos hj, if_pos (by omega)]
      rfl
    · rw [if_neg e, ← List.getD_eq_getElem?_getD, tab_at _ _ _ hj]
      by_cases h : j < t
      · rw [if_pos h, if_pos (by omega)]
      · rw [if_neg h, if_neg (by omega)]
theorem fillL_all (n : Nat) (F : Nat → Int) (t : Nat) (h : n ≤ t) : fillL n F t = tab n F := tab_congr fun j hj => if_pos (by omega)
theorem fillL_zero (n : Nat) (F : Nat → Int) : fillL n F 0 = List.replicate n 0 := by
  apply ext_tab
  · rw [fillL_len, List.length_replicate]
  · intro j hj
    rw [fillL_len] at hj
    unfold fillL
    rw [tab_at _ _ _ hj, if_neg (by omega), List.getD_eq_getElem?_getD, List.getElem?_replicate, if_pos hj]
    rfl
theorem fillL_skip (n : Nat) (F : Nat → Int) (t : Nat) (h : F t = 0) : fillL n F (t + 1) = fillL n F t := tab_congr fun j _ => by
  by_cases q : j < t
  · rw [if_pos q, if_pos (by omega)]
  · by_cases q2 : j = t
    · rw [q2, if_pos (by omega), if_neg (by omega), h]
    · rw [if_neg q, if_neg (by omega)]
theorem SL.grownN {w w' : World} {row : Option Nat} {a : Option Addr} {n c : Nat} {xs : List Int} (h : SL w a n c xs) (hg : w.grownBy w' row) (hne : ∀ b, blk a = some b → row ≠ some b) : SL w' a n c xs := by
  obtain ⟨h1, h2, h3⟩ := h
  refine ⟨h1, h2, ?_⟩
  rcases h3 with h3 | ⟨b, off, rfl, hc⟩
  · exact .inl h3
  · exact .inr ⟨b, off, rfl, fun i hi => cell_ne hg (hc i hi) (hne b rfl)⟩
theorem own_ltN {B : Nat} {w : World} {a : Option Addr} {c : Nat} {ys : List Int} (h : Own B w a c ys) : ∀ g, blk a = some g → g < w.heap.size := fun g hg => by
  rcases h.shape with ⟨rfl, _, _⟩ | ⟨g', cur, rfl, hB, hg', _⟩
  · cases hg
  · cases hg
    exact lt_of_block hg'
set_option maxRecDepth 100000 in
set_option maxHeartbeats 1600000 in
theorem uniformList_any (p : Int) (n : Nat) (w : World) (hp : 2 ≤ p) (hp2 : p ≤ 10007) (hn : n ≤ 24) (hnp : (n : Int) < p) :
    Calls Try.prog 62 #[.int .i64 p, .int .i64 n] w fun e w' => ∃ a' c', e = .returned (.slice a' n c') ∧ Own w.heap.size w' a' c' (tab n (unF p)) ∧ Below w.heap.size w w' := by
  go_enter Try.func62, Try.ntmps62
  go_wp2_with (at_make; refine wp_make rfl _ _ rfl _ _ n rfl rfl rfl rfl (by omega) ?_; intro w1 hrow hb hsz)
  have hR0 : Hid (RowI w1 w.heap.size (fillL n (unF p) 0)) := hide (by rw [fillL_zero]; exact hrow.out)
  have hB0 := hide hb
  clear hrow hb
  go_loopw [11] (fun iv wr => ∃ t : Nat, t ≤ n ∧ iv = .int .i64 t ∧ Hid (RowI wr w.heap.size (fillL n (unF p) t)) ∧ Hid (Below w.heap.size w wr)) (fun iv _ => n - (intOf iv).toNat)
  case atStart => exact ⟨0, by omega, rfl, hR0, hB0⟩
  case round =>
    obtain ⟨t, htn, rfl, hR, hW⟩ := hrel
    clear hR0 hB0
    by_cases hlt : t < n
    · have hlt' : (t : Int) < (n : Int) := by omega
      have v1 : IntKind.i64.wrap ((t : Int) + 1) = (t : Int) + 1 := IntWalk.i64_in _ (by omega)
      go_wp2_with fail
      refine (inverse_any p ((t : Int) + 1) _ hp hp2 (by omega) (by omega)).mono ?_
      rintro e w2 ⟨rfl, t2⟩
      have hR2 := hide (hR.out.next t2)
      have hc := hR2.out.cell t (by rw [fillL_len]; omega)
      have hf := hR2.out.free t
      obtain ⟨R, hRR⟩ : ∃ R, (fillL n (unF p) t).getD t 0 = R := ⟨_, rfl⟩
      rw [hRR] at hc
      have hR3 : Hid (RowI (w2.setCell ⟨w.heap.size, t, none⟩ (.int .i64 (invM p ((t : Int) + 1)))) w.heap.size (fillL n (unF p) (t + 1))) := hide (by
        rw [← fillL_set n (unF p) t hlt]
        exact hR2.out.set t _)
      have hW3 := hide ((hW.out.trans (t2.mono hW.out.size)).setCell (p := ⟨w.heap.size, t, none⟩) (Nat.le_refl _) (.int .i64 (invM p ((t : Int) + 1))))
      clear hRR hR hW t2 hR2
      go_wp2
      go_roundw
      case rel => exact ⟨t + 1, by omega, by go_num, hR3, hW3⟩
      case measure => simp [intOf]; omega
    · have htn2 : Hid (t = n) := hide (by omega)
      have hge : ¬ (t : Int) < (n : Int) := by omega
      go_wp2
      refine bodyPost_ret (v := .slice (some ⟨w.heap.size, 0, none⟩) n n) (by simp [results, Try.results62]) rfl ?_
      have q := hR.out
      rw [fillL_all n (unF p) t (by have := htn2.out; omega)] at q
      have q2 := q.own' (B := w.heap.size) (Nat.le_refl _) (by rw [tab_len]; unfold maxLen; omega)
      rw [tab_len] at q2
      exact ⟨_, _, rfl, q2, hW.out⟩
set_option maxRecDepth 100000 in
set_option maxHeartbeats 1600000 in
theorem laguerreList_any (p : Int) (n : Nat) (w : World) (hp : 2 ≤ p) (hp2 : p ≤ 10007) (hn : n ≤ 24) (hn1 : 1 ≤ n) :
    Calls Try.prog 63 #[.int .i64 p, .int .i64 n] w fun e w' => ∃ a' c', e = .returned (.slice a' n c') ∧ Own w.heap.size w' a' c' (tab n (laF p)) ∧ Below w.heap.size w w' := by
  have hO0 : Hid (Own w.heap.size (w.alloc (.cells #[.int .i64 1] 2)) (some ⟨w.heap.size, 0, none⟩) 1 (tab 1 (laF p))) := hide (litOwn w w.heap.size (Nat.le_refl _) 1)
  have hb0 := bl1 w (.cells #[.int .i64 1] 2)
  go_enter Try.func63, Try.ntmps63
  go_wp2
  go_loopw [5, 6] (fun v i wr => ∃ (k : Nat) (a' : Option Addr) (c' : Nat), 1 ≤ k ∧ k ≤ n ∧ i = .int .i64 k ∧ v = .slice a' k c' ∧ Hid (Own w.heap.size wr a' c' (tab k (laF p))) ∧ Below w.heap.size w wr) (fun _ i _ => n - (intOf i).toNat)
  case atStart => exact ⟨1, _, 1, Nat.le_refl _, hn1, rfl, rfl, hO0, hb0⟩
  case round =>
    obtain ⟨k, a', c', hk1, hk, rfl, rfl, hO, hBr⟩ := hrel
    clear hO0 hb0
    by_cases hlt : k < n
    · obtain ⟨j, hj⟩ : ∃ j, j = k - 1 := ⟨_, rfl⟩
      have hcl := hO.out.blkG (by rw [tab_len]; omega)
      obtain ⟨g, rfl, hgB, hgs, hgc⟩ := hcl
      have e1 := hO.out.cellG j (by rw [tab_len]; omega)
      rw [tab_at _ _ _ (by omega)] at e1
      have r1 := laF_rng hp j
      have hst : Hid (tab (k + 1) (laF p) = tab k (laF p) ++ [laF p j * (k : Int) % p]) := hide (by
        rw [← tab_snoc k (laF p), show k = j + 1 by omega]
        rfl)
      obtain ⟨y, hy⟩ : ∃ y, laF p j = y := ⟨_, rfl⟩
      rw [hy] at e1 r1 hst
      have m1 : 0 ≤ y * (k : Int) ∧ y * (k : Int) ≤ 240168 := by
        have := Int.mul_le_mul (show y ≤ 10007 by omega) (show (k : Int) ≤ 24 by omega) (by omega) (by omega)
        exact ⟨Int.mul_nonneg r1.1 (by omega), by omega⟩
      have v1 : IntKind.i64.wrap ((k : Int) - 1) = (k : Int) - 1 := IntWalk.i64_in _ (by omega)
      have v2 : ((k : Int) - 1).toNat = j := by omega
      have v2b : k - 1 = j := by omega
      have v3 : IntKind.i64.wrap (y * (k : Int)) = y * (k : Int) := IntWalk.i64_in _ (by omega)
      have v4 : (y * (k : Int)).tmod p = y * (k : Int) % p := Int.tmod_eq_emod_of_nonneg (by omega)
      obtain ⟨z, hz⟩ : ∃ z, y * (k : Int) % p = z := ⟨_, rfl⟩
      rw [hz] at v4 hst
      have hz1 := modb (x := y * (k : Int)) hp
      rw [hz] at hz1
      obtain ⟨zs, hzs⟩ : ∃ zs, tab k (laF p) = zs := ⟨_, rfl⟩
      have hzl := hide (show zs.length = k by rw [← hzs, tab_len])
      rw [hzs] at hO hst
      clear hy hz hzs hj
      have hk0 : (0 : Int) ≤ (k : Int) - 1 := by omega
      have hlt' : (k : Int) < (n : Int) := by omega
      have hbs := hBr.size
      have hOa := hide (hO.out.below (bl1 wr (.cells #[.int .i64 z] 2)))
      clear hO
      go_wp2_with (at_builtin; refine wp_append rfl _ _ rfl w.heap.size _ k _ zs rfl hzl.out.symm hOa.out _ 1 1 [z] rfl (litSL wr z) (by omega) (by simp; omega) ?_; intro ad' cap' w1 hown hb)
      have hown' : Hid (Own w.heap.size w1 ad' cap' (tab (k + 1) (laF p))) := hide (by rw [hst.out]; exact hown)
      have hB1 := (hBr.alloc hBr.size (.cells #[.int .i64 z] 2)).trans hb
      clear hown hb hOa v2b v2 v1 hst
      go_wp2
      go_roundw
      case rel => exact ⟨k + 1, ad', cap', by omega, by omega, by go_num, by rw [hzl.out], hown', hB1⟩
      case measure => simp [intOf]; omega
    · have hkn : k = n := by omega
      have Hk := hide hkn
      have hlt' : ¬ (k : Int) < (n : Int) := by omega
      clear hkn
      go_wp2
      refine bodyPost_ret (v := .slice a' k c') (by simp [results, Try.results63]) rfl ?_
      exact ⟨a', c', by rw [Hk.out], by rw [← Hk.out]; exact hO.out, hBr⟩
set_option maxRecDepth 100000 in
set_option maxHeartbeats 1600000 in
theorem hermiteList_any (p : Int) (n : Nat) (w : World) (hp : 2 ≤ p) (hp2 : p ≤ 10007) (hn : n ≤ 24) (hn1 : 1 ≤ n) :
    Calls Try.prog 64 #[.int .i64 p, .int .i64 n] w fun e w' => ∃ a' c', e = .returned (.slice a' n c') ∧ Own w.heap.size w' a' c' (tab n (heF p)) ∧ Below w.heap.size w w' := by
  have i0 : (0 : Int) < (n : Int) := by omega
  go_enter Try.func64, Try.ntmps64
  go_wp2_with (at_make; refine wp_make rfl _ _ rfl _ _ n rfl rfl rfl rfl (by omega) ?_; intro w1 hrow hb hsz; have hR0 : RowI w1 w.heap.size (fillL n (heF p) 0) := (by rw [fillL_zero]; exact hrow.out); have hc0 := hR0.cell 0 (by rw [fillL_len]; omega); have hf0 := hR0.free 0)
  have hR1 : Hid (RowI (w1.setCell ⟨w.heap.size, 0, none⟩ (.int .i64 1)) w.heap.size (fillL n (heF p) 2)) := hide (by
    rw [fillL_skip n (heF p) 1 rfl, ← fillL_set n (heF p) 0 (by omega)]
    exact hR0.set 0 _)
  have hB1 := hide (hb.setCell (p := ⟨w.heap.size, 0, none⟩) (Nat.le_refl _) (.int .i64 1))
  clear hrow hb hR0 hc0 hf0
  go_loopw [6] (fun iv wr => ∃ h : Nat, 1 ≤ h ∧ 2 * h ≤ n + 1 ∧ iv = .int .i64 ((2 * h : Nat) : Int) ∧ Hid (RowI wr w.heap.size (fillL n (heF p) (2 * h))) ∧ Hid (Below w.heap.size w wr)) (fun iv _ => n + 2 - (intOf iv).toNat)
  case atStart => exact ⟨1, Nat.le_refl _, by omega, rfl, hR1, hB1⟩
  case round =>
    obtain ⟨h, hh1, hhn, rfl, hR, hW⟩ := hrel
    clear hR1 hB1
    obtain ⟨k, hk⟩ : ∃ k, 2 * h = k := ⟨_, rfl⟩
    rw [hk] at hR hhn ⊢
    have Hk := hide hk
    have k2 : 2 ≤ k := by omega
    clear hk
    by_cases hlt : k < n
    · have hlt' : (k : Int) < (n : Int) := by omega
      obtain ⟨m, hm⟩ : ∃ m, m = k - 2 := ⟨_, rfl⟩
      have v1 : IntKind.i64.wrap ((k : Int) - 2) = (m : Int) := by rw [show (k : Int) - 2 = (m : Int) by omega]; exact IntWalk.i64_in _ (by omega)
      have v2 : IntKind.i64.wrap ((k : Int) - 1) = (k : Int) - 1 := IntWalk.i64_in _ (by omega)
      have im : (m : Int) < (n : Int) := by omega
      have hc := hR.out.cell m (by rw [fillL_len]; omega)
      have hck := hR.out.cell k (by rw [fillL_len]; omega)
      have hf := hR.out.free k
      have e1 : (fillL n (heF p) k).getD m 0 = heF p m := by unfold fillL; rw [tab_at _ _ _ (by omega), if_pos (by omega)]
      rw [e1] at hc
      obtain ⟨R, hRR⟩ : ∃ R, (fillL n (heF p) k).getD k 0 = R := ⟨_, rfl⟩
      rw [hRR] at hck
      have r1 := heF_rng hp m
      have hst := hide (show heF p k = heF p m * ((k : Int) - 1) % p by
        rw [show k = m + 2 by omega]
        show heF p m * ((m : Int) + 1) % p = _
        rw [show (((m + 2 : Nat) : Int) - 1) = (m : Int) + 1 by omega])
      obtain ⟨y, hy⟩ : ∃ y, heF p m = y := ⟨_, rfl⟩
      rw [hy] at hc r1 hst
      have m1 : 0 ≤ y * ((k : Int) - 1) ∧ y * ((k : Int) - 1) ≤ 240168 := by
        have := Int.mul_le_mul (show y ≤ 10007 by omega) (show (k : Int) - 1 ≤ 24 by omega) (by omega) (by omega)
        exact ⟨Int.mul_nonneg r1.1 (by omega), by omega⟩
      have v3 : IntKind.i64.wrap (y * ((k : Int) - 1)) = y * ((k : Int) - 1) := IntWalk.i64_in _ (by omega)
      have v4 : (y * ((k : Int) - 1)).tmod p = y * ((k : Int) - 1) % p := Int.tmod_eq_emod_of_nonneg m1.1
      rw [← hst.out] at v4
      have v5 : IntKind.i64.wrap ((k : Int) + 2) = (k : Int) + 2 := IntWalk.i64_in _ (by omega)
      have hp0 : ¬ p = 0 := by omega
      have hodd := heF_odd p h
      have hR3 : Hid (RowI (wr.setCell ⟨w.heap.size, k, none⟩ (.int .i64 (heF p k))) w.heap.size (fillL n (heF p) (2 * (h + 1)))) := hide (by
        rw [show 2 * (h + 1) = k + 1 + 1 by have := Hk.out; omega, fillL_skip n (heF p) (k + 1) (by rw [← Hk.out]; exact hodd), ← fillL_set n (heF p) k hlt]
        exact hR.out.set k _)
      have hW3 := hide (hW.out.setCell (p := ⟨w.heap.size, k, none⟩) (Nat.le_refl _) (.int .i64 (heF p k)))
      clear hRR hR hW hm hy hst e1 hodd
      go_wp2
      go_roundw
      case rel => exact ⟨h + 1, by omega, by have := Hk.out; omega, by rw [show ((2 * (h + 1) : Nat) : Int) = (k : Int) + 2 by have := Hk.out; omega], hR3, hW3⟩
      case measure => simp [intOf]; omega
    · have hge : ¬ (k : Int) < (n : Int) := by omega
      go_wp2
      refine bodyPost_ret (v := .slice (some ⟨w.heap.size, 0, none⟩) n n) (by simp [results, Try.results64]) rfl ?_
      have q := hR.out
      rw [fillL_all n (heF p) k (by omega)] at q
      have q2 := q.own' (B := w.heap.size) (Nat.le_refl _) (by rw [tab_len]; unfold maxLen; omega)
      rw [tab_len] at q2
      exact ⟨_, _, rfl, q2, hW.out⟩
set_option maxRecDepth 100000 in
set_option maxHeartbeats 1600000 in
theorem catalanList_any (p : Int) (n : Nat) (w : World) (hp : 2 ≤ p) (hp2 : p ≤ 10007) (hn : n ≤ 24) (hn1 : 1 ≤ n) :
    Calls Try.prog 65 #[.int .i64 p, .int .i64 n] w fun e w' => ∃ a' c', e = .returned (.slice a' n c') ∧ Own w.heap.size w' a' c' (grL p (fun _ l => rvL l) n) ∧ Below w.heap.size w w' := by
  have hO0 : Hid (Own w.heap.size (w.alloc (.cells #[.int .i64 1] 2)) (some ⟨w.heap.size, 0, none⟩) 1 (grL p (fun _ l => rvL l) 1)) := hide (litOwn w w.heap.size (Nat.le_refl _) 1)
  have hb0 := bl1 w (.cells #[.int .i64 1] 2)
  go_enter Try.func65, Try.ntmps65
  go_wp2
  go_loopw [5] (fun v wr => ∃ (k : Nat) (a' : Option Addr) (c' : Nat), 1 ≤ k ∧ k ≤ n ∧ v = .slice a' k c' ∧ Hid (Own w.heap.size wr a' c' (grL p (fun _ l => rvL l) k)) ∧ Hid (Below w.heap.size w wr)) (fun v _ => match v with | .slice _ k _ => n - k | _ => 0)
  case atStart => exact ⟨1, _, 1, Nat.le_refl _, hn1, rfl, hO0, hide hb0⟩
  case round =>
    obtain ⟨k, a', c', hk1, hk, rfl, hO, hW⟩ := hrel
    clear hO0 hb0
    by_cases hlt : k < n
    · have hlt' : (k : Int) < (n : Int) := by omega
      have hst := hide (show grL p (fun _ l => rvL l) (k + 1) = grL p (fun _ l => rvL l) k ++ [dotK p (revL (grL p (fun _ l => rvL l) k)) (grL p (fun _ l => rvL l) k) 0 (revL (grL p (fun _ l => rvL l) k)).length] by
        rw [revL_len, grL_len]
        show _ ++ [if k = 0 then 1 else _] = _
        rw [if_neg (by omega)]
        rfl)
      have hA := hide (grL_are hp (fun _ l => rvL l) k)
      obtain ⟨zs, hzs⟩ : ∃ zs, grL p (fun _ l => rvL l) k = zs := ⟨_, rfl⟩
      have hzl := hide (show zs.length = k by rw [← hzs, grL_len])
      rw [hzs] at hO hst hA
      clear hzs
      have s0 := hO.out.sl
      rw [hzl.out] at s0
      go_wp2_with fail
      refine (reversed_any a' k c' zs _ s0 (by omega)).mono ?_
      rintro e w2 ⟨a2, c2, rfl, ho2, t2⟩
      have s2 := ho2.sl
      rw [revL_len, hzl.out] at s2
      have s1 := s0.below t2
      go_wp2_with fail
      refine (functional_int p a2 k c2 (revL zs) a' k c' zs _ s2 s1 (by omega) (Nat.le_refl _) hp hp2 (revL_are hA.out) hA.out).mono ?_
      rintro e w3 ⟨rfl, rfl⟩
      obtain ⟨z, hz⟩ : ∃ z, dotK p (revL zs) zs 0 (revL zs).length = z := ⟨_, rfl⟩
      rw [hz] at hst ⊢
      have hbs := hW.out.size
      have zb := t2.size
      have hOa := hide ((hO.out.below t2).below (bl1 w2 (.cells #[.int .i64 z] 2)))
      have hWa := hide ((hW.out.trans (t2.mono hbs)).alloc (by omega) (.cells #[.int .i64 z] 2))
      clear hO hW hz s0 s1 s2 ho2 t2
      go_wp2_with (at_builtin; refine wp_append rfl _ _ rfl w.heap.size _ k _ zs rfl hzl.out.symm hOa.out _ 1 1 [z] rfl (litSL w2 z) (by omega) (by simp; omega) ?_; intro ad' cap' w4 hown hb)
      have hown' : Hid (Own w.heap.size w4 ad' cap' (grL p (fun _ l => rvL l) (k + 1))) := hide (by rw [hst.out]; exact hown)
      have hB1 := hide (hWa.out.trans hb)
      clear hown hb hOa hst hWa
      go_wp2
      go_roundw
      case rel => exact ⟨k + 1, ad', cap', by omega, by omega, by rw [hzl.out], hown', hB1⟩
      case measure => first | (simp; omega) | (simp [hzl.out]; omega) | omega
    · have Hk : Hid (k = n) := hide (by omega)
      have hlt' : ¬ (k : Int) < (n : Int) := by omega
      go_wp2
      refine bodyPost_ret (v := .slice a' k c') (by simp [results, Try.results65]) rfl ?_
      exact ⟨a', c', by rw [Hk.out], by rw [← Hk.out]; exact hO.out, hW.out⟩
set_option maxRecDepth 100000 in
set_option maxHeartbeats 1600000 in
theorem poissonList_any (p : Int) (n : Nat) (w : World) (hp : 2 ≤ p) (hp2 : p ≤ 10007) (hn : n ≤ 24) (hn1 : 1 ≤ n) :
    Calls Try.prog 66 #[.int .i64 p, .int .i64 n] w fun e w' => ∃ a' c', e = .returned (.slice a' n c') ∧ Own w.heap.size w' a' c' (grL p (fun k _ => psL p (k - 1)) n) ∧ Below w.heap.size w w' := by
  have hO0 : Hid (Own w.heap.size ((w.alloc (.cells #[.int .i64 1] 2)).alloc (.cells #[.int .i64 1] 2)) (some ⟨w.heap.size, 0, none⟩) 1 (grL p (fun k _ => psL p (k - 1)) 1)) := hide ((show Own w.heap.size (w.alloc (.cells #[.int .i64 1] 2)) (some ⟨w.heap.size, 0, none⟩) 1 (grL p (fun k _ => psL p (k - 1)) 1) from litOwn w w.heap.size (Nat.le_refl _) 1).below (bl1 _ _))
  have hC0 : Hid (SL ((w.alloc (.cells #[.int .i64 1] 2)).alloc (.cells #[.int .i64 1] 2)) (some ⟨w.heap.size + 1, 0, none⟩) 1 1 (psL p 0) ∧ w.heap.size ≤ w.heap.size) := hide ⟨by
    have t := litSL (w.alloc (.cells #[.int .i64 1] 2)) 1
    rw [show (w.alloc (.cells #[.int .i64 1] 2)).heap.size = w.heap.size + 1 by simp] at t
    exact t, Nat.le_refl _⟩
  have hb0 := bl2 w (.cells #[.int .i64 1] 2) (.cells #[.int .i64 1] 2)
  have hD0 : Hid (∀ g, blk (some ⟨w.heap.size, 0, none⟩ : Option Addr) = some g → blk (some ⟨w.heap.size + 1, 0, none⟩ : Option Addr) ≠ some g) := hide (fun g h1 h2 => by simp [blk] at h1 h2; omega)
  go_enter Try.func66, Try.ntmps66
  go_wp2
  go_loopw [5, 6] (fun v cv wr => ∃ (k : Nat) (a' : Option Addr) (c' : Nat) (a2 : Option Addr) (c2 : Nat), 1 ≤ k ∧ k ≤ n ∧ v = .slice a' k c' ∧ cv = .slice a2 k c2 ∧ Hid (Own w.heap.size wr a' c' (grL p (fun k _ => psL p (k - 1)) k)) ∧ Hid (SL wr a2 k c2 (psL p (k - 1))) ∧ Hid (∀ g, blk a' = some g → blk a2 ≠ some g) ∧ Hid (Below w.heap.size w wr)) (fun v _ _ => match v with | .slice _ k _ => n - k | _ => 0)
  case atStart => exact ⟨1, _, 1, _, 1, Nat.le_refl _, hn1, rfl, rfl, hO0, hide hC0.out.1, hD0, hide hb0⟩
  case round =>
    obtain ⟨k, a', c', a2, c2, hk1, hk, rfl, rfl, hO, hC, hD, hW⟩ := hrel
    clear hO0 hb0 hC0 hD0
    by_cases hlt : k < n
    · have hlt' : (k : Int) < (n : Int) := by omega
      have hst := hide (show grL p (fun k _ => psL p (k - 1)) (k + 1) = grL p (fun k _ => psL p (k - 1)) k ++ [dotK p (psL p (k - 1)) (grL p (fun k _ => psL p (k - 1)) k) 0 (psL p (k - 1)).length] by
        rw [psL_len, show k - 1 + 1 = k by omega]
        show _ ++ [if k = 0 then 1 else _] = _
        rw [if_neg (by omega)])
      have hA := hide (grL_are hp (fun k _ => psL p (k - 1)) k)
      have hps := hide (show mulM p (psL p (k - 1)) [1, 1] = psL p (k + 1 - 1) by rw [show k + 1 - 1 = (k - 1) + 1 by omega]; rfl)
      have hP := hide (psL_are hp (k - 1))
      obtain ⟨ps, hpps⟩ : ∃ ps, psL p (k - 1) = ps := ⟨_, rfl⟩
      have hpl := hide (show ps.length = k by rw [← hpps, psL_len]; omega)
      obtain ⟨zs, hzs⟩ : ∃ zs, grL p (fun k _ => psL p (k - 1)) k = zs := ⟨_, rfl⟩
      have hzl := hide (show zs.length = k by rw [← hzs, grL_len])
      rw [hzs] at hO hst hA
      rw [hpps] at hC hst hps hP
      clear hzs hpps
      have s0 := hO.out.sl
      rw [hzl.out] at s0
      go_wp2_with fail
      refine (functional_int p a2 k c2 ps a' k c' zs _ hC.out s0 (by omega) (Nat.le_refl _) hp hp2 hP.out hA.out).mono ?_
      rintro e w3 ⟨rfl, rfl⟩
      obtain ⟨z, hz⟩ : ∃ z, dotK p ps zs 0 ps.length = z := ⟨_, rfl⟩
      rw [hz] at hst ⊢
      have hbs := hW.out.size
      have hOa := hide (hO.out.below (bl1 wr (.cells #[.int .i64 z] 2)))
      have hCa := hide (hC.out.below (bl1 wr (.cells #[.int .i64 z] 2)))
      have hWa := hide (hW.out.alloc hbs (.cells #[.int .i64 z] 2))
      clear hO hW hz s0 hC
      go_wp2_with (at_builtin; refine wp_appG (by rfl) _ _ (by rfl) w.heap.size _ k _ zs (by rfl) hzl.out.symm hOa.out _ 1 1 [z] (by rfl) (litSL wr z) (by omega) (by simp; omega) ?_; intro ad' cap' w4 hown hgr hloc)
      have hC4 := hide (hCa.out.grownN hgr (fun b h1 h2 => hD.out b h2 h1))
      have hW4 := hide (hWa.out.grown hgr (by have := hWa.out.size; omega) (fun g e => own_blk_ge hOa.out g e))
      have hown' := hide hown
      have zw4 := hW4.out.size
      have hl2 := bl1 w4 (.cells #[.int .i64 1, .int .i64 1] 2)
      clear hown hgr hloc hOa hCa hWa
      refine (multiply_any p a2 k c2 ps _ 2 2 [1, 1] _ (hC4.out.below hl2) (litSL2 w4 1 1) (by omega) (by omega) hp hp2 hP.out (by simp [areB, okN]; omega)).mono ?_
      rintro e w5 ⟨a5, c5, rfl, ho5, t5⟩
      have hO5 : Hid (Own w.heap.size w5 ad' cap' (grL p (fun k _ => psL p (k - 1)) (k + 1))) := hide (by rw [hst.out]; exact (hown'.out.below hl2).below t5)
      have lm := hide (show (mulM p ps [1, 1]).length = k + 1 by rw [hps.out, psL_len]; omega)
      have hC5 : Hid (SL w5 a5 (k + 1) c5 (psL p (k + 1 - 1))) := hide (by
        have q := ho5.sl
        rw [lm.out, hps.out] at q
        exact q)
      have hD5 : Hid (∀ g, blk ad' = some g → blk a5 ≠ some g) := hide (fun g h1 h2 => by
        have q1 := own_ltN hown'.out g h1
        have q2 := own_blk_ge ho5 g h2
        simp at q2
        omega)
      have hW5 := hide ((hW4.out.alloc zw4 (.cells #[.int .i64 1, .int .i64 1] 2)).trans (t5.mono (by simp; omega)))
      clear hC4 hW4 hown' ho5 t5 hl2 hst hps
      rw [lm.out]
      go_wp2
      go_roundw
      case rel => exact ⟨k + 1, ad', cap', a5, c5, by omega, by omega, by rw [hzl.out], rfl, hO5, hC5, hD5, hW5⟩
      case measure => first | (simp; omega) | (simp [hzl.out]; omega) | omega
    · have Hk : Hid (k = n) := hide (by omega)
      have hlt' : ¬ (k : Int) < (n : Int) := by omega
      go_wp2
      refine bodyPost_ret (v := .slice a' k c') (by simp [results, Try.results66]) rfl ?_
      exact ⟨a', c', by rw [Hk.out], by rw [← Hk.out]; exact hO.out, hW.out⟩
end Go.Proofs.Ytpoabedlcljibaa
namespace Go.Proofs.Ytpoabedlcljibaa
open Go.RowKit
set_option linter.unusedVariables false
set_option linter.unusedSimpArgs false

def mn0 : ByteArray := { data := #[117, 110, 105, 102, 111, 114, 109] }
def mn1 : ByteArray := { data := #[108, 97, 103, 117, 101, 114, 114, 101] }
def mn2 : ByteArray := { data := #[104, 101, 114, 109, 105, 116, 101] }
def mn3 : ByteArray := { data := #[99, 97, 116, 97, 108, 97, 110] }
def mn4 : ByteArray := { data := #[112, 111, 105, 115, 115, 111, 110] }
def mnI (s : ByteArray) : Nat := if s = mn0 then 0 else if s = mn1 then 1 else if s = mn2 then 2 else if s = mn3 then 3 else if s = mn4 then 4 else 5
theorem mn_ne : mn1 ≠ mn0 ∧ mn2 ≠ mn0 ∧ mn2 ≠ mn1 ∧ mn3 ≠ mn0 ∧ mn3 ≠ mn1 ∧ mn3 ≠ mn2 ∧ mn4 ≠ mn0 ∧ mn4 ≠ mn1 ∧ mn4 ≠ mn2 ∧ mn4 ≠ mn3 := by
  refine ⟨?_, ?_, ?_, ?_, ?_, ?_, ?_, ?_, ?_, ?_⟩ <;> intro h <;> exact absurd (congrArg ByteArray.data h) (by decide)
theorem mnI_mn : mnI mn0 = 0 ∧ mnI mn1 = 1 ∧ mnI mn2 = 2 ∧ mnI mn3 = 3 ∧ mnI mn4 = 4 := by
  obtain ⟨q10, q20, q21, q30, q31, q32, q40, q41, q42, q43⟩ := mn_ne
  refine ⟨?_, ?_, ?_, ?_, ?_⟩ <;> unfold mnI
  · rw [if_pos rfl]
  · rw [if_neg q10, if_pos rfl]
  · rw [if_neg q20, if_neg q21, if_pos rfl]
  · rw [if_neg q30, if_neg q31, if_neg q32, if_pos rfl]
  · rw [if_neg q40, if_neg q41, if_neg q42, if_neg q43, if_pos rfl]
theorem mnI_cases (s : ByteArray) : s = mn0 ∨ s = mn1 ∨ s = mn2 ∨ s = mn3 ∨ s = mn4 ∨ (mnI s = 5 ∧ s ≠ mn0 ∧ s ≠ mn1 ∧ s ≠ mn2 ∧ s ≠ mn3 ∧ s ≠ mn4) := by
  by_cases h0 : s = mn0
  · exact .inl h0
  by_cases h1 : s = mn1
  · exact .inr (.inl h1)
  by_cases h2 : s = mn2
  · exact .inr (.inr (.inl h2))
  by_cases h3 : s = mn3
  · exact .inr (.inr (.inr (.inl h3)))
  by_cases h4 : s = mn4
  · exact .inr (.inr (.inr (.inr (.inl h4))))
  · exact .inr (.inr (.inr (.inr (.inr ⟨by unfold mnI; rw [if_neg h0, if_neg h1, if_neg h2, if_neg h3, if_neg h4], h0, h1, h2, h3, h4⟩))))
def nlC (p : Int) (i n : Nat) : Int := if i = 5 then 4 else if i = 0 ∧ p ≤ (n : Int) then 5 else 0
def nlV (p : Int) (i n : Nat) : List Int := if nlC p i n = 0 then nmL p i n else []
theorem namedList_0 (p : Int) (n : Nat) (w : World) (hp : 2 ≤ p) (hp2 : p ≤ 10007) (hn : n ≤ 24) (hn1 : 1 ≤ n) : Calls Try.prog 51 #[.string mn0, .int .i64 p, .int .i64 n] w (Res1 w (nlV p 0 n) (nlC p 0 n)) := by
  have q0 : mn0.toList = [117, 110, 105, 102, 111, 114, 109] := by simp [mn0]
  have q1 : ¬ (mn0.toList = [108, 97, 103, 117, 101, 114, 114, 101]) := by simp [mn0]
  have q2 : ¬ (mn0.toList = [104, 101, 114, 109, 105, 116, 101]) := by simp [mn0]
  have q3 : ¬ (mn0.toList = [99, 97, 116, 97, 108, 97, 110]) := by simp [mn0]
  have q4 : ¬ (mn0.toList = [112, 111, 105, 115, 115, 111, 110]) := by simp [mn0]
  by_cases hnp : (n : Int) < p
  · have hnle : ¬ p ≤ (n : Int) := by omega
    have HC := hide (show nlC p 0 n = 0 by unfold nlC; rw [if_neg (by decide), if_neg (by omega)])
    have HV := hide (show nlV p 0 n = tab n (unF p) by unfold nlV; rw [if_pos HC.out]; rfl)
    go_enter Try.func51, Try.ntmps51
    go_wp2_with fail
    refine (uniformList_any p n _ hp hp2 hn hnp).mono ?_
    rintro e w2 ⟨a2, c2, rfl, ho, t2⟩
    go_wp2
    go_ret2
    exact Res1.own HC.out (by rw [HV.out]; first | exact (tab_len _ _).symm | exact (grL_len _ _ _).symm) (by rw [HV.out]; exact ho) (by rw [HV.out]; first | (rw [tab_len]; omega) | (rw [grL_len]; omega)) t2
  · have hle : p ≤ (n : Int) := by omega
    have HC := hide (show nlC p 0 n = 5 by unfold nlC; rw [if_neg (by decide), if_pos ⟨rfl, hle⟩])
    have HV := hide (show nlV p 0 n = [] by unfold nlV; rw [HC.out]; rfl)
    go_enter Try.func51, Try.ntmps51
    go_wp2
    go_ret2
    exact Res1.nil HV.out HC.out (Below.refl _ _)
theorem namedList_1 (p : Int) (n : Nat) (w : World) (hp : 2 ≤ p) (hp2 : p ≤ 10007) (hn : n ≤ 24) (hn1 : 1 ≤ n) : Calls Try.prog 51 #[.string mn1, .int .i64 p, .int .i64 n] w (Res1 w (nlV p 1 n) (nlC p 1 n)) := by
  have q0 : ¬ (mn1.toList = [117, 110, 105, 102, 111, 114, 109]) := by simp [mn1]
  have q1 : mn1.toList = [108, 97, 103, 117, 101, 114, 114, 101] := by simp [mn1]
  have q2 : ¬ (mn1.toList = [104, 101, 114, 109, 105, 116, 101]) := by simp [mn1]
  have q3 : ¬ (mn1.toList = [99, 97, 116, 97, 108, 97, 110]) := by simp [mn1]
  have q4 : ¬ (mn1.toList = [112, 111, 105, 115, 115, 111, 110]) := by simp [mn1]
  have HC := hide (show nlC p 1 n = 0 by unfold nlC; rw [if_neg (by decide), if_neg (by simp)])
  have HV := hide (show nlV p 1 n = tab n (laF p) by unfold nlV; rw [if_pos HC.out]; rfl)
  go_enter Try.func51, Try.ntmps51
  go_wp2_with fail
  refine (laguerreList_any p n _ hp hp2 hn hn1).mono ?_
  rintro e w2 ⟨a2, c2, rfl, ho, t2⟩
  go_wp2
  go_ret2
  exact Res1.own HC.out (by rw [HV.out]; first | exact (tab_len _ _).symm | exact (grL_len _ _ _).symm) (by rw [HV.out]; exact ho) (by rw [HV.out]; first | (rw [tab_len]; omega) | (rw [grL_len]; omega)) t2
theorem namedList_2 (p : Int) (n : Nat) (w : World) (hp : 2 ≤ p) (hp2 : p ≤ 10007) (hn : n ≤ 24) (hn1 : 1 ≤ n) : Calls Try.prog 51 #[.string mn2, .int .i64 p, .int .i64 n] w (Res1 w (nlV p 2 n) (nlC p 2 n)) := by
  have q0 : ¬ (mn2.toList = [117, 110, 105, 102, 111, 114, 109]) := by simp [mn2]
  have q1 : ¬ (mn2.toList = [108, 97, 103, 117, 101, 114, 114, 101]) := by simp [mn2]
  have q2 : mn2.toList = [104, 101, 114, 109, 105, 116, 101] := by simp [mn2]
  have q3 : ¬ (mn2.toList = [99, 97, 116, 97, 108, 97, 110]) := by simp [mn2]
  have q4 : ¬ (mn2.toList = [112, 111, 105, 115, 115, 111, 110]) := by simp [mn2]
  have HC := hide (show nlC p 2 n = 0 by unfold nlC; rw [if_neg (by decide), if_neg (by simp)])
  have HV := hide (show nlV p 2 n = tab n (heF p) by unfold nlV; rw [if_pos HC.out]; rfl)
  go_enter Try.func51, Try.ntmps51
  go_wp2_with fail
  refine (hermiteList_any p n _ hp hp2 hn hn1).mono ?_
  rintro e w2 ⟨a2, c2, rfl, ho, t2⟩
  go_wp2
  go_ret2
  exact Res1.own HC.out (by rw [HV.out]; first | exact (tab_len _ _).symm | exact (grL_len _ _ _).symm) (by rw [HV.out]; exact ho) (by rw [HV.out]; first | (rw [tab_len]; omega) | (rw [grL_len]; omega)) t2
theorem namedList_3 (p : Int) (n : Nat) (w : World) (hp : 2 ≤ p) (hp2 : p ≤ 10007) (hn : n ≤ 24) (hn1 : 1 ≤ n) : Calls Try.prog 51 #[.string mn3, .int .i64 p, .int .i64 n] w (Res1 w (nlV p 3 n) (nlC p 3 n)) := by
  have q0 : ¬ (mn3.toList = [117, 110, 105, 102, 111, 114, 109]) := by simp [mn3]
  have q1 : ¬ (mn3.toList = [108, 97, 103, 117, 101, 114, 114, 101]) := by simp [mn3]
  have q2 : ¬ (mn3.toList = [104, 101, 114, 109, 105, 116, 101]) := by simp [mn3]
  have q3 : mn3.toList = [99, 97, 116, 97, 108, 97, 110] := by simp [mn3]
  have q4 : ¬ (mn3.toList = [112, 111, 105, 115, 115, 111, 110]) := by simp [mn3]
  have HC := hide (show nlC p 3 n = 0 by unfold nlC; rw [if_neg (by decide), if_neg (by simp)])
  have HV := hide (show nlV p 3 n = grL p (fun _ l => rvL l) n by unfold nlV; rw [if_pos HC.out]; rfl)
  go_enter Try.func51, Try.ntmps51
  go_wp2_with fail
  refine (catalanList_any p n _ hp hp2 hn hn1).mono ?_
  rintro e w2 ⟨a2, c2, rfl, ho, t2⟩
  go_wp2
  go_ret2
  exact Res1.own HC.out (by rw [HV.out]; first | exact (tab_len _ _).symm | exact (grL_len _ _ _).symm) (by rw [HV.out]; exact ho) (by rw [HV.out]; first | (rw [tab_len]; omega) | (rw [grL_len]; omega)) t2
theorem namedList_4 (p : Int) (n : Nat) (w : World) (hp : 2 ≤ p) (hp2 : p ≤ 10007) (hn : n ≤ 24) (hn1 : 1 ≤ n) : Calls Try.prog 51 #[.string mn4, .int .i64 p, .int .i64 n] w (Res1 w (nlV p 4 n) (nlC p 4 n)) := by
  have q0 : ¬ (mn4.toList = [117, 110, 105, 102, 111, 114, 109]) := by simp [mn4]
  have q1 : ¬ (mn4.toList = [108, 97, 103, 117, 101, 114, 114, 101]) := by simp [mn4]
  have q2 : ¬ (mn4.toList = [104, 101, 114, 109, 105, 116, 101]) := by simp [mn4]
  have q3 : ¬ (mn4.toList = [99, 97, 116, 97, 108, 97, 110]) := by simp [mn4]
  have q4 : mn4.toList = [112, 111, 105, 115, 115, 111, 110] := by simp [mn4]
  have HC := hide (show nlC p 4 n = 0 by unfold nlC; rw [if_neg (by decide), if_neg (by simp)])
  have HV := hide (show nlV p 4 n = grL p (fun k _ => psL p (k - 1)) n by unfold nlV; rw [if_pos HC.out]; rfl)
  go_enter Try.func51, Try.ntmps51
  go_wp2_with fail
  refine (poissonList_any p n _ hp hp2 hn hn1).mono ?_
  rintro e w2 ⟨a2, c2, rfl, ho, t2⟩
  go_wp2
  go_ret2
  exact Res1.own HC.out (by rw [HV.out]; first | exact (tab_len _ _).symm | exact (grL_len _ _ _).symm) (by rw [HV.out]; exact ho) (by rw [HV.out]; first | (rw [tab_len]; omega) | (rw [grL_len]; omega)) t2
theorem namedList_no (s : ByteArray) (h0 : s ≠ mn0) (h1 : s ≠ mn1) (h2 : s ≠ mn2) (h3 : s ≠ mn3) (h4 : s ≠ mn4) (p : Int) (n : Nat) (w : World) : Calls Try.prog 51 #[.string s, .int .i64 p, .int .i64 n] w (Res1 w (nlV p 5 n) (nlC p 5 n)) := by
  have q0 : ¬ (s.toList = [117, 110, 105, 102, 111, 114, 109]) := fun e => h0 (by apply ByteArray.ext; apply Array.ext'; rw [ByteArray.toList_eq] at e; simpa [mn0] using e)
  have q1 : ¬ (s.toList = [108, 97, 103, 117, 101, 114, 114, 101]) := fun e => h1 (by apply ByteArray.ext; apply Array.ext'; rw [ByteArray.toList_eq] at e; simpa [mn1] using e)
  have q2 : ¬ (s.toList = [104, 101, 114, 109, 105, 116, 101]) := fun e => h2 (by apply ByteArray.ext; apply Array.ext'; rw [ByteArray.toList_eq] at e; simpa [mn2] using e)
  have q3 : ¬ (s.toList = [99, 97, 116, 97, 108, 97, 110]) := fun e => h3 (by apply ByteArray.ext; apply Array.ext'; rw [ByteArray.toList_eq] at e; simpa [mn3] using e)
  have q4 : ¬ (s.toList = [112, 111, 105, 115, 115, 111, 110]) := fun e => h4 (by apply ByteArray.ext; apply Array.ext'; rw [ByteArray.toList_eq] at e; simpa [mn4] using e)
  have z0 : (s.toList == [117, 110, 105, 102, 111, 114, 109]) = false := by rw [beq_eq_false_iff_ne]; exact q0
  have z1 : (s.toList == [108, 97, 103, 117, 101, 114, 114, 101]) = false := by rw [beq_eq_false_iff_ne]; exact q1
  have z2 : (s.toList == [104, 101, 114, 109, 105, 116, 101]) = false := by rw [beq_eq_false_iff_ne]; exact q2
  have z3 : (s.toList == [99, 97, 116, 97, 108, 97, 110]) = false := by rw [beq_eq_false_iff_ne]; exact q3
  have z4 : (s.toList == [112, 111, 105, 115, 115, 111, 110]) = false := by rw [beq_eq_false_iff_ne]; exact q4
  have HC := hide (show nlC p 5 n = 4 by unfold nlC; rw [if_pos rfl])
  have HV := hide (show nlV p 5 n = [] by unfold nlV; rw [HC.out]; rfl)
  go_enter Try.func51, Try.ntmps51
  go_wp2
  go_ret2
  exact Res1.nil HV.out HC.out (Below.refl _ _)
theorem namedList_any (s : ByteArray) (p : Int) (n : Nat) (w : World) (hp : 2 ≤ p) (hp2 : p ≤ 10007) (hn : n ≤ 24) (hn1 : 1 ≤ n) : Calls Try.prog 51 #[.string s, .int .i64 p, .int .i64 n] w (Res1 w (nlV p (mnI s) n) (nlC p (mnI s) n)) := by
  obtain ⟨f0, f1, f2, f3, f4⟩ := mnI_mn
  rcases mnI_cases s with rfl | rfl | rfl | rfl | rfl | ⟨h, h0, h1, h2, h3, h4⟩
  · rw [f0]; exact namedList_0 p n w hp hp2 hn hn1
  · rw [f1]; exact namedList_1 p n w hp hp2 hn hn1
  · rw [f2]; exact namedList_2 p n w hp hp2 hn hn1
  · rw [f3]; exact namedList_3 p n w hp hp2 hn hn1
  · rw [f4]; exact namedList_4 p n w hp hp2 hn hn1
  · rw [h]; exact namedList_no s h0 h1 h2 h3 h4 p n w
def nmC (s : ByteArray) (p n : Int) : Int := if primeB p = true ∧ 1 ≤ n ∧ n ≤ 24 then nlC p (mnI s) n.toNat else 2
def nmP (s : ByteArray) (p n : Int) : Int := if nmC s p n = 0 then p else 0
def nmV (s : ByteArray) (p n : Int) : List Int := if nmC s p n = 0 then nmL p (mnI s) n.toNat else []
theorem nm_err {s : ByteArray} {p n C : Int} (h : nmC s p n = C) (hC : C ≠ 0) : nmP s p n = 0 ∧ nmV s p n = [] := by
  subst h
  unfold nmP nmV
  rw [if_neg hC, if_neg hC]
  exact ⟨rfl, rfl⟩
theorem momentCount_any (n : Int) (w : World) :
    Calls Try.prog 50 #[.int .i64 n] w fun e w' => e = .returned (.bool (decide (1 ≤ n ∧ n ≤ 24))) ∧ w = w' := by
  by_cases h1 : 1 ≤ n
  · by_cases h2 : n ≤ 24
    · go_enter Try.func50, Try.ntmps50
      go_wp2
      go_ret
      exact ⟨ret_bool (by simp; omega), rfl⟩
    · go_enter Try.func50, Try.ntmps50
      go_wp2
      go_ret
      exact ⟨ret_bool (by simp; omega), rfl⟩
  · go_enter Try.func50, Try.ntmps50
    go_wp2
    go_ret
    exact ⟨ret_bool (by simp; omega), rfl⟩
set_option maxRecDepth 100000 in
set_option maxHeartbeats 1600000 in
theorem implNamedMoments (s : ByteArray) (p n : Int) (w : World) (hs : s.size ≤ 1048576) :
    Calls Try.prog 38 #[.string s, .int .i64 p, .int .i64 n] w (ResM w (nmP s p n) (nmV s p n) (nmC s p n)) := by
  have hb0 := bl1 w (.cells #[.int .i64 0, .slice none 0 0] 24)
  have r0 : (w.alloc (.cells #[.int .i64 0, .slice none 0 0] 24)).cell? ⟨w.heap.size, 0, none⟩ = some (.int .i64 0) := by simp [go_sem]
  have r1 : (w.alloc (.cells #[.int .i64 0, .slice none 0 0] 24)).cell? ⟨w.heap.size, 1, none⟩ = some (.slice none 0 0) := by simp [go_sem]
  have y0 : (w.alloc (.cells #[.int .i64 0, .slice none 0 0] 24)).frozen? ⟨w.heap.size, 0, none⟩ = false := by simp [go_sem]
  have y1 : (w.alloc (.cells #[.int .i64 0, .slice none 0 0] 24)).frozen? ⟨w.heap.size, 1, none⟩ = false := by simp [go_sem]
  cases hpr : primeB p
  · have HC := hide (show nmC s p n = 2 by unfold nmC; rw [if_neg (by rw [hpr]; simp)])
    have HE := hide (nm_err HC.out (by decide))
    have Hp := hide hpr
    clear hpr
    go_enter Try.func38, Try.ntmps38
    go_wp2_with fail
    refine (isPrime_any _ _).mono ?_
    rintro e w1 ⟨rfl, rfl⟩
    rw [Hp.out]
    go_wp2
    refine bodyPost_ret (v := .tuple #[mom 0 none 0 0, .int .i64 2]) (by simp [results, Try.results38, go_sem, r0, r1]) rfl ?_
    exact ResM.nil HE.out.1 HE.out.2 HC.out hb0
  have Hp := hide hpr
  by_cases hn : 1 ≤ n ∧ n ≤ 24
  rotate_left
  · have HC := hide (show nmC s p n = 2 by unfold nmC; rw [if_neg (fun h => hn h.2)])
    have HE := hide (nm_err HC.out (by decide))
    have HN := hide hn
    clear hpr hn
    go_enter Try.func38, Try.ntmps38
    go_wp2_with fail
    refine (isPrime_any _ _).mono ?_
    rintro e w1 ⟨rfl, rfl⟩
    rw [Hp.out]
    go_wp2_with fail
    have hcn : decide (1 ≤ n ∧ n ≤ 24) = false := decide_eq_false HN.out
    refine (momentCount_any n _).mono ?_
    rintro e w1 ⟨rfl, rfl⟩
    rw [hcn]
    go_wp2
    refine bodyPost_ret (v := .tuple #[mom 0 none 0 0, .int .i64 2]) (by simp [results, Try.results38, go_sem, r0, r1]) rfl ?_
    exact ResM.nil HE.out.1 HE.out.2 HC.out hb0
  obtain ⟨hn1, hn2⟩ := hn
  obtain ⟨N, rfl⟩ : ∃ N : Nat, n = N := ⟨n.toNat, by omega⟩
  obtain ⟨hp, hp2⟩ := primeB_lo hpr
  have hcn : decide (1 ≤ (N : Int) ∧ (N : Int) ≤ 24) = true := decide_eq_true ⟨hn1, hn2⟩
  have HCN := hide hcn
  have HE := hide (show nmC s p (N : Int) = nlC p (mnI s) N by unfold nmC; rw [if_pos ⟨hpr, hn1, hn2⟩, Int.toNat_natCast])
  have HVV := hide (show nmV s p (N : Int) = nlV p (mnI s) N by unfold nmV nlV; rw [HE.out, Int.toNat_natCast])
  obtain ⟨C, hC⟩ : ∃ C, nlC p (mnI s) N = C := ⟨_, rfl⟩
  by_cases h0 : C = 0
  · subst h0
    have HC := hide (show nmC s p (N : Int) = 0 by rw [HE.out]; exact hC)
    have HP := hide (show nmP s p (N : Int) = p by unfold nmP; rw [HC.out]; rfl)
    have HCC := hide hC
    clear hpr hcn hC
    go_enter Try.func38, Try.ntmps38
    go_wp2_with fail
    refine (isPrime_any _ _).mono ?_
    rintro e w1 ⟨rfl, rfl⟩
    rw [Hp.out]
    go_wp2_with fail
    refine (momentCount_any (N : Int) _).mono ?_
    rintro e w1 ⟨rfl, rfl⟩
    rw [HCN.out]
    go_wp2_with fail
    refine (namedList_any s p N _ hp hp2 (by omega) (by omega)).mono ?_
    rintro e w2 ⟨a2, c2, rfl, ho, hl, t2⟩
    rw [HCC.out]
    have B2 := bnext hb0 t2
    have hlt : w.heap.size < (w.alloc (.cells #[.int .i64 0, .slice none 0 0] 24)).heap.size := by simp
    replace y0 := (t2.frozen (World.block_lt_of_cell? _ _ r0)).trans y0
    replace y1 := (t2.frozen (World.block_lt_of_cell? _ _ r1)).trans y1
    replace r0 := cell_be t2 r0
    replace r1 := cell_be t2 r1
    obtain ⟨V, hV⟩ : ∃ V, nlV p (mnI s) N = V := ⟨_, rfl⟩
    rw [hV] at HVV ho hl ⊢
    clear hV
    go_wp2
    refine bodyPost_ret (v := .tuple #[mom p a2 V.length c2, .int .i64 0]) (by simp [results, Try.results38, go_sem, r0, r1]) rfl ?_
    have oz := ((ho.setLow (x := ⟨w.heap.size, 0, none⟩) (by simp) (.int .i64 p)).setLow (x := ⟨w.heap.size, 1, none⟩) (by simp) (.slice a2 V.length c2))
    exact ⟨a2, c2, by rw [HVV.out, HP.out, HC.out], by rw [HVV.out]; simpa using oz.mono (by simp) (Nat.le_refl _), by rw [HVV.out]; exact hl, ((B2.setCell (by simp) _).setCell (by simp) _)⟩
  · have HC := hide (show nmC s p (N : Int) = C by rw [HE.out]; exact hC)
    have HE2 := hide (nm_err HC.out h0)
    have HCC := hide hC
    have hcb : (C != 0) = true := by simpa using h0
    clear hpr hcn hC
    go_enter Try.func38, Try.ntmps38
    go_wp2_with fail
    refine (isPrime_any _ _).mono ?_
    rintro e w1 ⟨rfl, rfl⟩
    rw [Hp.out]
    go_wp2_with fail
    refine (momentCount_any (N : Int) _).mono ?_
    rintro e w1 ⟨rfl, rfl⟩
    rw [HCN.out]
    go_wp2_with fail
    refine (namedList_any s p N _ hp hp2 (by omega) (by omega)).mono ?_
    rintro e w2 ⟨a2, c2, rfl, ho, hl, t2⟩
    rw [HCC.out]
    have B2 := bnext hb0 t2
    replace y0 := (t2.frozen (World.block_lt_of_cell? _ _ r0)).trans y0
    replace y1 := (t2.frozen (World.block_lt_of_cell? _ _ r1)).trans y1
    replace r0 := cell_be t2 r0
    replace r1 := cell_be t2 r1
    clear ho
    go_wp2
    refine bodyPost_ret (v := .tuple #[mom 0 none 0 0, .int .i64 C]) (by simp [results, Try.results38, go_sem, r0, r1]) rfl ?_
    exact ResM.nil HE2.out.1 HE2.out.2 HC.out ((B2.setCell (by simp) _).setCell (by simp) _)
end Go.Proofs.Ytpoabedlcljibaa
/- Nd, Ne, Nf in one text: l02Sum, l02Pascal, l02Known, l02Named, NamedMoments (model). -/
namespace Go.Proofs.Ytpoabedlcljibaa
open Go.RowKit
set_option linter.unusedVariables false
set_option linter.unusedSimpArgs false

set_option maxRecDepth 100000 in
set_option maxHeartbeats 1600000 in
theorem l02Sum_any (p : Int) (k : Nat) (a : Option Addr) (n c : Nat) (f : List Int) (b : Option Addr) (m d : Nat) (xs : List Int) (w : World) (h1 : SL w a n c f) (h2 : SL w b m d xs) (hkn : k ≤ n) (hkm : k ≤ m) (hk : k ≤ 1000) (hp : 2 ≤ p) (hp2 : p ≤ 10007) (hf : areB p f = true) (hx : areB p xs = true) :
    Calls Try.prog 75 #[.int .i64 p, .int .i64 k, .slice a n c, .slice b m d] w fun e w' => e = .returned (.int .i64 (if k = 0 then 1 else dotK p f xs 0 k)) ∧ Below w.heap.size w w' := by
  by_cases h0 : k = 0
  · subst h0
    have v1 : Int.tmod 1 p = 1 := by rw [Int.tmod_eq_emod_of_nonneg (by omega), Int.emod_eq_of_lt (by omega) (by omega)]
    have v2 : IntKind.i64.wrap (1 : Int) = 1 := IntWalk.i64_in _ (by omega)
    go_enter Try.func75, Try.ntmps75
    go_wp2
    go_ret
    exact ⟨rfl, Below.refl _ _⟩
  rw [if_neg h0]
  have Hf := hide hf
  have Hx := hide hx
  have hb0 := Below.refl w.heap.size w
  obtain ⟨ba, off, rfl, hbw, hcell⟩ := h1.at (by omega)
  obtain ⟨b', off', rfl, hbw', hcell'⟩ := h2.at (by omega)
  have k0 : ¬ (k : Int) = 0 := by omega
  have kb : ((k : Int) == 0) = false := by simpa using h0
  clear h1 h2 hf hx
  go_enter Try.func75, Try.ntmps75
  go_wp2
  go_loopw [9, 10] (fun sv iv wr => ∃ i : Nat, i ≤ k ∧ iv = .int .i64 i ∧ sv = .int .i64 (dotK p f xs 0 i) ∧ Below w.heap.size w wr) (fun _ iv _ => k - (intOf iv).toNat)
  case atStart => exact ⟨0, by omega, rfl, rfl, hb0⟩
  case round =>
    obtain ⟨i, hi, rfl, rfl, hBr⟩ := hrel
    by_cases hlt : i < k
    · have e1 : wr.cell? ⟨ba, off + i, none⟩ = some (.int .i64 (f.getD i 0)) := cell_be hBr (hcell i (by omega))
      have e2 : wr.cell? ⟨b', off' + i, none⟩ = some (.int .i64 (xs.getD i 0)) := cell_be hBr (hcell' i (by omega))
      have hst : Hid (dotK p f xs 0 (i + 1) = (dotK p f xs 0 i + f.getD i 0 * xs.getD i 0) % p) := hide (by rw [dotK]; rfl)
      have r1 := getD_rng Hf.out hp i
      have r2 := getD_rng Hx.out hp i
      have r3 := dotK_rng hp f xs 0 i
      obtain ⟨x, hx⟩ : ∃ x, f.getD i 0 = x := ⟨_, rfl⟩
      obtain ⟨y, hy⟩ : ∃ y, xs.getD i 0 = y := ⟨_, rfl⟩
      obtain ⟨s, hs⟩ : ∃ s, dotK p f xs 0 i = s := ⟨_, rfl⟩
      rw [hx] at e1 hst r1
      rw [hy] at e2 hst r2
      rw [hs] at hst r3 ⊢
      clear hx hy hs hcell hcell' k0 kb
      obtain ⟨m1, m2⟩ := mulb r1.1 r1.2 r2.1 r2.2 hp2
      have hlt' : (i : Int) < (k : Int) := by omega
      have hlt1 : (i : Int) < (n : Int) := by omega
      have hlt2 : (i : Int) < (m : Int) := by omega
      have v3 : IntKind.i64.wrap (x * y) = x * y := IntWalk.i64_in _ (by omega)
      have v4 : IntKind.i64.wrap (s + x * y) = s + x * y := IntWalk.i64_in _ (by omega)
      have v5 : (0 : Int) ≤ (i : Int) := by omega
      have v6 : (s + x * y).tmod p = (s + x * y) % p := Int.tmod_eq_emod_of_nonneg (by omega)
      go_wp2
      go_quiet (fail)
      clear v3 v4 v6
      go_wp2
      go_roundw
      case rel => exact ⟨i + 1, by omega, by go_num, by rw [hst.out], below_drewN hBr _⟩
      case measure => simp [intOf]; omega
    · have he : Hid (i = k) := hide (by omega)
      have hlt' : ¬ (i : Int) < (k : Int) := by omega
      clear hcell hcell' k0 kb
      go_wp2
      go_ret
      exact ⟨ret_int (by rw [← he.out]), hBr⟩
def pcF (p : Int) (row : List Int) (n j : Nat) : Int := if j = 0 ∨ j = n then 1 else (row.getD (j - 1) 0 + row.getD j 0) % p
set_option maxRecDepth 100000 in
set_option maxHeartbeats 1600000 in
theorem l02Pascal_any (p : Int) (a : Option Addr) (n c : Nat) (row : List Int) (w : World) (hs : SL w a n c row) (hn1 : 1 ≤ n) (hn : n ≤ 1000) (hp : 2 ≤ p) (hp2 : p ≤ 10007) (hx : areB p row = true) :
    Calls Try.prog 77 #[.int .i64 p, .slice a n c] w fun e w' => ∃ a' c', e = .returned (.slice a' (n + 1) c') ∧ Own w.heap.size w' a' c' (pcL p row) ∧ Below w.heap.size w w' := by
  have hl := hide hs.len
  have HX := hide hx
  have t1 : Int.tmod 1 p = 1 := by rw [Int.tmod_eq_emod_of_nonneg (by omega), Int.emod_eq_of_lt (by omega) (by omega)]
  have t2 : IntKind.i64.wrap (1 : Int) = 1 := IntWalk.i64_in _ (by omega)
  have hp0 : ¬ p = 0 := by omega
  have hO0 : Hid (Own w.heap.size (w.alloc (.cells #[.int .i64 1] 2)) (some ⟨w.heap.size, 0, none⟩) 1 (tab 1 (pcF p row n))) := hide (litOwn w w.heap.size (Nat.le_refl _) 1)
  have hB0 := hide (bl1 w (.cells #[.int .i64 1] 2))
  obtain ⟨b, off, rfl, hbw, hcell⟩ := hs.at (by omega)
  clear hx
  go_enter Try.func77, Try.ntmps77
  go_wp2
  go_loopw [5, 6] (fun ov iv wr => ∃ (k : Nat) (a' : Option Addr) (c' : Nat), 1 ≤ k ∧ k ≤ n ∧ iv = .int .i64 k ∧ ov = .slice a' k c' ∧ Hid (Own w.heap.size wr a' c' (tab k (pcF p row n))) ∧ Hid (Below w.heap.size w wr)) (fun _ iv _ => n - (intOf iv).toNat)
  case atStart => exact ⟨1, _, _, by omega, hn1, rfl, rfl, hO0, hB0⟩
  case round =>
    obtain ⟨k, a', c', hk1, hkn, rfl, rfl, hO, hB⟩ := hrel
    clear hO0 hB0
    by_cases hlt : k < n
    · have e1 : wr.cell? ⟨b, off + (k - 1), none⟩ = some (.int .i64 (row.getD (k - 1) 0)) := cell_be hB.out (hcell (k - 1) (by omega))
      have e2 : wr.cell? ⟨b, off + k, none⟩ = some (.int .i64 (row.getD k 0)) := cell_be hB.out (hcell k (by omega))
      have r1 := getD_rng HX.out hp (k - 1)
      have r2 := getD_rng HX.out hp k
      have hst := hide (show tab k (pcF p row n) ++ [(row.getD (k - 1) 0 + row.getD k 0) % p] = tab (k + 1) (pcF p row n) by rw [← tab_snoc k (pcF p row n), show pcF p row n k = (row.getD (k - 1) 0 + row.getD k 0) % p by unfold pcF; rw [if_neg (by omega)]])
      obtain ⟨x, hx⟩ : ∃ x, row.getD (k - 1) 0 = x := ⟨_, rfl⟩
      obtain ⟨y, hy⟩ : ∃ y, row.getD k 0 = y := ⟨_, rfl⟩
      rw [hx] at e1 hst r1
      rw [hy] at e2 hst r2
      clear hx hy hcell t1 t2
      have hlt' : (k : Int) < (n : Int) := by omega
      have hlt2 : (k : Int) - 1 < (n : Int) := by omega
      have k0 : (0 : Int) ≤ (k : Int) - 1 := by omega
      have k2 : (0 : Int) ≤ (k : Int) := by omega
      have k3 : ((k : Int) - 1).toNat = k - 1 := by omega
      have k4 : 1 ≤ (k : Int) := by omega
      have v1 : IntKind.i64.wrap ((k : Int) - 1) = (k : Int) - 1 := IntWalk.i64_in _ (by omega)
      have v4 : IntKind.i64.wrap (x + y) = x + y := IntWalk.i64_in _ (by omega)
      have v6 : (x + y).tmod p = (x + y) % p := Int.tmod_eq_emod_of_nonneg (by omega)
      obtain ⟨zs, hzs⟩ : ∃ zs, tab k (pcF p row n) = zs := ⟨_, rfl⟩
      have hzl := hide (show zs.length = k by rw [← hzs, tab_len])
      rw [hzs] at hO hst
      obtain ⟨v, hv⟩ : ∃ v, (x + y) % p = v := ⟨_, rfl⟩
      have v7 := modb (x := x + y) hp
      rw [hv] at hst v6 v7
      have v5 : IntKind.i64.wrap v = v := IntWalk.i64_in _ (by omega)
      clear hzs hv
      have hba : Below wr.heap.size wr ((wr.alloc (.cells #[.int .i64 v] 2)).drew) := (bl1 wr _).drew
      have hOa := hide (hO.out.below hba)
      have hcl : ((wr.alloc (.cells #[.int .i64 v] 2)).drew).cell? ⟨wr.heap.size, 0, none⟩ = some (.int .i64 v) := by simp [go_sem]
      have hbs := hB.out.size
      have hb2 := hide (show Below w.heap.size w ((wr.alloc (.cells #[.int .i64 v] 2)).drew) from (hB.out.alloc hbs _).drew)
      have F : ∀ w', Below wr.heap.size wr w' → w'.cell? ⟨b, off + (k - 1), none⟩ = some (.int .i64 x) ∧ w'.cell? ⟨b, off + k, none⟩ = some (.int .i64 y) := fun w' hb => ⟨cell_be hb e1, cell_be hb e2⟩
      have hbw2 := hide hbw
      clear hbw
      have hbd := (Below.refl wr.heap.size wr).drew
      clear hO hB
      go_wp2
      go_upto_region 5 with fail
      refine region_E (fun w' => w'.cell? ⟨b, off + (k - 1), none⟩ = some (.int .i64 x) ∧ w'.cell? ⟨b, off + k, none⟩ = some (.int .i64 y)) 15 (by kernel_rfl) (F _ hbd) ?_
      intro hS
      refine anyE_takeL 0 rfl (by kernel_rfl) (fun _ _ _ h => h) hS (by rfl) (v := ?_) ?_ ?_
      rotate_left
      · intro w' hSw; (try dsimp only at hSw); go_simp; (try with_reducible rfl)
      try simp only [Act.put, List.setIfInBounds_toArray, List.set_cons_zero, List.set_cons_succ]
      refine anyE_takeL 1 rfl (by kernel_rfl) (fun _ _ _ h => h) hS (by rfl) (v := ?_) ?_ ?_
      rotate_left
      · intro w' hSw; (try dsimp only at hSw); go_simp; (try with_reducible rfl)
      try simp only [Act.put, List.setIfInBounds_toArray, List.set_cons_zero, List.set_cons_succ]
      refine anyE_takeL 2 rfl (by kernel_rfl) (fun _ _ _ h => h) hS (by rfl) (v := ?_) ?_ ?_
      rotate_left
      · intro w' hSw; (try dsimp only at hSw); go_simp; (try with_reducible rfl)
      try simp only [Act.put, List.setIfInBounds_toArray, List.set_cons_zero, List.set_cons_succ]
      refine anyE_takeL 3 rfl (by kernel_rfl) (fun _ _ _ h => h) hS (by rfl) (v := ?_) ?_ ?_
      rotate_left
      · intro w' hSw; (try dsimp only at hSw); go_simp; (try with_reducible rfl)
      try simp only [Act.put, List.setIfInBounds_toArray, List.set_cons_zero, List.set_cons_succ]
      refine anyE_takeL 4 rfl (by kernel_rfl) (fun _ _ _ h => h) hS (by rfl) (v := ?_) ?_ ?_
      rotate_left
      · intro w' hSw; (try dsimp only at hSw); go_simp; (try with_reducible rfl)
      try simp only [Act.put, List.setIfInBounds_toArray, List.set_cons_zero, List.set_cons_succ]
      refine anyE_takeL 5 rfl (by kernel_rfl) (fun _ _ _ h => h) hS (by rfl) (v := ?_) ?_ ?_
      rotate_left
      · intro w' hSw; (try dsimp only at hSw); go_simp; (try with_reducible rfl)
      try simp only [Act.put, List.setIfInBounds_toArray, List.set_cons_zero, List.set_cons_succ]
      refine anyE_takeL 6 rfl (by kernel_rfl) (fun _ _ _ h => h) hS (by rfl) (v := ?_) ?_ ?_
      rotate_left
      · intro w' hSw; (try dsimp only at hSw); go_simp; (try with_reducible rfl)
      try simp only [Act.put, List.setIfInBounds_toArray, List.set_cons_zero, List.set_cons_succ]
      refine anyE_takeL 7 rfl (by kernel_rfl) (fun _ _ _ h => h) hS (by rfl) (v := ?_) ?_ ?_
      rotate_left
      · intro w' hSw; (try dsimp only at hSw); go_simp; (try with_reducible rfl)
      try simp only [Act.put, List.setIfInBounds_toArray, List.set_cons_zero, List.set_cons_succ]
      refine anyE_takeL 8 rfl (by kernel_rfl) (fun _ _ _ h => h) hS (by rfl) (v := ?_) ?_ ?_
      rotate_left
      · intro w' hSw; (try dsimp only at hSw); go_simp; (try with_reducible rfl)
      try simp only [Act.put, List.setIfInBounds_toArray, List.set_cons_zero, List.set_cons_succ]
      refine anyE_takeL 9 rfl (by kernel_rfl) (fun _ _ _ h => h) hS (by rfl) (v := ?_) ?_ ?_
      rotate_left
      · intro w' hSw; (try dsimp only at hSw); go_simp; (try with_reducible rfl)
      try simp only [Act.put, List.setIfInBounds_toArray, List.set_cons_zero, List.set_cons_succ]
      refine anyE_takeL 10 rfl (by kernel_rfl) (fun _ _ _ h => h) hS (by rfl) (v := ?_) ?_ ?_
      rotate_left
      · intro w' hSw; (try dsimp only at hSw); go_simp; (try with_reducible rfl)
      try simp only [Act.put, List.setIfInBounds_toArray, List.set_cons_zero, List.set_cons_succ]
      refine anyE_takeL 11 rfl (by kernel_rfl) (fun _ _ _ h => h) hS (by rfl) (v := ?_) ?_ ?_
      rotate_left
      · intro w' hSw; (try dsimp only at hSw); go_simp; (try with_reducible rfl)
      try simp only [Act.put, List.setIfInBounds_toArray, List.set_cons_zero, List.set_cons_succ]
      refine anyE_takeL 12 rfl (by kernel_rfl) (fun _ _ _ h => h) hS (by rfl) (v := ?_) ?_ ?_
      rotate_left
      · intro w' hSw; (try dsimp only at hSw); go_simp; (try with_reducible rfl)
      try simp only [Act.put, List.setIfInBounds_toArray, List.set_cons_zero, List.set_cons_succ]
      clear hS
      refine anyE_oneL 13 (by kernel_rfl) rfl (fun K hK => ?_)
      go_simp
      have S0 := F _ hba
      refine hK.out _ _ S0 ?_
      clear hK K
      try simp only [Act.put, List.setIfInBounds_toArray, List.set_cons_zero, List.set_cons_succ]
      refine anyE_oneL 14 (by kernel_rfl) rfl (fun K hK => ?_)
      refine step_app1 (by rfl) _ _ (by rfl) w.heap.size _ _ _ zs (by rfl) hzl.out.symm hOa.out _ _ v (by rfl) hcl (by omega) (by simp; omega) ?_
      intro ad' cap' w' hown' hgr hloc
      have hge := own_blk_ge hOa.out
      have S2 := And.intro (cell_ne hgr S0.1 (fun e => by have := hge _ e; have := hbw2.out; omega)) (cell_ne hgr S0.2 (fun e => by have := hge _ e; have := hbw2.out; omega))
      refine hK.out _ _ S2 ?_
      clear hK K
      try simp only [Act.put, List.setIfInBounds_toArray, List.set_cons_zero, List.set_cons_succ]
      clear S0 S2
      refine anyE_lastL (by kernel_rfl) rfl (by kernel_rfl) (fun K hK => ?_)
      go_simp
      refine hK.out _ _ ?_
      clear hK K
      try simp only [Act.put, List.setIfInBounds_toArray, List.set_cons_zero, List.set_cons_succ]
      have hbn := hide (hb2.out.grown hgr (by simp; omega) hge)
      have hzl2 := hide (show (zs ++ [v]).length = k + 1 by simp [hzl.out])
      have hO2 : Hid (Own w.heap.size w' ad' cap' (tab (k + 1) (pcF p row n))) := hide (by rw [← hst.out]; exact hown')
      clear hb2 hown' hge hloc hOa hba hcl hbd
      go_wp2
      go_roundw
      case rel => exact ⟨k + 1, ad', cap', by omega, by omega, by go_num, by rw [hzl.out], hO2, hbn⟩
      case measure => first | (simp [intOf]; done) | (simp [intOf]; omega)
    · have hkk : Hid (k = n) := hide (by omega)
      have hge : ¬ (k : Int) < (n : Int) := by omega
      have hbs := hB.out.size
      have hzl := hide (tab_len k (pcF p row n))
      have hR := hide (show tab k (pcF p row n) ++ [1] = pcL p row by
        have e : pcF p row n k = 1 := by unfold pcF; rw [if_pos (.inr hkk.out)]
        rw [← e, tab_snoc, hkk.out]; unfold pcL pcF; rw [hl.out])
      obtain ⟨zs, hzs⟩ : ∃ zs, tab k (pcF p row n) = zs := ⟨_, rfl⟩
      rw [hzs] at hO hR hzl
      have hOa := hide (hO.out.below (bl1 wr (.cells #[.int .i64 1] 2)))
      clear hcell hO hzs
      go_wp2_with (at_builtin; refine wp_append rfl _ _ rfl w.heap.size _ k _ zs rfl hzl.out.symm hOa.out _ 1 1 [1] rfl (litSL wr 1) (by omega) (by simp; omega) ?_; intro ad' cap' w1 hown hb)
      have hB1 := (hB.out.alloc hbs (.cells #[.int .i64 1] 2)).trans hb
      refine bodyPost_ret (v := .slice ad' (zs ++ [1]).length cap') (by simp [results, Try.results77]) rfl ?_
      exact ⟨ad', cap', by rw [List.length_append, hzl.out, hkk.out]; rfl, by rw [← hR.out]; exact hown, hB1⟩
end Go.Proofs.Ytpoabedlcljibaa
namespace Go.Proofs.Ytpoabedlcljibaa
open Go.RowKit
set_option linter.unusedVariables false
set_option linter.unusedSimpArgs false

theorem l02Known_0 (w : World) : Calls Try.prog 56 #[.string mn0] w fun e w' => e = .returned (.bool true) ∧ w = w' := by
  have q0 : mn0.toList = [117, 110, 105, 102, 111, 114, 109] := by simp [mn0]
  have q1 : ¬ (mn0.toList = [108, 97, 103, 117, 101, 114, 114, 101]) := by simp [mn0]
  have q2 : ¬ (mn0.toList = [104, 101, 114, 109, 105, 116, 101]) := by simp [mn0]
  have q3 : ¬ (mn0.toList = [99, 97, 116, 97, 108, 97, 110]) := by simp [mn0]
  have q4 : ¬ (mn0.toList = [112, 111, 105, 115, 115, 111, 110]) := by simp [mn0]
  go_enter Try.func56, Try.ntmps56
  go_wp2
  go_ret
  exact ⟨rfl, rfl⟩
theorem l02Known_1 (w : World) : Calls Try.prog 56 #[.string mn1] w fun e w' => e = .returned (.bool true) ∧ w = w' := by
  have q0 : ¬ (mn1.toList = [117, 110, 105, 102, 111, 114, 109]) := by simp [mn1]
  have q1 : mn1.toList = [108, 97, 103, 117, 101, 114, 114, 101] := by simp [mn1]
  have q2 : ¬ (mn1.toList = [104, 101, 114, 109, 105, 116, 101]) := by simp [mn1]
  have q3 : ¬ (mn1.toList = [99, 97, 116, 97, 108, 97, 110]) := by simp [mn1]
  have q4 : ¬ (mn1.toList = [112, 111, 105, 115, 115, 111, 110]) := by simp [mn1]
  go_enter Try.func56, Try.ntmps56
  go_wp2
  go_ret
  exact ⟨rfl, rfl⟩
theorem l02Known_2 (w : World) : Calls Try.prog 56 #[.string mn2] w fun e w' => e = .returned (.bool true) ∧ w = w' := by
  have q0 : ¬ (mn2.toList = [117, 110, 105, 102, 111, 114, 109]) := by simp [mn2]
  have q1 : ¬ (mn2.toList = [108, 97, 103, 117, 101, 114, 114, 101]) := by simp [mn2]
  have q2 : mn2.toList = [104, 101, 114, 109, 105, 116, 101] := by simp [mn2]
  have q3 : ¬ (mn2.toList = [99, 97, 116, 97, 108, 97, 110]) := by simp [mn2]
  have q4 : ¬ (mn2.toList = [112, 111, 105, 115, 115, 111, 110]) := by simp [mn2]
  go_enter Try.func56, Try.ntmps56
  go_wp2
  go_ret
  exact ⟨rfl, rfl⟩
theorem l02Known_3 (w : World) : Calls Try.prog 56 #[.string mn3] w fun e w' => e = .returned (.bool true) ∧ w = w' := by
  have q0 : ¬ (mn3.toList = [117, 110, 105, 102, 111, 114, 109]) := by simp [mn3]
  have q1 : ¬ (mn3.toList = [108, 97, 103, 117, 101, 114, 114, 101]) := by simp [mn3]
  have q2 : ¬ (mn3.toList = [104, 101, 114, 109, 105, 116, 101]) := by simp [mn3]
  have q3 : mn3.toList = [99, 97, 116, 97, 108, 97, 110] := by simp [mn3]
  have q4 : ¬ (mn3.toList = [112, 111, 105, 115, 115, 111, 110]) := by simp [mn3]
  go_enter Try.func56, Try.ntmps56
  go_wp2
  go_ret
  exact ⟨rfl, rfl⟩
theorem l02Known_4 (w : World) : Calls Try.prog 56 #[.string mn4] w fun e w' => e = .returned (.bool true) ∧ w = w' := by
  have q0 : ¬ (mn4.toList = [117, 110, 105, 102, 111, 114, 109]) := by simp [mn4]
  have q1 : ¬ (mn4.toList = [108, 97, 103, 117, 101, 114, 114, 101]) := by simp [mn4]
  have q2 : ¬ (mn4.toList = [104, 101, 114, 109, 105, 116, 101]) := by simp [mn4]
  have q3 : ¬ (mn4.toList = [99, 97, 116, 97, 108, 97, 110]) := by simp [mn4]
  have q4 : mn4.toList = [112, 111, 105, 115, 115, 111, 110] := by simp [mn4]
  go_enter Try.func56, Try.ntmps56
  go_wp2
  go_ret
  exact ⟨rfl, rfl⟩
theorem l02Known_no (s : ByteArray) (h0 : s ≠ mn0) (h1 : s ≠ mn1) (h2 : s ≠ mn2) (h3 : s ≠ mn3) (h4 : s ≠ mn4) (w : World) : Calls Try.prog 56 #[.string s] w fun e w' => e = .returned (.bool false) ∧ w = w' := by
  have q0 : ¬ (s.toList = [117, 110, 105, 102, 111, 114, 109]) := fun e => h0 (by apply ByteArray.ext; apply Array.ext'; rw [ByteArray.toList_eq] at e; simpa [mn0] using e)
  have q1 : ¬ (s.toList = [108, 97, 103, 117, 101, 114, 114, 101]) := fun e => h1 (by apply ByteArray.ext; apply Array.ext'; rw [ByteArray.toList_eq] at e; simpa [mn1] using e)
  have q2 : ¬ (s.toList = [104, 101, 114, 109, 105, 116, 101]) := fun e => h2 (by apply ByteArray.ext; apply Array.ext'; rw [ByteArray.toList_eq] at e; simpa [mn2] using e)
  have q3 : ¬ (s.toList = [99, 97, 116, 97, 108, 97, 110]) := fun e => h3 (by apply ByteArray.ext; apply Array.ext'; rw [ByteArray.toList_eq] at e; simpa [mn3] using e)
  have q4 : ¬ (s.toList = [112, 111, 105, 115, 115, 111, 110]) := fun e => h4 (by apply ByteArray.ext; apply Array.ext'; rw [ByteArray.toList_eq] at e; simpa [mn4] using e)
  go_enter Try.func56, Try.ntmps56
  go_wp2
  go_ret
  exact ⟨by simp [q0, q1, q2, q3, q4], rfl⟩
theorem l02Known_any (s : ByteArray) (w : World) : Calls Try.prog 56 #[.string s] w fun e w' => e = .returned (.bool (decide (mnI s < 5))) ∧ w = w' := by
  obtain ⟨f0, f1, f2, f3, f4⟩ := mnI_mn
  rcases mnI_cases s with rfl | rfl | rfl | rfl | rfl | ⟨h, h0, h1, h2, h3, h4⟩
  · rw [f0]; exact l02Known_0 w
  · rw [f1]; exact l02Known_1 w
  · rw [f2]; exact l02Known_2 w
  · rw [f3]; exact l02Known_3 w
  · rw [f4]; exact l02Known_4 w
  · rw [h]; exact l02Known_no s h0 h1 h2 h3 h4 w
theorem laF_step (p : Int) (k : Nat) (h : 1 ≤ k) : laF p k = laF p (k - 1) * (k : Int) % p := by
  obtain ⟨m, rfl⟩ : ∃ m, k = m + 1 := ⟨k - 1, by omega⟩
  rw [Nat.add_sub_cancel]
  show laF p m * ((m : Int) + 1) % p = _
  rw [show ((m + 1 : Nat) : Int) = (m : Int) + 1 by omega]
theorem heF_step (p : Int) (k : Nat) (h : 2 ≤ k) : heF p k = heF p (k - 2) * ((k : Int) - 1) % p := by
  obtain ⟨m, rfl⟩ : ∃ m, k = m + 2 := ⟨k - 2, by omega⟩
  rw [Nat.add_sub_cancel]
  show heF p m * ((m : Int) + 1) % p = _
  rw [show ((m + 2 : Nat) : Int) - 1 = (m : Int) + 1 by omega]
theorem heF_odd2 (p : Int) (k : Nat) (h : k % 2 = 1) : heF p k = 0 := by
  obtain ⟨m, rfl⟩ : ∃ m, k = 2 * m + 1 := ⟨k / 2, by omega⟩
  exact heF_odd p m
theorem revL_rv (l : List Int) : revL l = rvL l := rfl
set_option maxRecDepth 100000 in
set_option maxHeartbeats 1600000 in
theorem l02Named_0 (p : Int) (n : Nat) (w : World) (hp : 2 ≤ p) (hp2 : p ≤ 10007) (hn : n ≤ 24) (hn1 : 1 ≤ n) : Calls Try.prog 57 #[.string mn0, .int .i64 p, .int .i64 n] w
    fun e w' => ∃ a' c', e = .returned (.tuple #[.slice a' (nlV p 0 n).length c', .bool (decide (nlC p 0 n = 0))]) ∧ Own w.heap.size w' a' c' (nlV p 0 n) ∧ Below w.heap.size w w' := by
  have q0 : mn0.toList = [117, 110, 105, 102, 111, 114, 109] := by simp [mn0]
  have q1 : ¬ (mn0.toList = [108, 97, 103, 117, 101, 114, 114, 101]) := by simp [mn0]
  have q2 : ¬ (mn0.toList = [104, 101, 114, 109, 105, 116, 101]) := by simp [mn0]
  have q3 : ¬ (mn0.toList = [99, 97, 116, 97, 108, 97, 110]) := by simp [mn0]
  have q4 : ¬ (mn0.toList = [112, 111, 105, 115, 115, 111, 110]) := by simp [mn0]
  have hO0 : Hid (Own w.heap.size ((w.alloc (.cells #[] 2)).alloc (.cells #[.int .i64 1] 2)) (some ⟨w.heap.size, 0, none⟩) 0 (tab 0 (unF p))) := hide ((show Own w.heap.size (w.alloc (.cells #[] 2)) (some ⟨w.heap.size, 0, none⟩) 0 [] from World.ownsRow_lit w (base := w.heap.size) (e := 2) (size := 1) #[] 0 (Nat.le_refl _) (by simp) rfl).below (bl1 _ _))
  have hb0 := hide (bl2 w (.cells #[] 2) (.cells #[.int .i64 1] 2))
  have hp0 : ¬ p = 0 := by omega
  go_enter Try.func57, Try.ntmps57
  go_wp2
  go_loopw [8, 9, 10] (fun ov rv iv wr => ∃ (k : Nat) (a' : Option Addr) (c' : Nat), k ≤ n ∧ (k : Int) < p ∧ iv = .int .i64 k ∧ ov = .slice a' k c' ∧ rv = .slice (some ⟨w.heap.size + 1, 0, none⟩) 1 1 ∧ Hid (Own w.heap.size wr a' c' (tab k (unF p))) ∧ Hid (Below w.heap.size w wr)) (fun _ _ iv _ => n - (intOf iv).toNat)
  case atStart => exact ⟨0, _, _, by omega, by omega, rfl, rfl, rfl, hO0, hb0⟩
  case round =>
    obtain ⟨k, a', c', hk, hkp, rfl, rfl, rfl, hO, hW⟩ := hrel
    clear hO0 hb0
    by_cases hlt : k < n
    · have hlt' : (k : Int) < (n : Int) := by omega
      have k2 : (0 : Int) ≤ (k : Int) := by omega
      have hbs := hW.out.size
      have hzl0 := hide (show (tab k (unF p)).length = k from tab_len _ _)
      by_cases hkl : (k : Int) + 1 = p
      · have t1 : ((k : Int) + 1).tmod p = 0 := by rw [hkl, Int.tmod_self]
        have v1 : IntKind.i64.wrap ((k : Int) + 1) = (k : Int) + 1 := IntWalk.i64_in _ (by omega)
        have HC := hide (show nlC p 0 n = 5 by unfold nlC; rw [if_neg (by decide), if_pos ⟨rfl, by omega⟩])
        have HV := hide (show nlV p 0 n = [] by unfold nlV; rw [HC.out]; rfl)
        clear hkl
        go_wp2
        go_ret2
        exact ⟨none, 0, by rw [HV.out, HC.out]; rfl, by rw [HV.out]; exact Own.nil _ _, hW.out⟩
      · have t1 : ((k : Int) + 1).tmod p = (k : Int) + 1 := by rw [Int.tmod_eq_emod_of_nonneg (by omega), Int.emod_eq_of_lt (by omega) (by omega)]
        have v1 : IntKind.i64.wrap ((k : Int) + 1) = (k : Int) + 1 := IntWalk.i64_in _ (by omega)
        have t2 : ¬ (k : Int) + 1 = 0 := by omega
        have t3 : (((k : Int) + 1) == 0) = false := by simpa using t2
        have hst := hide (show tab (k + 1) (unF p) = tab k (unF p) ++ [invM p ((k : Int) + 1)] from (tab_snoc k (unF p)).symm)
        obtain ⟨z, hz⟩ : ∃ z, invM p ((k : Int) + 1) = z := ⟨_, rfl⟩
        have HZ := hide hz
        rw [hz] at hst
        clear hz
        obtain ⟨zs, hzs⟩ : ∃ zs, tab k (unF p) = zs := ⟨_, rfl⟩
        have hzl := hide (show zs.length = k by rw [← hzs]; exact hzl0.out)
        rw [hzs] at hO hst
        have hOa := hide (hO.out.below (bl1 wr (.cells #[.int .i64 z] 2)))
        have hWa := hide hW.out
        clear hzs hO hW
        go_wp2_with (first | (go_at_call 61; refine (l01Inverse_any p ((k : Int) + 1) _ hp hp2 (by omega) (by omega)).mono ?_; rintro e wq ⟨rfl, rfl⟩; rw [HZ.out]) | (at_builtin; refine wp_append rfl _ _ rfl w.heap.size _ k _ zs rfl hzl.out.symm hOa.out _ 1 1 [z] rfl (litSL wr z) (by omega) (by simp; omega) ?_; intro ad' cap' w9 hown hb))
        have hown' : Hid (Own w.heap.size w9 ad' cap' (tab (k + 1) (unF p))) := hide (by rw [hst.out]; exact hown)
        have hB1 := hide ((hWa.out.alloc hbs (.cells #[.int .i64 z] 2)).trans hb)
        clear hown hb hOa hst hWa
        go_wp2
        go_roundw
        case rel => exact ⟨k + 1, ad', cap', by omega, by omega, by first | go_num | (simp; omega), by rw [hzl.out], rfl, hown', hB1⟩
        case measure => first | (simp [intOf]; done) | (simp [intOf]; omega)
    · have Hk := hide (show k = n by omega)
      have hlt' : ¬ (k : Int) < (n : Int) := by omega
      have HC := hide (show nlC p 0 n = 0 by unfold nlC; rw [if_neg (by decide), if_neg (by omega)])
      have HV := hide (show nlV p 0 n = tab n (unF p) by unfold nlV; rw [if_pos HC.out]; rfl)
      go_wp2
      go_ret2
      exact ⟨a', c', by rw [HV.out, HC.out, Hk.out]; simp [tab_len], by rw [HV.out, ← Hk.out]; exact hO.out, hW.out⟩
set_option maxRecDepth 100000 in
set_option maxHeartbeats 1600000 in
theorem l02Named_1 (p : Int) (n : Nat) (w : World) (hp : 2 ≤ p) (hp2 : p ≤ 10007) (hn : n ≤ 24) (hn1 : 1 ≤ n) : Calls Try.prog 57 #[.string mn1, .int .i64 p, .int .i64 n] w
    fun e w' => ∃ a' c', e = .returned (.tuple #[.slice a' (nlV p 1 n).length c', .bool (decide (nlC p 1 n = 0))]) ∧ Own w.heap.size w' a' c' (nlV p 1 n) ∧ Below w.heap.size w w' := by
  have q0 : ¬ (mn1.toList = [117, 110, 105, 102, 111, 114, 109]) := by simp [mn1]
  have q1 : mn1.toList = [108, 97, 103, 117, 101, 114, 114, 101] := by simp [mn1]
  have q2 : ¬ (mn1.toList = [104, 101, 114, 109, 105, 116, 101]) := by simp [mn1]
  have q3 : ¬ (mn1.toList = [99, 97, 116, 97, 108, 97, 110]) := by simp [mn1]
  have q4 : ¬ (mn1.toList = [112, 111, 105, 115, 115, 111, 110]) := by simp [mn1]
  have hO0 : Hid (Own w.heap.size ((w.alloc (.cells #[] 2)).alloc (.cells #[.int .i64 1] 2)) (some ⟨w.heap.size, 0, none⟩) 0 (tab 0 (laF p))) := hide ((show Own w.heap.size (w.alloc (.cells #[] 2)) (some ⟨w.heap.size, 0, none⟩) 0 [] from World.ownsRow_lit w (base := w.heap.size) (e := 2) (size := 1) #[] 0 (Nat.le_refl _) (by simp) rfl).below (bl1 _ _))
  have hb0 := hide (bl2 w (.cells #[] 2) (.cells #[.int .i64 1] 2))
  have hp0 : ¬ p = 0 := by omega
  go_enter Try.func57, Try.ntmps57
  go_wp2
  go_loopw [8, 9, 10] (fun ov rv iv wr => ∃ (k : Nat) (a' : Option Addr) (c' : Nat), k ≤ n ∧ iv = .int .i64 k ∧ ov = .slice a' k c' ∧ rv = .slice (some ⟨w.heap.size + 1, 0, none⟩) 1 1 ∧ Hid (Own w.heap.size wr a' c' (tab k (laF p))) ∧ Hid (Below w.heap.size w wr)) (fun _ _ iv _ => n - (intOf iv).toNat)
  case atStart => exact ⟨0, _, _, by omega, rfl, rfl, rfl, hO0, hb0⟩
  case round =>
    obtain ⟨k, a', c', hk, rfl, rfl, rfl, hO, hW⟩ := hrel
    clear hO0 hb0
    by_cases hlt : k < n
    · have hlt' : (k : Int) < (n : Int) := by omega
      have k2 : (0 : Int) ≤ (k : Int) := by omega
      have hbs := hW.out.size
      have hzl0 := hide (show (tab k (laF p)).length = k from tab_len _ _)
      by_cases h0 : k = 0
      · have k0 : (k : Int) = 0 := by omega
        have k5 : ¬ (0 : Int) < (k : Int) := by omega
        have hst := hide (show tab (k + 1) (laF p) = tab k (laF p) ++ [1] by rw [← tab_snoc, h0]; rfl)
        obtain ⟨z, hz⟩ : ∃ z : Int, z = 1 := ⟨_, rfl⟩
        rw [← hz] at hst
        subst hz
        obtain ⟨zs, hzs⟩ : ∃ zs, tab k (laF p) = zs := ⟨_, rfl⟩
        have hzl := hide (show zs.length = k by rw [← hzs]; exact hzl0.out)
        rw [hzs] at hO hst
        have hOa := hide (hO.out.below (bl1 wr (.cells #[.int .i64 1] 2)))
        have hWa := hide hW.out
        clear hzs hO hW
        go_wp2_with (first | (at_builtin; refine wp_append rfl _ _ rfl w.heap.size _ k _ zs rfl hzl.out.symm hOa.out _ 1 1 [1] rfl (litSL wr 1) (by omega) (by simp; omega) ?_; intro ad' cap' w9 hown hb))
        have hown' : Hid (Own w.heap.size w9 ad' cap' (tab (k + 1) (laF p))) := hide (by rw [hst.out]; exact hown)
        have hB1 := hide ((hWa.out.alloc hbs (.cells #[.int .i64 1] 2)).trans hb)
        clear hown hb hOa hst hWa
        go_wp2
        go_roundw
        case rel => exact ⟨k + 1, ad', cap', by omega, by first | go_num | (simp; omega), by rw [hzl.out], rfl, hown', hB1⟩
        case measure => first | (simp [intOf]; done) | (simp [intOf]; omega)
      · have k5 : (0 : Int) < (k : Int) := by omega
        have x1 := laF_rng hp (k - 1)
        have hst := hide (show tab (k + 1) (laF p) = tab k (laF p) ++ [laF p (k - 1) * (k : Int) % p] by rw [← tab_snoc, laF_step p k (by omega)])
        have s0 := hO.out.sl
        rw [hzl0.out] at s0
        obtain ⟨b, off, ha, hbw, hcell⟩ := s0.at (by omega)
        subst ha
        have e1 := hcell (k - 1) (by omega)
        rw [tab_at _ _ _ (show k - 1 < k by omega)] at e1
        obtain ⟨x, hx⟩ : ∃ x, laF p (k - 1) = x := ⟨_, rfl⟩
        rw [hx] at e1 x1 hst
        obtain ⟨m1, m2⟩ := mulb x1.1 (show x < 10007 by omega) (show (0 : Int) ≤ (k : Int) by omega) (show (k : Int) < 10007 by omega) (by omega)
        have k0 : (0 : Int) ≤ (k : Int) - 1 := by omega
        have k3 : ((k : Int) - 1).toNat = k - 1 := by omega
        have k4 : 1 ≤ (k : Int) := by omega
        have v1 : IntKind.i64.wrap ((k : Int) - 1) = (k : Int) - 1 := IntWalk.i64_in _ (by omega)
        have v3 : IntKind.i64.wrap (x * (k : Int)) = x * (k : Int) := IntWalk.i64_in _ (by omega)
        have v6 : (x * (k : Int)).tmod p = x * (k : Int) % p := Int.tmod_eq_emod_of_nonneg m1
        have v7 := modb (x := x * (k : Int)) hp
        obtain ⟨z, hz⟩ : ∃ z, x * (k : Int) % p = z := ⟨_, rfl⟩
        rw [hz] at hst v6 v7
        have v5 : IntKind.i64.wrap z = z := IntWalk.i64_in _ (by omega)
        clear hz hx s0 hcell
        obtain ⟨zs, hzs⟩ : ∃ zs, tab k (laF p) = zs := ⟨_, rfl⟩
        have hzl := hide (show zs.length = k by rw [← hzs]; exact hzl0.out)
        rw [hzs] at hO hst
        have hOa := hide (hO.out.below (bl1 wr (.cells #[.int .i64 z] 2)))
        have hWa := hide hW.out
        clear hzs hO hW
        go_wp2_with (first | (at_builtin; refine wp_append rfl _ _ rfl w.heap.size _ k _ zs rfl hzl.out.symm hOa.out _ 1 1 [z] rfl (litSL wr z) (by omega) (by simp; omega) ?_; intro ad' cap' w9 hown hb))
        have hown' : Hid (Own w.heap.size w9 ad' cap' (tab (k + 1) (laF p))) := hide (by rw [hst.out]; exact hown)
        have hB1 := hide ((hWa.out.alloc hbs (.cells #[.int .i64 z] 2)).trans hb)
        clear hown hb hOa hst hWa
        go_wp2
        go_roundw
        case rel => exact ⟨k + 1, ad', cap', by omega, by first | go_num | (simp; omega), by rw [hzl.out], rfl, hown', hB1⟩
        case measure => first | (simp [intOf]; done) | (simp [intOf]; omega)
    · have Hk := hide (show k = n by omega)
      have hlt' : ¬ (k : Int) < (n : Int) := by omega
      have HC := hide (show nlC p 1 n = 0 by unfold nlC; rw [if_neg (by decide), if_neg (by simp)])
      have HV := hide (show nlV p 1 n = tab n (laF p) by unfold nlV; rw [if_pos HC.out]; rfl)
      go_wp2
      go_ret2
      exact ⟨a', c', by rw [HV.out, HC.out, Hk.out]; simp [tab_len], by rw [HV.out, ← Hk.out]; exact hO.out, hW.out⟩
set_option maxRecDepth 100000 in
set_option maxHeartbeats 1600000 in
theorem l02Named_2 (p : Int) (n : Nat) (w : World) (hp : 2 ≤ p) (hp2 : p ≤ 10007) (hn : n ≤ 24) (hn1 : 1 ≤ n) : Calls Try.prog 57 #[.string mn2, .int .i64 p, .int .i64 n] w
    fun e w' => ∃ a' c', e = .returned (.tuple #[.slice a' (nlV p 2 n).length c', .bool (decide (nlC p 2 n = 0))]) ∧ Own w.heap.size w' a' c' (nlV p 2 n) ∧ Below w.heap.size w w' := by
  have q0 : ¬ (mn2.toList = [117, 110, 105, 102, 111, 114, 109]) := by simp [mn2]
  have q1 : ¬ (mn2.toList = [108, 97, 103, 117, 101, 114, 114, 101]) := by simp [mn2]
  have q2 : mn2.toList = [104, 101, 114, 109, 105, 116, 101] := by simp [mn2]
  have q3 : ¬ (mn2.toList = [99, 97, 116, 97, 108, 97, 110]) := by simp [mn2]
  have q4 : ¬ (mn2.toList = [112, 111, 105, 115, 115, 111, 110]) := by simp [mn2]
  have hO0 : Hid (Own w.heap.size ((w.alloc (.cells #[] 2)).alloc (.cells #[.int .i64 1] 2)) (some ⟨w.heap.size, 0, none⟩) 0 (tab 0 (heF p))) := hide ((show Own w.heap.size (w.alloc (.cells #[] 2)) (some ⟨w.heap.size, 0, none⟩) 0 [] from World.ownsRow_lit w (base := w.heap.size) (e := 2) (size := 1) #[] 0 (Nat.le_refl _) (by simp) rfl).below (bl1 _ _))
  have hb0 := hide (bl2 w (.cells #[] 2) (.cells #[.int .i64 1] 2))
  have hp0 : ¬ p = 0 := by omega
  go_enter Try.func57, Try.ntmps57
  go_wp2
  go_loopw [8, 9, 10] (fun ov rv iv wr => ∃ (k : Nat) (a' : Option Addr) (c' : Nat), k ≤ n ∧ iv = .int .i64 k ∧ ov = .slice a' k c' ∧ rv = .slice (some ⟨w.heap.size + 1, 0, none⟩) 1 1 ∧ Hid (Own w.heap.size wr a' c' (tab k (heF p))) ∧ Hid (Below w.heap.size w wr)) (fun _ _ iv _ => n - (intOf iv).toNat)
  case atStart => exact ⟨0, _, _, by omega, rfl, rfl, rfl, hO0, hb0⟩
  case round =>
    obtain ⟨k, a', c', hk, rfl, rfl, rfl, hO, hW⟩ := hrel
    clear hO0 hb0
    by_cases hlt : k < n
    · have hlt' : (k : Int) < (n : Int) := by omega
      have k2 : (0 : Int) ≤ (k : Int) := by omega
      have hbs := hW.out.size
      have hzl0 := hide (show (tab k (heF p)).length = k from tab_len _ _)
      by_cases h0 : k = 0
      · have k0 : (k : Int) = 0 := by omega
        have hst := hide (show tab (k + 1) (heF p) = tab k (heF p) ++ [1] by rw [← tab_snoc, h0]; rfl)
        obtain ⟨zs, hzs⟩ : ∃ zs, tab k (heF p) = zs := ⟨_, rfl⟩
        have hzl := hide (show zs.length = k by rw [← hzs]; exact hzl0.out)
        rw [hzs] at hO hst
        have hOa := hide (hO.out.below (bl1 wr (.cells #[.int .i64 1] 2)))
        have hWa := hide hW.out
        clear hzs hO hW
        go_wp2_with (first | (at_builtin; refine wp_append rfl _ _ rfl w.heap.size _ k _ zs rfl hzl.out.symm hOa.out _ 1 1 [1] rfl (litSL wr 1) (by omega) (by simp; omega) ?_; intro ad' cap' w9 hown hb))
        have hown' : Hid (Own w.heap.size w9 ad' cap' (tab (k + 1) (heF p))) := hide (by rw [hst.out]; exact hown)
        have hB1 := hide ((hWa.out.alloc hbs (.cells #[.int .i64 1] 2)).trans hb)
        clear hown hb hOa hst hWa
        go_wp2
        go_roundw
        case rel => exact ⟨k + 1, ad', cap', by omega, by first | go_num | (simp; omega), by rw [hzl.out], rfl, hown', hB1⟩
        case measure => first | (simp [intOf]; done) | (simp [intOf]; omega)
      by_cases hev : k % 2 = 0
      · have k0 : ¬ (k : Int) = 0 := by omega
        have kb : ((k : Int) == 0) = false := by simpa using h0
        have t1 : (k : Int).tmod 2 = 0 := by rw [Int.tmod_eq_emod_of_nonneg (by omega)]; omega
        have w1 : IntKind.i64.wrap (0 : Int) = 0 := IntWalk.i64_in _ (by omega)
        have x1 := heF_rng hp (k - 2)
        have hst := hide (show tab (k + 1) (heF p) = tab k (heF p) ++ [heF p (k - 2) * ((k : Int) - 1) % p] by rw [← tab_snoc, heF_step p k (by omega)])
        have s0 := hO.out.sl
        rw [hzl0.out] at s0
        obtain ⟨b, off, ha, hbw, hcell⟩ := s0.at (by omega)
        subst ha
        have e1 := hcell (k - 2) (by omega)
        rw [tab_at _ _ _ (show k - 2 < k by omega)] at e1
        obtain ⟨x, hx⟩ : ∃ x, heF p (k - 2) = x := ⟨_, rfl⟩
        rw [hx] at e1 x1 hst
        obtain ⟨m1, m2⟩ := mulb x1.1 (show x < 10007 by omega) (show (0 : Int) ≤ (k : Int) - 1 by omega) (show (k : Int) - 1 < 10007 by omega) (by omega)
        have k6 : (0 : Int) ≤ (k : Int) - 2 := by omega
        have k3 : ((k : Int) - 2).toNat = k - 2 := by omega
        have k4 : 2 ≤ (k : Int) := by omega
        have v1 : IntKind.i64.wrap ((k : Int) - 1) = (k : Int) - 1 := IntWalk.i64_in _ (by omega)
        have v2 : IntKind.i64.wrap ((k : Int) - 2) = (k : Int) - 2 := IntWalk.i64_in _ (by omega)
        have v3 : IntKind.i64.wrap (x * ((k : Int) - 1)) = x * ((k : Int) - 1) := IntWalk.i64_in _ (by omega)
        have v6 : (x * ((k : Int) - 1)).tmod p = x * ((k : Int) - 1) % p := Int.tmod_eq_emod_of_nonneg m1
        have v7 := modb (x := x * ((k : Int) - 1)) hp
        obtain ⟨z, hz⟩ : ∃ z, x * ((k : Int) - 1) % p = z := ⟨_, rfl⟩
        rw [hz] at hst v6 v7
        have v5 : IntKind.i64.wrap z = z := IntWalk.i64_in _ (by omega)
        clear hz hx s0 hcell
        obtain ⟨zs, hzs⟩ : ∃ zs, tab k (heF p) = zs := ⟨_, rfl⟩
        have hzl := hide (show zs.length = k by rw [← hzs]; exact hzl0.out)
        rw [hzs] at hO hst
        have hOa := hide (hO.out.below (bl1 wr (.cells #[.int .i64 z] 2)))
        have hWa := hide hW.out
        clear hzs hO hW
        go_wp2_with (first | (at_builtin; refine wp_append rfl _ _ rfl w.heap.size _ k _ zs rfl hzl.out.symm hOa.out _ 1 1 [z] rfl (litSL wr z) (by omega) (by simp; omega) ?_; intro ad' cap' w9 hown hb))
        have hown' : Hid (Own w.heap.size w9 ad' cap' (tab (k + 1) (heF p))) := hide (by rw [hst.out]; exact hown)
        have hB1 := hide ((hWa.out.alloc hbs (.cells #[.int .i64 z] 2)).trans hb)
        clear hown hb hOa hst hWa
        go_wp2
        go_roundw
        case rel => exact ⟨k + 1, ad', cap', by omega, by first | go_num | (simp; omega), by rw [hzl.out], rfl, hown', hB1⟩
        case measure => first | (simp [intOf]; done) | (simp [intOf]; omega)
      · have k0 : ¬ (k : Int) = 0 := by omega
        have kb : ((k : Int) == 0) = false := by simpa using h0
        have t1 : (k : Int).tmod 2 = 1 := by rw [Int.tmod_eq_emod_of_nonneg (by omega)]; omega
        have w1 : IntKind.i64.wrap (1 : Int) = 1 := IntWalk.i64_in _ (by omega)
        have hst := hide (show tab (k + 1) (heF p) = tab k (heF p) ++ [0] by rw [← tab_snoc, heF_odd2 p k (by omega)])
        obtain ⟨zs, hzs⟩ : ∃ zs, tab k (heF p) = zs := ⟨_, rfl⟩
        have hzl := hide (show zs.length = k by rw [← hzs]; exact hzl0.out)
        rw [hzs] at hO hst
        have hOa := hide (hO.out.below (bl1 wr (.cells #[.int .i64 0] 2)))
        have hWa := hide hW.out
        clear hzs hO hW
        go_wp2_with (first | (at_builtin; refine wp_append rfl _ _ rfl w.heap.size _ k _ zs rfl hzl.out.symm hOa.out _ 1 1 [0] rfl (litSL wr 0) (by omega) (by simp; omega) ?_; intro ad' cap' w9 hown hb))
        have hown' : Hid (Own w.heap.size w9 ad' cap' (tab (k + 1) (heF p))) := hide (by rw [hst.out]; exact hown)
        have hB1 := hide ((hWa.out.alloc hbs (.cells #[.int .i64 0] 2)).trans hb)
        clear hown hb hOa hst hWa
        go_wp2
        go_roundw
        case rel => exact ⟨k + 1, ad', cap', by omega, by first | go_num | (simp; omega), by rw [hzl.out], rfl, hown', hB1⟩
        case measure => first | (simp [intOf]; done) | (simp [intOf]; omega)
    · have Hk := hide (show k = n by omega)
      have hlt' : ¬ (k : Int) < (n : Int) := by omega
      have HC := hide (show nlC p 2 n = 0 by unfold nlC; rw [if_neg (by decide), if_neg (by simp)])
      have HV := hide (show nlV p 2 n = tab n (heF p) by unfold nlV; rw [if_pos HC.out]; rfl)
      go_wp2
      go_ret2
      exact ⟨a', c', by rw [HV.out, HC.out, Hk.out]; simp [tab_len], by rw [HV.out, ← Hk.out]; exact hO.out, hW.out⟩
set_option maxRecDepth 100000 in
set_option maxHeartbeats 1600000 in
theorem l02Named_3 (p : Int) (n : Nat) (w : World) (hp : 2 ≤ p) (hp2 : p ≤ 10007) (hn : n ≤ 24) (hn1 : 1 ≤ n) : Calls Try.prog 57 #[.string mn3, .int .i64 p, .int .i64 n] w
    fun e w' => ∃ a' c', e = .returned (.tuple #[.slice a' (nlV p 3 n).length c', .bool (decide (nlC p 3 n = 0))]) ∧ Own w.heap.size w' a' c' (nlV p 3 n) ∧ Below w.heap.size w w' := by
  have q0 : ¬ (mn3.toList = [117, 110, 105, 102, 111, 114, 109]) := by simp [mn3]
  have q1 : ¬ (mn3.toList = [108, 97, 103, 117, 101, 114, 114, 101]) := by simp [mn3]
  have q2 : ¬ (mn3.toList = [104, 101, 114, 109, 105, 116, 101]) := by simp [mn3]
  have q3 : mn3.toList = [99, 97, 116, 97, 108, 97, 110] := by simp [mn3]
  have q4 : ¬ (mn3.toList = [112, 111, 105, 115, 115, 111, 110]) := by simp [mn3]
  have hO0 : Hid (Own w.heap.size ((w.alloc (.cells #[] 2)).alloc (.cells #[.int .i64 1] 2)) (some ⟨w.heap.size, 0, none⟩) 0 (grL p (fun _ l => rvL l) 0)) := hide ((show Own w.heap.size (w.alloc (.cells #[] 2)) (some ⟨w.heap.size, 0, none⟩) 0 [] from World.ownsRow_lit w (base := w.heap.size) (e := 2) (size := 1) #[] 0 (Nat.le_refl _) (by simp) rfl).below (bl1 _ _))
  have hb0 := hide (bl2 w (.cells #[] 2) (.cells #[.int .i64 1] 2))
  have hp0 : ¬ p = 0 := by omega
  go_enter Try.func57, Try.ntmps57
  go_wp2
  go_loopw [8, 9, 10] (fun ov rv iv wr => ∃ (k : Nat) (a' : Option Addr) (c' : Nat), k ≤ n ∧ iv = .int .i64 k ∧ ov = .slice a' k c' ∧ rv = .slice (some ⟨w.heap.size + 1, 0, none⟩) 1 1 ∧ Hid (Own w.heap.size wr a' c' (grL p (fun _ l => rvL l) k)) ∧ Hid (Below w.heap.size w wr)) (fun _ _ iv _ => n - (intOf iv).toNat)
  case atStart => exact ⟨0, _, _, by omega, rfl, rfl, rfl, hO0, hb0⟩
  case round =>
    obtain ⟨k, a', c', hk, rfl, rfl, rfl, hO, hW⟩ := hrel
    clear hO0 hb0
    by_cases hlt : k < n
    · have hlt' : (k : Int) < (n : Int) := by omega
      have k2 : (0 : Int) ≤ (k : Int) := by omega
      have hbs := hW.out.size
      have hzl0 := hide (show (grL p (fun _ l => rvL l) k).length = k from grL_len _ _ _)
      have hA := hide (grL_are hp (fun _ l => rvL l) k)
      have hst := hide (show grL p (fun _ l => rvL l) (k + 1) = grL p (fun _ l => rvL l) k ++ [if k = 0 then 1 else dotK p (grL p (fun _ l => rvL l) k) (revL (grL p (fun _ l => rvL l) k)) 0 k] by
        rw [dotK_comm]
        rfl)
      obtain ⟨zs, hzs⟩ : ∃ zs, grL p (fun _ l => rvL l) k = zs := ⟨_, rfl⟩
      have hzl := hide (show zs.length = k by rw [← hzs]; exact hzl0.out)
      rw [hzs] at hO hst hA
      clear hzs
      have s0 := hO.out.sl
      rw [hzl.out] at s0
      go_wp2_with fail
      refine (l02Back_any a' k c' zs _ s0 (by omega)).mono ?_
      rintro e w2 ⟨a2, c2, rfl, ho2, t2⟩
      have s2 := ho2.sl
      rw [revL_len, hzl.out] at s2
      go_wp2_with fail
      refine (l02Sum_any p k a' k c' zs a2 k c2 (revL zs) _ (s0.below t2) s2 (Nat.le_refl _) (Nat.le_refl _) (by omega) hp hp2 hA.out (revL_are hA.out)).mono ?_
      rintro e w3 ⟨rfl, t3⟩
      obtain ⟨z, hz⟩ : ∃ z, (if k = 0 then 1 else dotK p zs (revL zs) 0 k) = z := ⟨_, rfl⟩
      rw [hz] at hst ⊢
      have zb := t2.size
      have zc := t3.size
      have hOa := hide (((hO.out.below t2).below t3).below (bl1 w3 (.cells #[.int .i64 z] 2)))
      have hWa := hide ((hW.out.trans (t2.mono hbs)).trans (t3.mono (by omega)))
      replace hbs : w.heap.size ≤ w3.heap.size := by omega
      clear hO hW hz s0 s2 ho2 t2 t3
      go_wp2_with (first | (at_builtin; refine wp_append rfl _ _ rfl w.heap.size _ k _ zs rfl hzl.out.symm hOa.out _ 1 1 [z] rfl (litSL w3 z) (by omega) (by simp; omega) ?_; intro ad' cap' w9 hown hb))
      have hown' : Hid (Own w.heap.size w9 ad' cap' (grL p (fun _ l => rvL l) (k + 1))) := hide (by rw [hst.out]; exact hown)
      have hB1 := hide ((hWa.out.alloc hbs (.cells #[.int .i64 z] 2)).trans hb)
      clear hown hb hOa hst hWa
      go_wp2
      go_roundw
      case rel => exact ⟨k + 1, ad', cap', by omega, by first | go_num | (simp; omega), by rw [hzl.out], rfl, hown', hB1⟩
      case measure => first | (simp [intOf]; done) | (simp [intOf]; omega)
    · have Hk := hide (show k = n by omega)
      have hlt' : ¬ (k : Int) < (n : Int) := by omega
      have HC := hide (show nlC p 3 n = 0 by unfold nlC; rw [if_neg (by decide), if_neg (by simp)])
      have HV := hide (show nlV p 3 n = grL p (fun _ l => rvL l) n by unfold nlV; rw [if_pos HC.out]; rfl)
      go_wp2
      go_ret2
      exact ⟨a', c', by rw [HV.out, HC.out, Hk.out]; simp [grL_len], by rw [HV.out, ← Hk.out]; exact hO.out, hW.out⟩
set_option maxRecDepth 100000 in
set_option maxHeartbeats 1600000 in
theorem l02Named_4 (p : Int) (n : Nat) (w : World) (hp : 2 ≤ p) (hp2 : p ≤ 10007) (hn : n ≤ 24) (hn1 : 1 ≤ n) : Calls Try.prog 57 #[.string mn4, .int .i64 p, .int .i64 n] w
    fun e w' => ∃ a' c', e = .returned (.tuple #[.slice a' (nlV p 4 n).length c', .bool (decide (nlC p 4 n = 0))]) ∧ Own w.heap.size w' a' c' (nlV p 4 n) ∧ Below w.heap.size w w' := by
  have q0 : ¬ (mn4.toList = [117, 110, 105, 102, 111, 114, 109]) := by simp [mn4]
  have q1 : ¬ (mn4.toList = [108, 97, 103, 117, 101, 114, 114, 101]) := by simp [mn4]
  have q2 : ¬ (mn4.toList = [104, 101, 114, 109, 105, 116, 101]) := by simp [mn4]
  have q3 : ¬ (mn4.toList = [99, 97, 116, 97, 108, 97, 110]) := by simp [mn4]
  have q4 : mn4.toList = [112, 111, 105, 115, 115, 111, 110] := by simp [mn4]
  have hO0 : Hid (Own w.heap.size ((w.alloc (.cells #[] 2)).alloc (.cells #[.int .i64 1] 2)) (some ⟨w.heap.size, 0, none⟩) 0 (grL p (fun k _ => psL p (k - 1)) 0)) := hide ((show Own w.heap.size (w.alloc (.cells #[] 2)) (some ⟨w.heap.size, 0, none⟩) 0 [] from World.ownsRow_lit w (base := w.heap.size) (e := 2) (size := 1) #[] 0 (Nat.le_refl _) (by simp) rfl).below (bl1 _ _))
  have hb0 := hide (bl2 w (.cells #[] 2) (.cells #[.int .i64 1] 2))
  have hp0 : ¬ p = 0 := by omega
  have hC0 : Hid (SL ((w.alloc (.cells #[] 2)).alloc (.cells #[.int .i64 1] 2)) (some ⟨w.heap.size + 1, 0, none⟩) 1 1 (psL p 0)) := hide (by
    have t := litSL (w.alloc (.cells #[] 2)) 1
    rw [show (w.alloc (.cells #[] 2)).heap.size = w.heap.size + 1 by simp] at t
    exact t)
  have hD0 : Hid (∀ g, blk (some ⟨w.heap.size, 0, none⟩ : Option Addr) = some g → blk (some ⟨w.heap.size + 1, 0, none⟩ : Option Addr) ≠ some g) := hide (fun g h1 h2 => by simp [blk] at h1 h2; omega)
  go_enter Try.func57, Try.ntmps57
  go_wp2
  go_loopw [8, 9, 10] (fun ov rv iv wr => ∃ (k : Nat) (a' : Option Addr) (c' : Nat) (a2 : Option Addr) (c2 : Nat), k ≤ n ∧ iv = .int .i64 k ∧ ov = .slice a' k c' ∧ rv = .slice a2 (k - 1 + 1) c2 ∧ Hid (Own w.heap.size wr a' c' (grL p (fun k _ => psL p (k - 1)) k)) ∧ Hid (SL wr a2 (k - 1 + 1) c2 (psL p (k - 1))) ∧ Hid (∀ g, blk a' = some g → blk a2 ≠ some g) ∧ Hid (Below w.heap.size w wr)) (fun _ _ iv _ => n - (intOf iv).toNat)
  case atStart => exact ⟨0, _, _, _, _, by omega, rfl, rfl, rfl, hO0, hC0, hD0, hb0⟩
  case round =>
    obtain ⟨k, a', c', a2, c2, hk, rfl, rfl, rfl, hO, hC, hD, hW⟩ := hrel
    clear hO0 hb0 hC0 hD0
    by_cases hlt : k < n
    · have hlt' : (k : Int) < (n : Int) := by omega
      have k2 : (0 : Int) ≤ (k : Int) := by omega
      have hbs := hW.out.size
      have hzl0 := hide (show (grL p (fun k _ => psL p (k - 1)) k).length = k from grL_len _ _ _)
      have hA := hide (grL_are hp (fun k _ => psL p (k - 1)) k)
      have hst := hide (show grL p (fun k _ => psL p (k - 1)) (k + 1) = grL p (fun k _ => psL p (k - 1)) k ++ [if k = 0 then 1 else dotK p (grL p (fun k _ => psL p (k - 1)) k) (psL p (k - 1)) 0 k] by
        rw [dotK_comm]
        rfl)
      have hP := hide (psL_are hp (k - 1))
      have hpc := hide (pcL_ps hp (k - 1))
      have hpl := hide (psL_len p (k - 1))
      obtain ⟨ps, hpps⟩ : ∃ ps, psL p (k - 1) = ps := ⟨_, rfl⟩
      have Hpps := hide hpps
      obtain ⟨zs, hzs⟩ : ∃ zs, grL p (fun k _ => psL p (k - 1)) k = zs := ⟨_, rfl⟩
      have hzl := hide (show zs.length = k by rw [← hzs]; exact hzl0.out)
      rw [hzs] at hO hst hA
      rw [hpps] at hC hst hP hpc hpl
      clear hzs hpps
      have s0 := hO.out.sl
      rw [hzl.out] at s0
      go_wp2_with fail
      refine (l02Sum_any p k a' k c' zs a2 (k - 1 + 1) c2 ps _ s0 hC.out (Nat.le_refl _) (by omega) (by omega) hp hp2 hA.out hP.out).mono ?_
      rintro e w3 ⟨rfl, t3⟩
      obtain ⟨z, hz⟩ : ∃ z, (if k = 0 then 1 else dotK p zs ps 0 k) = z := ⟨_, rfl⟩
      rw [hz] at hst ⊢
      have zc := t3.size
      have hO3 := hide (hO.out.below t3)
      have hC3 := hide (hC.out.below t3)
      have hW3 := hide (hW.out.trans (t3.mono hbs))
      clear hO hW hz s0 t3 hC
      by_cases h0 : k = 0
      · have k0 : (k : Int) = 0 := by omega
        have k5 : ¬ (0 : Int) < (k : Int) := by omega
        have hOa := hide (hO3.out.below (bl1 w3 (.cells #[.int .i64 z] 2)))
        have hCa := hide (hC3.out.below (bl1 w3 (.cells #[.int .i64 z] 2)))
        have hWa := hide (hW3.out.alloc (by omega) (.cells #[.int .i64 z] 2))
        have hlt2 : Hid (∀ g, blk a2 = some g → g < w3.heap.size) := hide (fun g h => by
          obtain ⟨b, off, ha, hbw, _⟩ := hC3.out.at (by omega)
          rw [ha] at h
          cases h
          exact hbw)
        have H0 := hide h0
        clear hO3 hC3 hW3 h0
        go_wp2_with (at_builtin; refine wp_appG (by rfl) _ _ (by rfl) w.heap.size _ k _ zs (by rfl) hzl.out.symm hOa.out _ 1 1 [z] (by rfl) (litSL w3 z) (by omega) (by simp; omega) ?_; intro ad' cap' w4 hown hgr hloc)
        have hC4 := hide (hCa.out.grownN hgr (fun b h1 h2 => hD.out b h2 h1))
        have hW4 := hide (hWa.out.grown hgr (by have := hWa.out.size; omega) (fun g e => own_blk_ge hOa.out g e))
        have hown' : Hid (Own w.heap.size w4 ad' cap' (grL p (fun k _ => psL p (k - 1)) (k + 1))) := hide (by rw [hst.out]; exact hown)
        have hC5 : Hid (SL w4 a2 (k + 1 - 1 + 1) c2 (psL p (k + 1 - 1))) := hide (by
          have e : psL p (k + 1 - 1) = ps := by rw [← Hpps.out, H0.out]
          rw [e, show k + 1 - 1 + 1 = k - 1 + 1 by omega]
          exact hC4.out)
        have hD5 : Hid (∀ g, blk ad' = some g → blk a2 ≠ some g) := hide (fun g h1 h2 => by
          rcases hloc with h | h
          · exact hD.out g (h ▸ h1) h2
          · exact absurd (hlt2.out g h2) (by rw [h] at h1; have := Option.some.inj h1; simp at this; omega))
        have Hk1 := hide (show k - 1 + 1 = k + 1 - 1 + 1 by omega)
        clear hC4 hown hgr hloc hst hOa hCa hWa
        go_wp2
        go_roundw
        case rel => exact ⟨k + 1, ad', cap', a2, c2, by omega, by first | go_num | (simp; omega), by rw [hzl.out], by rw [Hk1.out], hown', hC5, hD5, hW4⟩
        case measure => first | (simp [intOf]; done) | (simp [intOf]; omega)
      · have k5 : (0 : Int) < (k : Int) := by omega
        go_wp2_with fail
        refine (l02Pascal_any p a2 (k - 1 + 1) c2 ps _ hC3.out (by omega) (by omega) hp hp2 hP.out).mono ?_
        rintro e w5 ⟨a5, c5, rfl, ho5, t5⟩
        have zd := t5.size
        have hOa := hide ((hO3.out.below t5).below (bl1 w5 (.cells #[.int .i64 z] 2)))
        have hCa := hide (ho5.sl.below (bl1 w5 (.cells #[.int .i64 z] 2)))
        have hWa := hide ((hW3.out.trans (t5.mono (by omega))).alloc (by omega) (.cells #[.int .i64 z] 2))
        have hD2 : Hid (∀ g, blk a' = some g → blk a5 ≠ some g) := hide (fun g h1 h2 => by
          have q1 := own_ltN hO3.out g h1
          have q2 := own_blk_ge ho5 g h2
          omega)
        have hF := hide (fun g (h2 : blk a5 = some g) => own_ltN ho5 g h2)
        have hln := hide (show (pcL p ps).length = k - 1 + 1 + 1 by rw [hpc.out, psL_len])
        clear hO3 hC3 hW3 ho5 t5
        go_wp2_with (at_builtin; refine wp_appG (by rfl) _ _ (by rfl) w.heap.size _ k _ zs (by rfl) hzl.out.symm hOa.out _ 1 1 [z] (by rfl) (litSL w5 z) (by omega) (by simp; omega) ?_; intro ad' cap' w4 hown hgr hloc)
        have hC4 := hide (hCa.out.grownN hgr (fun b h1 h2 => hD2.out b h2 h1))
        have hW4 := hide (hWa.out.grown hgr (by have := hWa.out.size; omega) (fun g e => own_blk_ge hOa.out g e))
        have hown' : Hid (Own w.heap.size w4 ad' cap' (grL p (fun k _ => psL p (k - 1)) (k + 1))) := hide (by rw [hst.out]; exact hown)
        have hC5 : Hid (SL w4 a5 (k + 1 - 1 + 1) c5 (psL p (k + 1 - 1))) := hide (by
          have q := hC4.out
          rw [hln.out, hpc.out, show k - 1 + 1 + 1 = k + 1 - 1 + 1 by omega, show k - 1 + 1 = k + 1 - 1 by omega] at q
          exact q)
        have hD5 : Hid (∀ g, blk ad' = some g → blk a5 ≠ some g) := hide (fun g h1 h2 => by
          rcases hloc with h | h
          · exact hD2.out g (h ▸ h1) h2
          · have q1 := hF.out g h2
            rw [h] at h1
            have := Option.some.inj h1
            simp at this
            omega)
        have Hk1 := hide (show k - 1 + 1 + 1 = k + 1 - 1 + 1 by omega)
        clear hC4 hown hgr hloc hst hOa hCa hWa
        go_wp2
        go_roundw
        case rel => exact ⟨k + 1, ad', cap', a5, c5, by omega, by first | go_num | (simp; omega), by rw [hzl.out], by rw [Hk1.out], hown', hC5, hD5, hW4⟩
        case measure => first | (simp [intOf]; done) | (simp [intOf]; omega)
    · have Hk := hide (show k = n by omega)
      have hlt' : ¬ (k : Int) < (n : Int) := by omega
      have HC := hide (show nlC p 4 n = 0 by unfold nlC; rw [if_neg (by decide), if_neg (by simp)])
      have HV := hide (show nlV p 4 n = grL p (fun k _ => psL p (k - 1)) n by unfold nlV; rw [if_pos HC.out]; rfl)
      go_wp2
      go_ret2
      exact ⟨a', c', by rw [HV.out, HC.out, Hk.out]; simp [grL_len], by rw [HV.out, ← Hk.out]; exact hO.out, hW.out⟩
end Go.Proofs.Ytpoabedlcljibaa
namespace Go.Proofs.Ytpoabedlcljibaa
open Go.RowKit
set_option linter.unusedVariables false
set_option linter.unusedSimpArgs false

theorem l02Named_any (s : ByteArray) (hi : mnI s < 5) (p : Int) (n : Nat) (w : World) (hp : 2 ≤ p) (hp2 : p ≤ 10007) (hn : n ≤ 24) (hn1 : 1 ≤ n) : Calls Try.prog 57 #[.string s, .int .i64 p, .int .i64 n] w
    fun e w' => ∃ a' c', e = .returned (.tuple #[.slice a' (nlV p (mnI s) n).length c', .bool (decide (nlC p (mnI s) n = 0))]) ∧ Own w.heap.size w' a' c' (nlV p (mnI s) n) ∧ Below w.heap.size w w' := by
  obtain ⟨f0, f1, f2, f3, f4⟩ := mnI_mn
  rcases mnI_cases s with rfl | rfl | rfl | rfl | rfl | ⟨h, _⟩
  · rw [f0]; exact l02Named_0 p n w hp hp2 hn hn1
  · rw [f1]; exact l02Named_1 p n w hp hp2 hn hn1
  · rw [f2]; exact l02Named_2 p n w hp hp2 hn hn1
  · rw [f3]; exact l02Named_3 p n w hp hp2 hn hn1
  · rw [f4]; exact l02Named_4 p n w hp hp2 hn hn1
  · omega
set_option maxRecDepth 100000 in
set_option maxHeartbeats 1600000 in
theorem specNamedMoments (s : ByteArray) (p n : Int) (w : World) (hs : s.size ≤ 1048576) :
    Calls Try.prog 48 #[.string s, .int .i64 p, .int .i64 n] w (ResM w (nmP s p n) (nmV s p n) (nmC s p n)) := by
  have hb0 := bl1 w (.cells #[.int .i64 0, .slice none 0 0] 24)
  have r0 : (w.alloc (.cells #[.int .i64 0, .slice none 0 0] 24)).cell? ⟨w.heap.size, 0, none⟩ = some (.int .i64 0) := by simp [go_sem]
  have r1 : (w.alloc (.cells #[.int .i64 0, .slice none 0 0] 24)).cell? ⟨w.heap.size, 1, none⟩ = some (.slice none 0 0) := by simp [go_sem]
  have y0 : (w.alloc (.cells #[.int .i64 0, .slice none 0 0] 24)).frozen? ⟨w.heap.size, 0, none⟩ = false := by simp [go_sem]
  have y1 : (w.alloc (.cells #[.int .i64 0, .slice none 0 0] 24)).frozen? ⟨w.heap.size, 1, none⟩ = false := by simp [go_sem]
  cases hpr : primeB p
  · have HC := hide (show nmC s p n = 2 by unfold nmC; rw [if_neg (by rw [hpr]; simp)])
    have HE := hide (nm_err HC.out (by decide))
    have Hp := hide hpr
    clear hpr
    go_enter Try.func48, Try.ntmps48
    go_wp2_with fail
    refine (l01Prime_any _ _).mono ?_
    rintro e w1 ⟨rfl, rfl⟩
    rw [Hp.out]
    go_wp2
    refine bodyPost_ret (v := .tuple #[mom 0 none 0 0, .int .i64 2]) (by simp [results, Try.results48, go_sem, r0, r1]) rfl ?_
    exact ResM.nil HE.out.1 HE.out.2 HC.out hb0
  have Hp := hide hpr
  by_cases hn : 1 ≤ n ∧ n ≤ 24
  rotate_left
  · have HC := hide (show nmC s p n = 2 by unfold nmC; rw [if_neg (fun h => hn h.2)])
    have HE := hide (nm_err HC.out (by decide))
    have HN := hide hn
    clear hpr hn
    go_enter Try.func48, Try.ntmps48
    go_wp2_with fail
    refine (l01Prime_any _ _).mono ?_
    rintro e w1 ⟨rfl, rfl⟩
    rw [Hp.out]
    go_wp2_with fail
    refine (l01In_no n 1 24 _ HN.out).mono ?_
    rintro e w1 ⟨rfl, rfl⟩
    go_wp2
    refine bodyPost_ret (v := .tuple #[mom 0 none 0 0, .int .i64 2]) (by simp [results, Try.results48, go_sem, r0, r1]) rfl ?_
    exact ResM.nil HE.out.1 HE.out.2 HC.out hb0
  obtain ⟨hn1, hn2⟩ := hn
  obtain ⟨N, rfl⟩ : ∃ N : Nat, n = N := ⟨n.toNat, by omega⟩
  obtain ⟨hp, hp2⟩ := primeB_lo hpr
  have HE := hide (show nmC s p (N : Int) = nlC p (mnI s) N by unfold nmC; rw [if_pos ⟨hpr, hn1, hn2⟩, Int.toNat_natCast])
  have HVV := hide (show nmV s p (N : Int) = nlV p (mnI s) N by unfold nmV nlV; rw [HE.out, Int.toNat_natCast])
  by_cases hi : mnI s < 5
  rotate_left
  · have h5 : mnI s = 5 := by
      obtain ⟨f0, f1, f2, f3, f4⟩ := mnI_mn
      rcases mnI_cases s with rfl | rfl | rfl | rfl | rfl | ⟨h, _⟩ <;> omega
    have HK := hide (show decide (mnI s < 5) = false from decide_eq_false hi)
    have HC := hide (show nmC s p (N : Int) = 4 by rw [HE.out, h5]; unfold nlC; rw [if_pos rfl])
    have HE2 := hide (nm_err HC.out (by decide))
    clear hpr hi h5
    go_enter Try.func48, Try.ntmps48
    go_wp2_with fail
    refine (l01Prime_any _ _).mono ?_
    rintro e w1 ⟨rfl, rfl⟩
    rw [Hp.out]
    go_wp2_with fail
    refine (l01In_yes (N : Int) 1 24 _ hn1 hn2).mono ?_
    rintro e w1 ⟨rfl, rfl⟩
    go_wp2_with fail
    refine (l02Known_any s _).mono ?_
    rintro e w1 ⟨rfl, rfl⟩
    rw [HK.out]
    go_wp2
    refine bodyPost_ret (v := .tuple #[mom 0 none 0 0, .int .i64 4]) (by simp [results, Try.results48, go_sem, r0, r1]) rfl ?_
    exact ResM.nil HE2.out.1 HE2.out.2 HC.out hb0
  have HK := hide (show decide (mnI s < 5) = true from decide_eq_true hi)
  have HI := hide hi
  by_cases h0 : nlC p (mnI s) N = 0
  · have HC := hide (show nmC s p (N : Int) = 0 by rw [HE.out]; exact h0)
    have HP := hide (show nmP s p (N : Int) = p by unfold nmP; rw [HC.out]; rfl)
    have HCB := hide (show decide (nlC p (mnI s) N = 0) = true from decide_eq_true h0)
    clear hpr hi h0
    go_enter Try.func48, Try.ntmps48
    go_wp2_with fail
    refine (l01Prime_any _ _).mono ?_
    rintro e w1 ⟨rfl, rfl⟩
    rw [Hp.out]
    go_wp2_with fail
    refine (l01In_yes (N : Int) 1 24 _ hn1 hn2).mono ?_
    rintro e w1 ⟨rfl, rfl⟩
    go_wp2_with fail
    refine (l02Known_any s _).mono ?_
    rintro e w1 ⟨rfl, rfl⟩
    rw [HK.out]
    go_wp2_with fail
    refine (l02Named_any s HI.out p N _ hp hp2 (by omega) (by omega)).mono ?_
    rintro e w2 ⟨a2, c2, rfl, ho, t2⟩
    rw [HCB.out]
    have B2 := bnext hb0 t2
    have hlt : w.heap.size < (w.alloc (.cells #[.int .i64 0, .slice none 0 0] 24)).heap.size := by simp
    replace y0 := (t2.frozen (World.block_lt_of_cell? _ _ r0)).trans y0
    replace y1 := (t2.frozen (World.block_lt_of_cell? _ _ r1)).trans y1
    replace r0 := cell_be t2 r0
    replace r1 := cell_be t2 r1
    obtain ⟨V, hV⟩ : ∃ V, nlV p (mnI s) N = V := ⟨_, rfl⟩
    rw [hV] at HVV ho ⊢
    have HVL := hide (show V.length ≤ 24 by rw [← hV]; unfold nlV; split <;> simp [nmL_len] <;> omega)
    clear hV
    go_wp2
    refine bodyPost_ret (v := .tuple #[mom p a2 V.length c2, .int .i64 0]) (by simp [results, Try.results48, go_sem, r0, r1]) rfl ?_
    have oz := (((OZ.of ho rfl).setLow (x := ⟨w.heap.size, 0, none⟩) (by simp) (.int .i64 p)).setLow (x := ⟨w.heap.size, 1, none⟩) (by simp) (.slice a2 V.length c2))
    exact ⟨a2, c2, by rw [HVV.out, HP.out, HC.out], by rw [HVV.out]; simpa using oz.mono (by simp) (Nat.le_refl _), by rw [HVV.out]; have := HVL.out; omega, ((B2.setCell (by simp) _).setCell (by simp) _)⟩
  · have h5 : nlC p (mnI s) N = 5 := by
      have hh : mnI s ≠ 5 := by omega
      revert h0
      unfold nlC
      rw [if_neg hh]
      split <;> simp
    have HC := hide (show nmC s p (N : Int) = 5 by rw [HE.out]; exact h5)
    have HE2 := hide (nm_err HC.out (by decide))
    have HCB := hide (show decide (nlC p (mnI s) N = 0) = false from decide_eq_false h0)
    clear hpr hi h0 h5
    go_enter Try.func48, Try.ntmps48
    go_wp2_with fail
    refine (l01Prime_any _ _).mono ?_
    rintro e w1 ⟨rfl, rfl⟩
    rw [Hp.out]
    go_wp2_with fail
    refine (l01In_yes (N : Int) 1 24 _ hn1 hn2).mono ?_
    rintro e w1 ⟨rfl, rfl⟩
    go_wp2_with fail
    refine (l02Known_any s _).mono ?_
    rintro e w1 ⟨rfl, rfl⟩
    rw [HK.out]
    go_wp2_with fail
    refine (l02Named_any s HI.out p N _ hp hp2 (by omega) (by omega)).mono ?_
    rintro e w2 ⟨a2, c2, rfl, ho, t2⟩
    rw [HCB.out]
    have B2 := bnext hb0 t2
    have hlt : w.heap.size < (w.alloc (.cells #[.int .i64 0, .slice none 0 0] 24)).heap.size := by simp
    replace y0 := (t2.frozen (World.block_lt_of_cell? _ _ r0)).trans y0
    replace y1 := (t2.frozen (World.block_lt_of_cell? _ _ r1)).trans y1
    replace r0 := cell_be t2 r0
    replace r1 := cell_be t2 r1
    obtain ⟨V, hV⟩ : ∃ V, nlV p (mnI s) N = V := ⟨_, rfl⟩
    rw [hV] at HVV ho ⊢
    have HVL := hide (show V.length ≤ 24 by rw [← hV]; unfold nlV; split <;> simp [nmL_len] <;> omega)
    clear hV
    clear ho
    go_wp2
    refine bodyPost_ret (v := .tuple #[mom 0 none 0 0, .int .i64 5]) (by simp [results, Try.results48, go_sem, r0, r1]) rfl ?_
    exact ResM.nil HE2.out.1 HE2.out.2 HC.out ((B2.setCell (by simp) _).setCell (by simp) _)
end Go.Proofs.Ytpoabedlcljibaa
