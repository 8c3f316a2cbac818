/- Contracts: powersOf, MomentsOfNodes (program); rows of slices. -/
import Derived.Test.YtagheoddbikdgaaIq
import Derived.Test.YtagheoddbikdgaaWp
import Derived.Test.YtagheoddbikdgaaRd
namespace Go.Proofs.Ytagheoddbikdgaa
open Go.RowKit
set_option linter.unusedVariables false
set_option linter.unusedSimpArgs false

def pwN (p x : Int) : Nat → Int
  | 0 => 1
  | j + 1 => pwN p x j * x % p
theorem pwN_rng {p : Int} (hp : 2 ≤ p) (x : Int) (j : Nat) : 0 ≤ pwN p x j ∧ pwN p x j < p := by
  cases j with
  | zero => unfold pwN; omega
  | succ j => exact modb hp
def mnS (p : Int) (xs ws : List Int) (k : Nat) : Nat → Int
  | 0 => 0
  | i + 1 => (mnS p xs ws k i + ws.getD i 0 * pwN p (xs.getD i 0) k) % p
def mnM (p : Int) (xs ws : List Int) (n : Nat) : List Int := tab n (fun k => mnS p xs ws k xs.length)
def mnOk (p : Int) (xs ws : List Int) : Bool := primeB p && decide (xs.length ≤ 12) && decide (ws.length = xs.length) && areB p xs && areB p ws && difB xs
def mnC (p : Int) (xs ws : List Int) (n : Int) : Int := if mnOk p xs ws && decide (1 ≤ n ∧ n ≤ 24) then 0 else 2
def mnV (p : Int) (xs ws : List Int) (n : Int) : List Int := if mnC p xs ws n = 0 then mnM p xs ws n.toNat else []
def mnP (p : Int) (xs ws : List Int) (n : Int) : Int := if mnC p xs ws n = 0 then p else 0
theorem funF_mn (p : Int) (xs ws : List Int) (n : Nat) : ∀ i, funF p ws (fun i => tab n (pwN p (xs.getD i 0))) (tab n (fun _ => 0)) i = tab n (fun k => mnS p xs ws k i) := by
  intro i
  induction i with
  | zero => rfl
  | succ i ih =>
    rw [funF, ih]
    unfold addlM
    rw [tab_len]
    apply tab_congr
    intro j hj
    rw [tab_at _ _ _ hj, tab_at _ _ _ hj]
    rfl
/-- A row of slices known whole. -/
def RowV (w : World) (g : Nat) (vs : List Value) : Prop := w.heap[g]? = some (.cells vs.toArray 22 (0, 0))
theorem RowV.lt {w : World} {g : Nat} {vs : List Value} (h : RowV w g vs) : g < w.heap.size := lt_of_block h
theorem RowV.cell {w : World} {g : Nat} {vs : List Value} (h : RowV w g vs) (j : Nat) : w.cell? ⟨g, j, none⟩ = vs[j]? := by
  rw [cell_of_row w g j _ _ (0, 0) h]
  simp
theorem RowV.free {w : World} {g : Nat} {vs : List Value} (h : RowV w g vs) (j : Nat) : w.frozen? ⟨g, j, none⟩ = false := frozen_of_row w g j _ _ h
theorem RowV.set {w : World} {g : Nat} {vs : List Value} (h : RowV w g vs) (j : Nat) (u : Value) : RowV (w.setCell ⟨g, j, none⟩ u) g (vs.set j u) := by
  unfold RowV
  rw [heap_setCell_same w g j _ _ _ h]
  simp
theorem RowV.below {w w' : World} {B g : Nat} {vs : List Value} (h : RowV w g vs) (hb : Below B w w') (hg : g < B) : RowV w' g vs := (hb.block g hg).trans h
theorem RowV.next {w w' : World} {g : Nat} {vs : List Value} (h : RowV w g vs) (hb : Below w.heap.size w w') : RowV w' g vs := h.below hb h.lt
def zrowS (n : Nat) : Array Value := (List.replicate n (Value.slice none 0 0)).toArray
set_option maxRecDepth 100000 in
theorem run_mkS (n : Nat) (hn : n ≤ 4000000) : ∀ W : World, (Instr.makeSlice 62 (.int .i64 (n : Int)) (.int .i64 (n : Int))).run Try.prog W = .ok (.slice (some ⟨W.heap.size, 0, none⟩) n n) (W.alloc (.cells (zrowS n) 22)) := by
  intro W
  obtain ⟨i0, hi, hz0, hz1, hz2⟩ := info_parts infoS
  have hr := run_make (P := Try.prog) W 62 22 i0 (.slice none 0 0) Try.underlying62 hi hz0 .i64 .i64 n n (by omega) (by omega) (by rw [hz2]; omega) (by omega)
  simp only [Int.toNat_natCast] at hr
  rw [hr, hz1, Nat.mul_one]
  congr 2
  have e : madeCells (Value.slice none 0 0).cells n = zrowS n := by
    have : (madeCells (Value.slice none 0 0).cells n).toList = (zrowS n).toList := by
      rw [Value.cells.eq_def]
      simp [toList_madeCells_one, zrowS]
    exact Array.toList_inj.1 this
  rw [e]
theorem zrowS_row (W : World) (n : Nat) : RowV (W.alloc (.cells (zrowS n) 22)) W.heap.size (List.replicate n (Value.slice none 0 0)) := heap_alloc_new W _
def sA (vs : List Value) (i : Nat) : Option Addr := match vs[i]? with | some (.slice a _ _) => a | _ => none
def sC (vs : List Value) (i : Nat) : Nat := match vs[i]? with | some (.slice _ _ c) => c | _ => 0
/-- The rows up to k lie in blocks from B on and read as R. -/
def RowsV (B n : Nat) (w : World) (vs : List Value) (R : Nat → List Int) (k : Nat) : Prop := ∀ i, i < k → vs[i]? = some (.slice (sA vs i) n (sC vs i)) ∧ Own B w (sA vs i) (sC vs i) (R i)
theorem RowsV.below {B n : Nat} {w w' : World} {vs : List Value} {R : Nat → List Int} {k : Nat} (h : RowsV B n w vs R k) (hb : Below w.heap.size w w') : RowsV B n w' vs R k := fun i hi => ⟨(h i hi).1, (h i hi).2.below hb⟩
theorem RowsV.push {B n g : Nat} {w : World} {vs : List Value} {R : Nat → List Int} {k : Nat} (h : RowsV B n w vs R k) (hk : k < vs.length) (hg : g < B) {a : Option Addr} {c : Nat} (ho : Own B w a c (R k)) : RowsV B n (w.setCell ⟨g, k, none⟩ (.slice a n c)) (vs.set k (.slice a n c)) R (k + 1) := by
  intro i hi
  by_cases e : i = k
  · subst e
    have h1 : (vs.set i (.slice a n c))[i]? = some (.slice a n c) := by simp [hk]
    unfold sA sC
    rw [h1]
    exact ⟨rfl, ho.setLow hg _⟩
  · have h1 : (vs.set k (.slice a n c))[i]? = vs[i]? := by rw [List.getElem?_set_ne (fun x => e x.symm)]
    obtain ⟨h2, h3⟩ := h i (by omega)
    unfold sA sC at h2 h3 ⊢
    rw [h1]
    exact ⟨h2, h3.setLow hg _⟩
theorem isMomentCount_any (n : Int) (w : World) :
    Calls Try.prog 93 #[.int .i64 n] w fun e w' => e = .returned (.bool (decide (1 ≤ n ∧ n ≤ 24))) ∧ w = w' := by
  by_cases h1 : 1 ≤ n
  · by_cases h2 : n ≤ 24
    · go_enter Try.func93, Try.ntmps93
      go_wp2
      go_ret
      exact ⟨ret_bool (by simp; omega), rfl⟩
    · go_enter Try.func93, Try.ntmps93
      go_wp2
      go_ret
      exact ⟨ret_bool (by simp; omega), rfl⟩
  · go_enter Try.func93, Try.ntmps93
    go_wp2
    go_ret
    exact ⟨ret_bool (by simp; omega), rfl⟩
set_option maxRecDepth 100000 in
set_option maxHeartbeats 1600000 in
theorem powersOf_any (p x : Int) (n : Nat) (w : World) (hp : 2 ≤ p) (hp2 : p ≤ 10007) (hx0 : 0 ≤ x) (hx1 : x < p) (hn : 1 ≤ n) (hn2 : n ≤ 1000) :
    Calls Try.prog 94 #[.int .i64 p, .int .i64 x, .int .i64 n] w fun e w' => ∃ a' c', e = .returned (.slice a' n c') ∧ Own w.heap.size w' a' c' (tab n (pwN p x)) ∧ Below w.heap.size w w' := by
  have hO0 : Hid (Own w.heap.size (w.alloc (.cells #[.int .i64 1] 2)) (some ⟨w.heap.size, 0, none⟩) 1 (tab 1 (pwN p x))) := hide (litOwn w w.heap.size (Nat.le_refl _) 1)
  have hb0 := bl1 w (.cells #[.int .i64 1] 2)
  go_enter Try.func94, Try.ntmps94
  go_wp2
  go_loopw [7, 8] (fun v i wr => ∃ (k : Nat) (a' : Option Addr) (c' : Nat), 1 ≤ k ∧ k ≤ n ∧ i = .int .i64 k ∧ v = .slice a' k c' ∧ Hid (Own w.heap.size wr a' c' (tab k (pwN p x))) ∧ Below w.heap.size w wr) (fun _ i _ => n - (intOf i).toNat)
  case atStart => exact ⟨1, _, 1, Nat.le_refl _, hn, rfl, rfl, hO0, hb0⟩
  case round =>
    obtain ⟨k, a', c', hk1, hk, rfl, rfl, hO, hBr⟩ := hrel
    clear hO0 hb0
    by_cases hlt : k < n
    · obtain ⟨j, hj⟩ : ∃ j, j = k - 1 := ⟨_, rfl⟩
      have hcl := hO.out.blkG (by rw [tab_len]; omega)
      obtain ⟨g, rfl, hgB, hgs, hgc⟩ := hcl
      have e1 := hO.out.cellG j (by rw [tab_len]; omega)
      rw [tab_at _ _ _ (by omega)] at e1
      have r1 := pwN_rng hp x j
      have hst : Hid (tab (k + 1) (pwN p x) = tab k (pwN p x) ++ [pwN p x j * x % p]) := hide (by
        rw [← tab_snoc k (pwN p x), show k = j + 1 by omega]
        rfl)
      obtain ⟨y, hy⟩ : ∃ y, pwN p x j = y := ⟨_, rfl⟩
      rw [hy] at e1 r1 hst
      obtain ⟨m1, m2⟩ := mulb r1.1 r1.2 hx0 hx1 hp2
      have v1 : IntKind.i64.wrap ((k : Int) - 1) = (k : Int) - 1 := IntWalk.i64_in _ (by omega)
      have v2 : ((k : Int) - 1).toNat = j := by omega
      have v2b : k - 1 = j := by omega
      have v3 : IntKind.i64.wrap (y * x) = y * x := IntWalk.i64_in _ (by omega)
      have v4 : (y * x).tmod p = y * x % p := Int.tmod_eq_emod_of_nonneg (by omega)
      obtain ⟨z, hz⟩ : ∃ z, y * x % p = z := ⟨_, rfl⟩
      rw [hz] at v4 hst
      have hz1 := modb (x := y * x) hp
      rw [hz] at hz1
      obtain ⟨zs, hzs⟩ : ∃ zs, tab k (pwN p x) = zs := ⟨_, rfl⟩
      have hzl := hide (show zs.length = k by rw [← hzs, tab_len])
      rw [hzs] at hO hst
      clear hy hz hzs hj
      have hk0 : (0 : Int) ≤ (k : Int) - 1 := by omega
      have hlt' : (k : Int) < (n : Int) := by omega
      have hbs := hBr.size
      have hOa := hide (hO.out.below (bl1 wr (.cells #[.int .i64 z] 2)))
      clear hO
      go_wp2_with (at_builtin; refine wp_append rfl _ _ rfl w.heap.size _ k _ zs rfl hzl.out.symm hOa.out _ 1 1 [z] rfl (litSL wr z) (by omega) (by simp; omega) ?_; intro ad' cap' w1 hown hb)
      have hown' : Hid (Own w.heap.size w1 ad' cap' (tab (k + 1) (pwN p x))) := hide (by rw [hst.out]; exact hown)
      have hB1 := (hBr.alloc hBr.size (.cells #[.int .i64 z] 2)).trans hb
      have hl2 : Hid ((zs ++ [z]).length = k + 1) := hide (by rw [List.length_append, hzl.out]; rfl)
      clear hown hb hOa v2b v2 v1 hst
      go_wp2
      go_roundw
      case rel => exact ⟨k + 1, ad', cap', by omega, by omega, by go_num, by rw [hzl.out], hown', hB1⟩
      case measure => simp [intOf]; omega
    · have hkn : k = n := by omega
      have Hk := hide hkn
      have hlt' : ¬ (k : Int) < (n : Int) := by omega
      clear hkn
      go_wp2
      refine bodyPost_ret (v := .slice a' k c') (by simp [results, Try.results94]) rfl ?_
      exact ⟨a', c', by rw [Hk.out], by rw [← Hk.out]; exact hO.out, hBr⟩
set_option maxRecDepth 100000 in
set_option maxHeartbeats 3200000 in
theorem implMomentsOfNodes (p : Int) (a1 : Option Addr) (n1 c1 : Nat) (xs : List Int) (a2 : Option Addr) (n2 c2 : Nat) (ys : List Int) (k : Int) (w : World) (h1 : SL w a1 n1 c1 xs) (h2 : SL w a2 n2 c2 ys) (b1 : n1 ≤ 4000000) (b2 : n2 ≤ 4000000) :
    Calls Try.prog 43 #[.int .i64 p, .slice a1 n1 c1, .slice a2 n2 c2, .int .i64 k] w (ResM w (mnP p xs ys k) (mnV p xs ys k) (mnC p xs ys k)) := by
  have hl1 := hide h1.len
  have hl2 := hide h2.len
  have hb0 := bl1 w (.cells #[.int .i64 0, .slice none 0 0] 46)
  replace h1 := h1.below hb0
  replace h2 := h2.below hb0
  cases hP : primeB p
  · have HP := hide hP
    have HC := hide (show mnC p xs ys k = 2 by simp [mnC, mnOk, hP])
    have HV := hide (show mnV p xs ys k = [] by simp [mnV, HC.out])
    have HQ := hide (show mnP p xs ys k = 0 by simp [mnP, HC.out])
    clear hP
    go_enter Try.func43, Try.ntmps43
    go_wp2_with fail
    refine (isPrime_any _ _).mono ?_
    rintro e v1 ⟨rfl, rfl⟩
    rw [HP.out]
    go_wp2
    refine bodyPost_ret (v := .tuple #[mom 0 none 0 0, .int .i64 2]) (by simp [results, Try.results43, go_sem]) rfl ?_
    exact ResM.nil HQ.out HV.out HC.out hb0
  have HP := hide hP
  obtain ⟨hp, hp2⟩ := primeB_lo hP
  by_cases hN : 1 ≤ k ∧ k ≤ 24
  rotate_left
  · have HN := hide (decide_eq_false hN)
    have HC := hide (show mnC p xs ys k = 2 by simp only [mnC, decide_eq_false hN, Bool.and_false]; rfl)
    have HV := hide (show mnV p xs ys k = [] by simp [mnV, HC.out])
    have HQ := hide (show mnP p xs ys k = 0 by simp [mnP, HC.out])
    clear hP hN
    go_enter Try.func43, Try.ntmps43
    go_wp2_with fail
    refine (isPrime_any _ _).mono ?_
    rintro e v1 ⟨rfl, rfl⟩
    rw [HP.out]
    go_wp2_with fail
    refine (isMomentCount_any _ _).mono ?_
    rintro e v2 ⟨rfl, rfl⟩
    rw [HN.out]
    go_wp2
    refine bodyPost_ret (v := .tuple #[mom 0 none 0 0, .int .i64 2]) (by simp [results, Try.results43, go_sem]) rfl ?_
    exact ResM.nil HQ.out HV.out HC.out hb0
  have HN := hide (decide_eq_true hN)
  by_cases q1 : (12 : Int) < (n1 : Int)
  · have c1' : ¬ xs.length ≤ 12 := by rw [hl1.out]; omega
    have HC := hide (show mnC p xs ys k = 2 by simp [mnC, mnOk, c1'])
    have HV := hide (show mnV p xs ys k = [] by simp [mnV, HC.out])
    have HQ := hide (show mnP p xs ys k = 0 by simp [mnP, HC.out])
    clear hP c1' hN
    go_enter Try.func43, Try.ntmps43
    go_wp2_with fail
    refine (isPrime_any _ _).mono ?_
    rintro e v1 ⟨rfl, rfl⟩
    rw [HP.out]
    go_wp2_with fail
    refine (isMomentCount_any _ _).mono ?_
    rintro e v2 ⟨rfl, rfl⟩
    rw [HN.out]
    go_wp2
    refine bodyPost_ret (v := .tuple #[mom 0 none 0 0, .int .i64 2]) (by simp [results, Try.results43, go_sem]) rfl ?_
    exact ResM.nil HQ.out HV.out HC.out hb0
  have c1' : xs.length ≤ 12 := by rw [hl1.out]; omega
  by_cases q2 : n1 = n2
  rotate_left
  · have c2' : ¬ ys.length = xs.length := by rw [hl1.out, hl2.out]; omega
    have ob : ((n1 : Int) != (n2 : Int)) = true := by simp; omega
    have HC := hide (show mnC p xs ys k = 2 by simp [mnC, mnOk, c2'])
    have HV := hide (show mnV p xs ys k = [] by simp [mnV, HC.out])
    have HQ := hide (show mnP p xs ys k = 0 by simp [mnP, HC.out])
    clear hP c1' c2' q2 hN
    go_enter Try.func43, Try.ntmps43
    go_wp2_with fail
    refine (isPrime_any _ _).mono ?_
    rintro e v1 ⟨rfl, rfl⟩
    rw [HP.out]
    go_wp2_with fail
    refine (isMomentCount_any _ _).mono ?_
    rintro e v2 ⟨rfl, rfl⟩
    rw [HN.out]
    go_wp2
    refine bodyPost_ret (v := .tuple #[mom 0 none 0 0, .int .i64 2]) (by simp [results, Try.results43, go_sem]) rfl ?_
    exact ResM.nil HQ.out HV.out HC.out hb0
  subst q2
  have c2' : ys.length = xs.length := by rw [hl1.out, hl2.out]
  cases hX : areB p xs
  · have HX := hide hX
    have HC := hide (show mnC p xs ys k = 2 by simp [mnC, mnOk, hX])
    have HV := hide (show mnV p xs ys k = [] by simp [mnV, HC.out])
    have HQ := hide (show mnP p xs ys k = 0 by simp [mnP, HC.out])
    clear hP c1' c2' hX hN
    go_enter Try.func43, Try.ntmps43
    go_wp2_with fail
    refine (isPrime_any _ _).mono ?_
    rintro e v1 ⟨rfl, rfl⟩
    rw [HP.out]
    go_wp2_with fail
    refine (isMomentCount_any _ _).mono ?_
    rintro e v2 ⟨rfl, rfl⟩
    rw [HN.out]
    go_wp2_with fail
    refine (areNumbers_any _ _ _ _ _ _ h1 b1).mono ?_
    rintro e v3 ⟨rfl, rfl⟩
    rw [HX.out]
    go_wp2
    refine bodyPost_ret (v := .tuple #[mom 0 none 0 0, .int .i64 2]) (by simp [results, Try.results43, go_sem]) rfl ?_
    exact ResM.nil HQ.out HV.out HC.out hb0
  have HX := hide hX
  cases hY : areB p ys
  · have HY := hide hY
    have HC := hide (show mnC p xs ys k = 2 by simp [mnC, mnOk, hY])
    have HV := hide (show mnV p xs ys k = [] by simp [mnV, HC.out])
    have HQ := hide (show mnP p xs ys k = 0 by simp [mnP, HC.out])
    clear hP c1' c2' hX hY hN
    go_enter Try.func43, Try.ntmps43
    go_wp2_with fail
    refine (isPrime_any _ _).mono ?_
    rintro e v1 ⟨rfl, rfl⟩
    rw [HP.out]
    go_wp2_with fail
    refine (isMomentCount_any _ _).mono ?_
    rintro e v2 ⟨rfl, rfl⟩
    rw [HN.out]
    go_wp2_with fail
    refine (areNumbers_any _ _ _ _ _ _ h1 b1).mono ?_
    rintro e v3 ⟨rfl, rfl⟩
    rw [HX.out]
    go_wp2_with fail
    refine (areNumbers_any _ _ _ _ _ _ h2 b2).mono ?_
    rintro e v4 ⟨rfl, rfl⟩
    rw [HY.out]
    go_wp2
    refine bodyPost_ret (v := .tuple #[mom 0 none 0 0, .int .i64 2]) (by simp [results, Try.results43, go_sem]) rfl ?_
    exact ResM.nil HQ.out HV.out HC.out hb0
  have HY := hide hY
  cases hD : difB xs
  · have HD := hide hD
    have HC := hide (show mnC p xs ys k = 2 by simp [mnC, mnOk, hD])
    have HV := hide (show mnV p xs ys k = [] by simp [mnV, HC.out])
    have HQ := hide (show mnP p xs ys k = 0 by simp [mnP, HC.out])
    clear hP c1' c2' hX hY hD hN
    go_enter Try.func43, Try.ntmps43
    go_wp2_with fail
    refine (isPrime_any _ _).mono ?_
    rintro e v1 ⟨rfl, rfl⟩
    rw [HP.out]
    go_wp2_with fail
    refine (isMomentCount_any _ _).mono ?_
    rintro e v2 ⟨rfl, rfl⟩
    rw [HN.out]
    go_wp2_with fail
    refine (areNumbers_any _ _ _ _ _ _ h1 b1).mono ?_
    rintro e v3 ⟨rfl, rfl⟩
    rw [HX.out]
    go_wp2_with fail
    refine (areNumbers_any _ _ _ _ _ _ h2 b2).mono ?_
    rintro e v4 ⟨rfl, rfl⟩
    rw [HY.out]
    go_wp2_with fail
    refine (areDifferent_any _ _ _ xs _ h1 (by omega) (areB_wf hp2 HX.out)).mono ?_
    rintro e w5 ⟨rfl, t5⟩
    rw [HD.out]
    have r0 : w5.cell? ⟨w.heap.size, 0, none⟩ = some (.int .i64 0) := cell_be t5 (by simp [go_sem])
    have yr0 : w5.frozen? ⟨w.heap.size, 0, none⟩ = false := (t5.frozen (by simp)).trans (by simp [go_sem])
    have r1 : w5.cell? ⟨w.heap.size, 1, none⟩ = some (.slice none 0 0) := cell_be t5 (by simp [go_sem])
    have yr1 : w5.frozen? ⟨w.heap.size, 1, none⟩ = false := (t5.frozen (by simp)).trans (by simp [go_sem])
    replace h1 := h1.below t5
    replace h2 := h2.below t5
    have B5 := bnext hb0 t5
    have z5 := B5.size
    try simp only [World.size_alloc] at z5
    go_wp2
    refine bodyPost_ret (v := .tuple #[mom 0 none 0 0, .int .i64 2]) (by simp [results, Try.results43, go_sem, r0, r1]) rfl ?_
    exact ResM.nil HQ.out HV.out HC.out ((B5.setCell (by first | omega | (simp; done) | (simp; omega) | exact Nat.le_refl _) _).setCell (by first | omega | (simp; done) | (simp; omega) | exact Nat.le_refl _) _)
  have HD := hide hD
  obtain ⟨n, rfl⟩ : ∃ n : Nat, k = n := ⟨k.toNat, by omega⟩
  have m1 : 1 ≤ n := by omega
  have m2 : n ≤ 24 := by omega
  have HC := hide (show mnC p xs ys n = 0 by simp only [mnC, mnOk, hP, hX, hY, hD, decide_eq_true hN, decide_eq_true c1', decide_eq_true c2']; rfl)
  have HV := hide (show mnV p xs ys n = mnM p xs ys n by simp [mnV, HC.out])
  have HQ := hide (show mnP p xs ys n = p by simp [mnP, HC.out])
  have hmk := run_mk n (by omega)
  have hmkS := run_mkS n1 (by omega)
  clear hP c1' c2' hX hY hD hN
  go_enter Try.func43, Try.ntmps43
  go_wp2_with fail
  refine (isPrime_any _ _).mono ?_
  rintro e v1 ⟨rfl, rfl⟩
  rw [HP.out]
  go_wp2_with fail
  refine (isMomentCount_any _ _).mono ?_
  rintro e v2 ⟨rfl, rfl⟩
  rw [HN.out]
  go_wp2_with fail
  refine (areNumbers_any _ _ _ _ _ _ h1 b1).mono ?_
  rintro e v3 ⟨rfl, rfl⟩
  rw [HX.out]
  go_wp2_with fail
  refine (areNumbers_any _ _ _ _ _ _ h2 b2).mono ?_
  rintro e v4 ⟨rfl, rfl⟩
  rw [HY.out]
  go_wp2_with fail
  refine (areDifferent_any _ _ _ xs _ h1 (by omega) (areB_wf hp2 HX.out)).mono ?_
  rintro e w5 ⟨rfl, t5⟩
  rw [HD.out]
  have r0 : w5.cell? ⟨w.heap.size, 0, none⟩ = some (.int .i64 0) := cell_be t5 (by simp [go_sem])
  have yr0 : w5.frozen? ⟨w.heap.size, 0, none⟩ = false := (t5.frozen (by simp)).trans (by simp [go_sem])
  have r1 : w5.cell? ⟨w.heap.size, 1, none⟩ = some (.slice none 0 0) := cell_be t5 (by simp [go_sem])
  have yr1 : w5.frozen? ⟨w.heap.size, 1, none⟩ = false := (t5.frozen (by simp)).trans (by simp [go_sem])
  replace h1 := h1.below t5
  replace h2 := h2.below t5
  have B5 := bnext hb0 t5
  have z5 := B5.size
  try simp only [World.size_alloc] at z5
  have hzw := B5.size
  have hbz := bl1 w5 (.cells (zrowS n1) 22)
  have hR0 := hide (zrowS_row w5 n1)
  have hT0 : Hid (RowsV (w5.heap.size + 1) n (w5.alloc (.cells (zrowS n1) 22)) (List.replicate n1 (Value.slice none 0 0)) (fun i => tab n (pwN p (xs.getD i 0))) 0) := hide (fun i hi => by omega)
  have hlr := hide (show (List.replicate n1 (Value.slice none 0 0)).length = n1 by simp)
  go_wp2_with fail
  go_loopw [55] (fun iv wr => ∃ (i : Nat) (vs : List Value), i ≤ n1 ∧ iv = .int .i64 i ∧ Hid (RowV wr w5.heap.size vs) ∧ Hid (vs.length = n1) ∧ Hid (RowsV (w5.heap.size + 1) n wr vs (fun i => tab n (pwN p (xs.getD i 0))) i) ∧ Below w5.heap.size w5 wr) (fun iv _ => n1 - (intOf iv).toNat)
  case atStart => exact ⟨0, _, by omega, rfl, hR0, hlr, hT0, hbz⟩
  case round =>
    obtain ⟨i, vs, hi, rfl, hR, hlv, hT, hbr⟩ := hrel
    clear hR0 hlr hT0 hbz
    have hBw := B5.trans (hbr.mono B5.size)
    have hgl := hR.out.lt
    by_cases hlt : i < n1
    · have s1 := h1.below hbr
      obtain ⟨bb, oo, ha, _, hcell⟩ := s1.at (by omega)
      subst ha
      have e1 := hcell i hlt
      have r1 := getD_rng HX.out hp i
      obtain ⟨x, hx⟩ : ∃ x, xs.getD i 0 = x := ⟨_, rfl⟩
      rw [hx] at e1 r1
      have HXi := hide hx
      clear hx hcell s1
      have hlt' : (i : Int) < (n1 : Int) := by omega
      go_wp2_with fail
      refine (powersOf_any p x n _ hp hp2 r1.1 r1.2 m1 (by omega)).mono ?_
      rintro e wn ⟨a', c', rfl, ho, tn⟩
      have hR2 := hide (hR.out.next tn)
      have ec : wn.cell? ⟨w5.heap.size, i, none⟩ = vs[i]? := hR2.out.cell i
      obtain ⟨v0, hv0⟩ : ∃ v0, vs[i]? = some v0 := ⟨_, List.getElem?_eq_getElem (by rw [hlv.out]; exact hlt)⟩
      rw [hv0] at ec
      have ef := hR2.out.free i
      have hlv2 := hide (show (vs.set i (.slice a' n c')).length = n1 by rw [List.length_set, hlv.out])
      have ho2 : Own (w5.heap.size + 1) wn a' c' (tab n (pwN p (xs.getD i 0))) := by rw [HXi.out]; exact ho.mono (by have := hR.out.lt; omega)
      have hR3 := hide (hR2.out.set i (.slice a' n c'))
      have hT3 := hide (RowsV.push (g := w5.heap.size) (hT.out.below tn) (by rw [hlv.out]; exact hlt) (Nat.lt_succ_self _) ho2)
      have hb3 : Below w5.heap.size w5 (wn.setCell ⟨w5.heap.size, i, none⟩ (.slice a' n c')) := (hbr.trans (tn.mono hbr.size)).setCell (by simp) _
      clear hv0 ho2 ho hR hT hR2
      go_wp2
      go_roundw
      case rel => exact ⟨i + 1, _, by omega, by go_num, hR3, hlv2, hT3, hb3⟩
      case measure => simp [intOf]; omega
    · have hin : i = n1 := by omega
      subst hin
      have hge : ¬ (i : Int) < (i : Int) := by omega
      have s2 := h2.below hbr
      have hbz2 := bl1 wr (.cells (zrow n) 2)
      have hcl : ∀ j, j < i → (wr.alloc (.cells (zrow n) 2)).cell? ⟨w5.heap.size, j, none⟩ = some (.slice (sA vs j) n (sC vs j)) := fun j hj => cell_be hbz2 (by rw [hR.out.cell j]; exact (hT.out j hj).1)
      have hrw : ∀ j, j < i → SL (wr.alloc (.cells (zrow n) 2)) (sA vs j) n (sC vs j) (tab n (pwN p (xs.getD j 0))) := fun j hj => by
        have t := ((hT.out j hj).2.below hbz2).sl
        rwa [tab_len] at t
      have HCL := hide hcl
      have HRW := hide hrw
      clear hcl hrw
      go_wp2_with fail
      refine (functional_lists p _ _ _ ys _ _ _ (sA vs) (sC vs) (fun i => tab n (pwN p (xs.getD i 0))) _ n n (tab n (fun _ => 0)) wr.heap.size _ (s2.below hbz2) HCL.out HRW.out (Nat.le_refl _) (mk_own wr n (by omega)) (by simp) (tab_len _ _) (by omega) (by omega) hp hp2 HY.out (fun j hj => tab_are (fun t ht => pwN_rng hp _ t)) (tab_are (fun t ht => ⟨Int.le_refl _, (show (0 : Int) < p by omega)⟩))).mono ?_
      rintro e wf ⟨a', c', rfl, oF, tF⟩
      have hBf := bnext hBw (bnext hbz2 tF)
      have r0' := cell_be (bnext hbr (bnext hbz2 tF)) r0
      have r1' := cell_be (bnext hbr (bnext hbz2 tF)) r1
      have y0' := ((bnext hbr (bnext hbz2 tF)).frozen (World.block_lt_of_cell? _ _ r0)).trans yr0
      have y1' := ((bnext hbr (bnext hbz2 tF)).frozen (World.block_lt_of_cell? _ _ r1)).trans yr1
      rw [funF_mn p xs ys n] at oF
      have oF2 : Own wr.heap.size wf a' c' (mnM p xs ys n) := by unfold mnM; rw [hl1.out]; exact oF
      have zz := hBw.size
      have hwlt : w.heap.size < wr.heap.size := by have q := t5.size; simp at q; have := hbr.size; omega
      clear HCL HRW oF
      go_wp2
      refine bodyPost_ret (v := .tuple #[mom p a' n c', .int .i64 0]) (by simp [results, Try.results43, go_sem, r0', r1']) rfl ?_
      exact ResM.own HQ.out HC.out (by rw [HV.out]; exact (tab_len _ _).symm) (by rw [HV.out]; exact ((oF2.setLow (by first | omega | (simp; omega)) _).setLow (by first | omega | (simp; omega)) _).mono (by omega)) (by rw [HV.out]; unfold mnM; rw [tab_len]; omega) ((hBf.setCell (by first | omega | (simp; done) | (simp; omega) | exact Nat.le_refl _) _).setCell (by first | omega | (simp; done) | (simp; omega) | exact Nat.le_refl _) _)
end Go.Proofs.Ytagheoddbikdgaa
