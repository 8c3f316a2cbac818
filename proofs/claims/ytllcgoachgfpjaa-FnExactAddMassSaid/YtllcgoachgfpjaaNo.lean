/- Contracts: powersOf, MomentsOfNodes (program); rows of slices. -/
import Derived.Test.YtllcgoachgfpjaaIq
import Derived.Test.YtllcgoachgfpjaaWp
import Derived.Test.YtllcgoachgfpjaaRd
namespace Go.Proofs.Ytllcgoachgfpjaa
open Go.RowKit
set_option linter.unusedVariables false
set_option linter.unusedSimpArgs false

def pwN (p x : Int) : Nat → Int
  | 0 => 1
  | j + 1 => pwN p x j * x % p
theorem pwN_rng {p : Int} (hp : 2 ≤ p) (x : Int) (j : Nat) : 0 ≤ pwN p x j ∧ pwN p x j < p := by
  cases j with
  | zero => unfold pwN; omega
  | succ j => exact modb hp
def mnS (p : Int) (xs ws : List Int) (k : Nat) : Nat → Int
  | 0 => 0
  | i + 1 => (mnS p xs ws k i + ws.getD i 0 * pwN p (xs.getD i 0) k) % p
def mnM (p : Int) (xs ws : List Int) (n : Nat) : List Int := tab n (fun k => mnS p xs ws k xs.length)
def mnOk (p : Int) (xs ws : List Int) : Bool := primeB p && decide (xs.length ≤ 12) && decide (ws.length = xs.length) && areB p xs && areB p ws && difB xs
def mnC (p : Int) (xs ws : List Int) (n : Int) : Int := if mnOk p xs ws && decide (1 ≤ n ∧ n ≤ 24) then 0 else 2
def mnV (p : Int) (xs ws : List Int) (n : Int) : List Int := if mnC p xs ws n = 0 then mnM p xs ws n.toNat else []
def mnP (p : Int) (xs ws : List Int) (n : Int) : Int := if mnC p xs ws n = 0 then p else 0
theorem funF_mn (p : Int) (xs ws : List Int) (n : Nat) : ∀ i, funF p ws (fun i => tab n (pwN p (xs.getD i 0))) (tab n (fun _ => 0)) i = tab n (fun k => mnS p xs ws k i) := by
  intro i
  induction i with
  | zero => rfl
  | succ i ih =>
    rw [funF, ih]
    unfold addlM
    rw [tab_len]
    apply tab_congr
    intro j hj
    rw [tab_at _ _ _ hj, tab_at _ _ _ hj]
    rfl
/-- A row of slices known whole. -/
def RowV (w : World) (g : Nat) (vs : List Value) : Prop := w.heap[g]? = some (.cells vs.toArray 22 (0, 0))
theorem RowV.lt {w : World} {g : Nat} {vs : List Value} (h : RowV w g vs) : g < w.heap.size := lt_of_block h
theorem RowV.cell {w : World} {g : Nat} {vs : List Value} (h : RowV w g vs) (j : Nat) : w.cell? ⟨g, j, none⟩ = vs[j]? := by
  rw [cell_of_row w g j _ _ (0, 0) h]
  simp
theorem RowV.free {w : World} {g : Nat} {vs : List Value} (h : RowV w g vs) (j : Nat) : w.frozen? ⟨g, j, none⟩ = false := frozen_of_row w g j _ _ h
theorem RowV.set {w : World} {g : Nat} {vs : List Value} (h : RowV w g vs) (j : Nat) (u : Value) : RowV (w.setCell ⟨g, j, none⟩ u) g (vs.set j u) := by
  unfold RowV
  rw [heap_setCell_same w g j _ _ _ h]
  simp
theorem RowV.below {w w' : World} {B g : Nat} {vs : List Value} (h : RowV w g vs) (hb : Below B w w') (hg : g < B) : RowV w' g vs := (hb.block g hg).trans h
theorem RowV.next {w w' : World} {g : Nat} {vs : List Value} (h : RowV w g vs) (hb : Below w.heap.size w w') : RowV w' g vs := h.below hb h.lt
def zrowS (n : Nat) : Array Value := (List.replicate n (Value.slice none 0 0)).toArray
set_option maxRecDepth 100000 in
theorem run_mkS (n : Nat) (hn : n ≤ 4000000) : ∀ W : World, (Instr.makeSlice 106 (.int .i64 (n : Int)) (.int .i64 (n : Int))).run Try.prog W = .ok (.slice (some ⟨W.heap.size, 0, none⟩) n n) (W.alloc (.cells (zrowS n) 22)) := by
  intro W
  obtain ⟨i0, hi, hz0, hz1, hz2⟩ := info_parts infoS
  have hr := run_make (P := Try.prog) W 106 22 i0 (.slice none 0 0) Try.underlying106 hi hz0 .i64 .i64 n n (by omega) (by omega) (by rw [hz2]; omega) (by omega)
  simp only [Int.toNat_natCast] at hr
  rw [hr, hz1, Nat.mul_one]
  congr 2
  have e : madeCells (Value.slice none 0 0).cells n = zrowS n := by
    have : (madeCells (Value.slice none 0 0).cells n).toList = (zrowS n).toList := by
      rw [Value.cells.eq_def]
      simp [toList_madeCells_one, zrowS]
    exact Array.toList_inj.1 this
  rw [e]
theorem zrowS_row (W : World) (n : Nat) : RowV (W.alloc (.cells (zrowS n) 22)) W.heap.size (List.replicate n (Value.slice none 0 0)) := heap_alloc_new W _
def sA (vs : List Value) (i : Nat) : Option Addr := match vs[i]? with | some (.slice a _ _) => a | _ => none
def sC (vs : List Value) (i : Nat) : Nat := match vs[i]? with | some (.slice _ _ c) => c | _ => 0
/-- The rows up to k lie in blocks from B on and read as R. -/
def RowsV (B n : Nat) (w : World) (vs : List Value) (R : Nat → List Int) (k : Nat) : Prop := ∀ i, i < k → vs[i]? = some (.slice (sA vs i) n (sC vs i)) ∧ Own B w (sA vs i) (sC vs i) (R i)
theorem RowsV.below {B n : Nat} {w w' : World} {vs : List Value} {R : Nat → List Int} {k : Nat} (h : RowsV B n w vs R k) (hb : Below w.heap.size w w') : RowsV B n w' vs R k := fun i hi => ⟨(h i hi).1, (h i hi).2.below hb⟩
theorem RowsV.push {B n g : Nat} {w : World} {vs : List Value} {R : Nat → List Int} {k : Nat} (h : RowsV B n w vs R k) (hk : k < vs.length) (hg : g < B) {a : Option Addr} {c : Nat} (ho : Own B w a c (R k)) : RowsV B n (w.setCell ⟨g, k, none⟩ (.slice a n c)) (vs.set k (.slice a n c)) R (k + 1) := by
  intro i hi
  by_cases e : i = k
  · subst e
    have h1 : (vs.set i (.slice a n c))[i]? = some (.slice a n c) := by simp [hk]
    unfold sA sC
    rw [h1]
    exact ⟨rfl, ho.setLow hg _⟩
  · have h1 : (vs.set k (.slice a n c))[i]? = vs[i]? := by rw [List.getElem?_set_ne (fun x => e x.symm)]
    obtain ⟨h2, h3⟩ := h i (by omega)
    unfold sA sC at h2 h3 ⊢
    rw [h1]
    exact ⟨h2, h3.setLow hg _⟩
set_option maxRecDepth 100000 in
set_option maxHeartbeats 1600000 in
theorem powersOf_any (p x : Int) (n : Nat) (w : World) (hp : 2 ≤ p) (hp2 : p ≤ 10007) (hx0 : 0 ≤ x) (hx1 : x < p) (hn : 1 ≤ n) (hn2 : n ≤ 1000) :
    Calls Try.prog 68 #[.int .i64 p, .int .i64 x, .int .i64 n] w fun e w' => ∃ a' c', e = .returned (.slice a' n c') ∧ Own w.heap.size w' a' c' (tab n (pwN p x)) ∧ Below w.heap.size w w' := by
  have hO0 : Hid (Own w.heap.size (w.alloc (.cells #[.int .i64 1] 2)) (some ⟨w.heap.size, 0, none⟩) 1 (tab 1 (pwN p x))) := hide (litOwn w w.heap.size (Nat.le_refl _) 1)
  have hb0 := bl1 w (.cells #[.int .i64 1] 2)
  go_enter Try.func68, Try.ntmps68
  go_wp2
  go_loopw [7, 8] (fun v i wr => ∃ (k : Nat) (a' : Option Addr) (c' : Nat), 1 ≤ k ∧ k ≤ n ∧ i = .int .i64 k ∧ v = .slice a' k c' ∧ Hid (Own w.heap.size wr a' c' (tab k (pwN p x))) ∧ Below w.heap.size w wr) (fun _ i _ => n - (intOf i).toNat)
  case atStart => exact ⟨1, _, 1, Nat.le_refl _, hn, rfl, rfl, hO0, hb0⟩
  case round =>
    obtain ⟨k, a', c', hk1, hk, rfl, rfl, hO, hBr⟩ := hrel
    clear hO0 hb0
    by_cases hlt : k < n
    · obtain ⟨j, hj⟩ : ∃ j, j = k - 1 := ⟨_, rfl⟩
      have hcl := hO.out.blkG (by rw [tab_len]; omega)
      obtain ⟨g, rfl, hgB, hgs, hgc⟩ := hcl
      have e1 := hO.out.cellG j (by rw [tab_len]; omega)
      rw [tab_at _ _ _ (by omega)] at e1
      have r1 := pwN_rng hp x j
      have hst : Hid (tab (k + 1) (pwN p x) = tab k (pwN p x) ++ [pwN p x j * x % p]) := hide (by
        rw [← tab_snoc k (pwN p x), show k = j + 1 by omega]
        rfl)
      obtain ⟨y, hy⟩ : ∃ y, pwN p x j = y := ⟨_, rfl⟩
      rw [hy] at e1 r1 hst
      obtain ⟨m1, m2⟩ := mulb r1.1 r1.2 hx0 hx1 hp2
      have v1 : IntKind.i64.wrap ((k : Int) - 1) = (k : Int) - 1 := IntWalk.i64_in _ (by omega)
      have v2 : ((k : Int) - 1).toNat = j := by omega
      have v2b : k - 1 = j := by omega
      have v3 : IntKind.i64.wrap (y * x) = y * x := IntWalk.i64_in _ (by omega)
      have v4 : (y * x).tmod p = y * x % p := Int.tmod_eq_emod_of_nonneg (by omega)
      obtain ⟨z, hz⟩ : ∃ z, y * x % p = z := ⟨_, rfl⟩
      rw [hz] at v4 hst
      have hz1 := modb (x := y * x) hp
      rw [hz] at hz1
      obtain ⟨zs, hzs⟩ : ∃ zs, tab k (pwN p x) = zs := ⟨_, rfl⟩
      have hzl := hide (show zs.length = k by rw [← hzs, tab_len])
      rw [hzs] at hO hst
      clear hy hz hzs hj
      have hk0 : (0 : Int) ≤ (k : Int) - 1 := by omega
      have hlt' : (k : Int) < (n : Int) := by omega
      have hbs := hBr.size
      have hOa := hide (hO.out.below (bl1 wr (.cells #[.int .i64 z] 2)))
      clear hO
      go_wp2_with (at_builtin; refine wp_append rfl _ _ rfl w.heap.size _ k _ zs rfl hzl.out.symm hOa.out _ 1 1 [z] rfl (litSL wr z) (by omega) (by simp; omega) ?_; intro ad' cap' w1 hown hb)
      have hown' : Hid (Own w.heap.size w1 ad' cap' (tab (k + 1) (pwN p x))) := hide (by rw [hst.out]; exact hown)
      have hB1 := (hBr.alloc hBr.size (.cells #[.int .i64 z] 2)).trans hb
      have hl2 : Hid ((zs ++ [z]).length = k + 1) := hide (by rw [List.length_append, hzl.out]; rfl)
      clear hown hb hOa v2b v2 v1 hst
      go_wp2
      go_roundw
      case rel => exact ⟨k + 1, ad', cap', by omega, by omega, by go_num, by rw [hzl.out], hown', hB1⟩
      case measure => simp [intOf]; omega
    · have hkn : k = n := by omega
      have Hk := hide hkn
      have hlt' : ¬ (k : Int) < (n : Int) := by omega
      clear hkn
      go_wp2
      refine bodyPost_ret (v := .slice a' k c') (by simp [results, Try.results68]) rfl ?_
      exact ⟨a', c', by rw [Hk.out], by rw [← Hk.out]; exact hO.out, hBr⟩
end Go.Proofs.Ytllcgoachgfpjaa
