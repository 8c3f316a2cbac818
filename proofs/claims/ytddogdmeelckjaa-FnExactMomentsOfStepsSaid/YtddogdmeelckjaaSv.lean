/- Contract: MomentsOfSteps (program). -/
import Derived.Test.YtddogdmeelckjaaSu
import Derived.Test.YtddogdmeelckjaaPd
namespace Go.Proofs.Ytddogdmeelckjaa
open Go.RowKit Go.Shelf
set_option linter.unusedVariables false
set_option linter.unusedSimpArgs false
attribute [local go_sem] Oper.semAt_some

def vals {p : Int} (pre : List (Nat × NumP p)) : List Int := (pre.map (fun x => x.2.1)).reverse
theorem vals_snoc {p : Int} (pre : List (Nat × NumP p)) (x : Nat × NumP p) : vals (pre ++ [x]) = x.2.1 :: vals pre := by simp [vals]
theorem vals_all {p : Int} (hp : 0 < p) (xs : List Int) (hx : ∀ (j : Nat), xs[j]?.getD 0 % p = xs[j]?.getD 0) : vals (upto (bkF p hp xs) xs.length) = xs := by
  apply List.ext_getElem?
  intro i
  unfold vals upto
  by_cases h : i < xs.length
  · rw [List.getElem?_reverse (by simpa using h)]
    simp only [List.length_map, List.length_range, List.map_map]
    have h2 : xs.length - 1 - i < xs.length := by omega
    rw [List.getElem?_map, List.getElem?_range h2]
    simp only [Option.map_some, Function.comp, bkF, hx]
    rw [show xs.length - 1 - (xs.length - 1 - i) = i by omega]
    simp [h]
  · rw [List.getElem?_eq_none (by simp; omega), List.getElem?_eq_none (by omega)]
/-- What the divisor of the next series must be. -/
def GoodB (p : Int) (n : Nat) (S bl : List Int) : Prop := 1 ≤ bl.length ∧ bl.length ≤ 100 ∧ areB p bl = true ∧ ∀ j, j < n → bl.getD j 0 = (lessX p n S).getD j 0
theorem goodB_next {p : Int} (hp : 2 ≤ p) (n : Nat) (S : List Int) (hn : n ≤ 90) (hS : S.length = n) : GoodB p n S ([1] ++ addM p [] S (p - 1)) := by
  have hu := addM_up (p := p) (f := []) (g := S) (k := p - 1)
  have ha := addM_areB hp (areB_nil p) S (p - 1)
  refine ⟨by simp, by simp at hu ⊢; omega, areB_mk fun j hj => ?_, fun j hj => ?_⟩
  · cases j with
    | zero => simp; omega
    | succ j =>
      have := areB_at ha j (by simp at hj; omega)
      simpa using this
  · cases j with
    | zero => rfl
    | succ j =>
      have e1 : ([1] ++ addM p [] S (p - 1)).getD (j + 1) 0 = cf (addM p [] S (p - 1)) j := by simp [cf]
      have e2 : (lessX p n S).getD (j + 1) 0 = (-(S.getD j 0)) % p := by
        unfold lessX
        rw [List.getD_cons_succ, tab_at _ _ _ (by omega)]
      rw [e1, e2]
      unfold addM
      rw [cf_trim]
      unfold cf
      rw [tab_at _ _ _ (by simp; omega)]
      unfold sumH
      rw [if_pos (by omega)]
      have e3 : ([] : List Int).getD j 0 + (p - 1) * S.getD j 0 = -(S.getD j 0) + p * S.getD j 0 := by
        rw [Int.sub_mul]; simp; omega
      rw [e3, Int.add_mul_emod_self_left]
theorem goodB_first {p : Int} (hp : 2 ≤ p) (n : Nat) : GoodB p n (List.replicate n 0) [1] := by
  refine ⟨by simp, by simp, areB_one hp, fun j hj => ?_⟩
  unfold lessX
  cases j with
  | zero => rfl
  | succ j =>
    rw [List.getD_cons_succ, List.getD_cons_succ, tab_at _ _ _ (by omega)]
    have : (List.replicate n (0 : Int)).getD j 0 = 0 := by simp [show j < n by omega]
    rw [this]
    simp
/-- Between two rounds. -/
def MosI (w : World) (p : Int) (n : Nat) (sv : Value) (pre : List (Nat × NumP p)) (W : World) : Prop :=
  (W.cell? ⟨w.heap.size, 0, none⟩ = some (.int .i64 p) ∧ W.cell? ⟨w.heap.size + 1, 0, none⟩ = some (.int .i64 n) ∧ W.cell? ⟨w.heap.size + 1 + 1 + 1 + 1 + 1 + 1, 0, none⟩ = some sv) ∧
  (W.cell? ⟨w.heap.size + 1 + 1, 0, none⟩ = some (.int .i64 0) ∧ W.cell? ⟨w.heap.size + 1 + 1, 1, none⟩ = some (.slice none 0 0) ∧ W.frozen? ⟨w.heap.size + 1 + 1, 0, none⟩ = false ∧ W.frozen? ⟨w.heap.size + 1 + 1, 1, none⟩ = false) ∧
  (∃ sa sc sl, (W.cell? ⟨w.heap.size + 1 + 1 + 1, 0, none⟩ = some (.slice sa sl.length sc) ∧ W.frozen? ⟨w.heap.size + 1 + 1 + 1, 0, none⟩ = false) ∧ Own w.heap.size W sa sc sl ∧ (pre = [] ∨ sl = mosF p n (vals pre)) ∧ blk sa ≠ some (w.heap.size + 1 + 1 + 1) ∧ blk sa ≠ some (w.heap.size + 1 + 1 + 1 + 1 + 1) ∧ blk sa ≠ some (w.heap.size + 1 + 1)) ∧
  (∃ ba bc bl, (W.cell? ⟨w.heap.size + 1 + 1 + 1 + 1 + 1, 0, none⟩ = some (.slice ba bl.length bc) ∧ W.frozen? ⟨w.heap.size + 1 + 1 + 1 + 1 + 1, 0, none⟩ = false) ∧ Own w.heap.size W ba bc bl ∧ GoodB p n (mosF p n (vals pre)) bl ∧ blk ba ≠ some (w.heap.size + 1 + 1 + 1) ∧ blk ba ≠ some (w.heap.size + 1 + 1 + 1 + 1 + 1)) ∧
  Below w.heap.size w W
theorem MosI.own {w : World} {p : Int} {n : Nat} {sv : Value} (B : Nat) (hB : w.heap.size ≤ B) : OwnFrom B (MosI w p n sv) := by
  rintro pre W W' row ⟨⟨a1, a2, a3⟩, ⟨b1, b2, b3, b4⟩, ⟨sa, sc, sl, ⟨c1, c2⟩, c3, c4, c5, c6, c7⟩, ⟨ba, bc, bl, ⟨d1, d2⟩, d3, d4, d5, d6⟩, hW⟩ hg hr
  have hr' := fun r e => (hr r e).2
  exact ⟨⟨cell_kept a1 hg hr', cell_kept a2 hg hr', cell_kept a3 hg hr'⟩, ⟨cell_kept b1 hg hr', cell_kept b2 hg hr', (frozen_kept b1 hg hr').trans b3, (frozen_kept b2 hg hr').trans b4⟩,
    ⟨sa, sc, sl, ⟨cell_kept c1 hg hr', (frozen_kept c1 hg hr').trans c2⟩, c3.turn hg hr', c4, c5, c6, c7⟩, ⟨ba, bc, bl, ⟨cell_kept d1 hg hr', (frozen_kept d1 hg hr').trans d2⟩, d3.turn hg hr', d4, d5, d6⟩,
    hW.grown hg hW.size (fun k e => Nat.le_trans hB (hr k e).1)⟩
set_option maxRecDepth 100000 in
set_option maxHeartbeats 3200000 in
theorem implMomentsOfSteps_good (p : Int) (b off n1 c : Nat) (xs : List Int) (n : Nat) (w : World) (hs : SL w (some ⟨b, off, none⟩) n1 c xs) (hL : lisB p xs 1 24 = true) (k1 : 1 ≤ n) (k2 : n ≤ 24) (hz : hasB 0 (xs.take (n1 - 1)) = false) :
    Calls Try.prog 26 #[.int .i64 p, .slice (some ⟨b, off, none⟩) n1 c, .int .i64 n] w (ResM w p (mosF p n xs) 0) := by
  have hl := hide hs.len
  obtain ⟨hP, q1, q2, hx⟩ := lisB_rng hL
  rw [hl.out] at q1 q2
  obtain ⟨hp, hp2⟩ := primeB_lo hP
  have HL := hide hL
  have HZ := hide hz
  have HX := hide hx
  have hcap := hs.le
  obtain ⟨b', off', hb', hbw, hcell⟩ := hs.at (by omega)
  simp only [Option.some.injEq, Addr.mk.injEq, and_true] at hb'
  obtain ⟨rfl, rfl⟩ := hb'
  have Hc := hide hcell
  have v0 : IntKind.i64.wrap ((n1 : Int) - 1) = (n1 : Int) - 1 := IntWalk.i64_in _ (by omega)
  have v1 : ((n1 : Int) - 1).toNat = n1 - 1 := by omega
  have g1 : (0 : Int) ≤ (n1 : Int) - 1 := by omega
  have g2 : (n1 : Int) - 1 ≤ (c : Int) := by omega
  clear hL hz hx hP hcell
  refine (callsIn_wide (n := 3)).1 ?_
  refine callsIn_of_wp_marks Try.func26 rfl trivial ?_ rfl
  simp only [Try.ntmps26, List.size_toArray, List.length_cons, List.length_nil, Nat.reduceAdd, Nat.reduceSub, Array.replicate_succ, Array.replicate_zero, List.push_toArray, List.append_toArray, List.nil_append, List.cons_append]
  gi_wp2_with (first
    | (refine ⟨trivial, ?_⟩; gi_at_call 64; refine (callsIn_wide.2 (isListFor_any p _ _ _ xs 1 24 _ (hs.below (bl3 _ _ _ _)) (by omega))).mono ?_; rintro e v1 ⟨rfl, rfl⟩; rw [HL.out])
    | (refine ⟨trivial, ?_⟩; gi_at_call 69; refine (callsIn_wide.2 (contains_any _ _ _ (xs.take (n1 - 1)) 0 _ ((hs.below (bl3 _ _ _ _)).take (by omega)) (by omega))).mono ?_; rintro e v1 ⟨rfl, rfl⟩; rw [HZ.out]))
  refine ⟨trivial, ?_⟩
  refine (callsIn_wide.2 (backward_any _ _ _ _)).mono ?_
  rintro e w' ⟨rfl, rfl⟩
  obtain ⟨W0, hW0⟩ : ∃ W0, W0 = ((((((w.alloc (.cells #[.int .i64 p] 2)).alloc (.cells #[.int .i64 (n : Int)] 2)).alloc (.cells #[.int .i64 0, .slice none 0 0] 34)).alloc (.cells #[.slice none 0 0] 22)).alloc (.cells #[.int .i64 1] 2)).alloc (.cells #[.slice (some ⟨w.heap.size + 1 + 1 + 1 + 1, 0, none⟩) 1 1] 22)).alloc (.cells #[.slice (some ⟨b, off, none⟩) n1 c] 22) := ⟨_, rfl⟩
  have hI0 : MosI w p n (.slice (some ⟨b, off, none⟩) n1 c) [] W0 := by
    have e1 := bl4 w (.cells #[.int .i64 p] 2) (.cells #[.int .i64 (n : Int)] 2) (.cells #[.int .i64 0, .slice none 0 0] 34) (.cells #[.slice none 0 0] 22)
    have hlit : Own w.heap.size W0 (some ⟨w.heap.size + 1 + 1 + 1 + 1, 0, none⟩) 1 [1] := by
      have h := litOwn ((((w.alloc (.cells #[.int .i64 p] 2)).alloc (.cells #[.int .i64 (n : Int)] 2)).alloc (.cells #[.int .i64 0, .slice none 0 0] 34)).alloc (.cells #[.slice none 0 0] 22)) w.heap.size (by simp; omega) 1
      simp only [World.size_alloc] at h
      rw [hW0]
      exact (h.below (bl1 _ _)).below (bl1 _ _)
    have hBW : Below w.heap.size w W0 := by
      rw [hW0]
      exact ((e1.alloc (by simp; omega) _).alloc (by simp; omega) _).alloc (by simp; omega) _
    refine ⟨⟨by rw [hW0]; simp [go_sem], by rw [hW0]; simp [go_sem], by rw [hW0]; simp [go_sem]⟩, ⟨by rw [hW0]; simp [go_sem], by rw [hW0]; simp [go_sem], by rw [hW0]; simp [go_sem], by rw [hW0]; simp [go_sem]⟩, ⟨none, 0, [], ⟨by rw [hW0]; simp [go_sem], by rw [hW0]; simp [go_sem]⟩, Own.nil _ _, .inl rfl, by simp [blk], by simp [blk], by simp [blk]⟩, ⟨_, 1, [1], ⟨by rw [hW0]; simp [go_sem], by rw [hW0]; simp [go_sem]⟩, hlit, goodB_first hp n, by simp [blk], by simp [blk]⟩, hBW⟩
  have hz0 : W0.heap.size = w.heap.size + 7 := by rw [hW0]; simp
  rw [← hW0]
  have hBB := hI0.2.2.2.2
  have hxs : ∀ (j : Nat), xs[j]?.getD 0 % p = xs[j]?.getD 0 := fun j => by
    have := getD_rng HX.out hp j
    rw [List.getD_eq_getElem?_getD] at this
    exact Int.emod_eq_of_lt this.1 this.2
  have hst := back_stops Fence.wide 2 trivial rfl (by omega) (w.heap.size + 1 + 1 + 1 + 1 + 1 + 1) w.heap.size b off c p (by omega) xs hxs (by rw [hl.out]; omega) hbw W0 hBB.size (by rw [hl.out]; exact hI0.1.2.2) (fun j hj => cell_be hBB (by have := Hc.out j (by rw [← hl.out]; exact hj); rwa [List.getD_eq_getElem?_getD] at this))
  have Hst := hide hst
  have HI0 := hide hI0
  clear hst hI0 hW0
  gi_wp2
  refine wpIn_rangeFunc_ownG rfl (by omega) (gf := 117) (lb := #[.pointer (some ⟨w.heap.size + 1 + 1 + 1 + 1 + 1 + 1, 0, none⟩)]) rfl trivial (enters_of Try.func117 (by kernel_rfl) rfl) Hst.out KpB.t (KpB.b hBB.size) (Below.refl _ _) (fun _ => rfl)
    (MosI w p n (.slice (some ⟨b, off, none⟩) n1 c)) (fun _ _ _ => False) (MosI.own _ hBB.size) (fun _ _ _ _ _ hs _ _ => hs) HI0.out _ (by intro l x W K hK; gi_wp2; exact hK) ?body ?done ?stop
  case body =>
    rintro l pre ⟨xi, xv, hx0, hx1⟩ W ⟨⟨a1, a2, a3⟩, ⟨b1, b2, b3, b4⟩, ⟨sa, sc, sl, ⟨c1, c2⟩, c3, c4, c5, c6, c7⟩, ⟨ba, bc, bl, ⟨d1, d2⟩, d3, d4, d5, d6⟩, hW⟩ hpl
    obtain ⟨e1, e2, e3, e4⟩ := d4
    have hz : w.heap.size + 1 + 1 + 1 + 1 + 1 + 1 < W.heap.size := World.block_lt_of_cell? _ _ a3
    have E3 := hide e3
    have hser : Hid (serL p [xv] bl n = mosF p n (xv :: vals pre)) := hide (serL_congr p [xv] bl _ n e4)
    have hxa : Hid (areB p [xv] = true) := hide (by simp [areB, okN]; omega)
    have y1 := cell_al a1 (.cells #[.int .i64 xv] 2)
    have y2 := cell_al a2 (.cells #[.int .i64 xv] 2)
    have y3 := cell_al d1 (.cells #[.int .i64 xv] 2)
    have hb1 := bl1 W (.cells #[.int .i64 xv] 2)
    have Hsn := hide (vals_snoc pre (xi, (⟨xv, hx0, hx1⟩ : NumP p)))
    clear e3 e4 c3 c4 c5 c6 c7 hpl
    gi_wp2_with fail
    refine ⟨trivial, ?_⟩
    refine (CallsIn.inRound l (callsIn_wide.2 (seriesOf_any p _ _ _ [xv] _ _ _ bl n _ (litSL W xv) (d3.below hb1).sl (by omega) (by omega) (by omega) (by omega) hp hp2 hxa.out E3.out))).mono ?_
    rintro e W2 ⟨a', c', rfl, ho, t2⟩
    have hB2 := hb1.trans (t2.mono (by first | omega | (simp; done) | (simp; omega)))
    have hS2 : Hid (Own w.heap.size W2 a' c' (mosF p n (xv :: vals pre))) := hide (by rw [← hser.out]; exact ho.mono (by first | omega | (simp; done) | (simp; omega)))
    have hge2 := own_blk_ge ho
    simp only [World.size_alloc] at hge2
    have hz2 := hB2.size
    have nb1 : blk a' ≠ some (w.heap.size + 1 + 1 + 1) := fun h => by have := hge2 _ h; omega
    have nb2 : blk a' ≠ some (w.heap.size + 1 + 1 + 1 + 1 + 1) := fun h => by have := hge2 _ h; omega
    have N3 := hide (show blk a' ≠ some (w.heap.size + 1 + 1) from fun h => by have := hge2 _ h; omega)
    have N1 := hide nb1
    have N2 := hide nb2
    have c1' := cell_be hB2 c1
    have c2' := (hB2.frozen (p := ⟨w.heap.size + 1 + 1 + 1, 0, none⟩) (by first | omega | (simp; done) | (simp; omega))).trans c2
    have hL2 : Hid ((mosF p n (xv :: vals pre)).length = n) := hide (mosF_len p n _)
    obtain ⟨W3, hW3⟩ : ∃ W3, W3 = W2.setCell ⟨w.heap.size + 1 + 1 + 1, 0, none⟩ (.slice a' n c') := ⟨_, rfl⟩
    have s1 : W3.cell? ⟨w.heap.size, 0, none⟩ = some (.int .i64 p) := by rw [hW3]; exact cell_set2 (cell_be hB2 a1) (by first | omega | (simp; done) | (simp; omega)) _
    have s2 : W3.cell? ⟨w.heap.size + 1 + 1 + 1, 0, none⟩ = some (.slice a' n c') := by rw [hW3]; exact World.cell?_setCell_same _ _ _ c1'
    have s3 : W3.cell? ⟨w.heap.size + 1 + 1 + 1 + 1 + 1, 0, none⟩ = some (.slice ba bl.length bc) := by rw [hW3]; exact cell_set2 (cell_be hB2 d1) (by first | omega | (simp; done) | (simp; omega)) _
    have s4 : W3.frozen? ⟨w.heap.size + 1 + 1 + 1 + 1 + 1, 0, none⟩ = false := by rw [hW3]; simpa using (hB2.frozen (p := ⟨w.heap.size + 1 + 1 + 1 + 1 + 1, 0, none⟩) (by first | omega | (simp; done) | (simp; omega))).trans d2
    have s5 : W3.frozen? ⟨w.heap.size + 1 + 1 + 1, 0, none⟩ = false := by rw [hW3]; simpa using c2'
    have hS3 : Hid (Own w.heap.size W3 a' c' (mosF p n (xv :: vals pre))) := hide (by rw [hW3]; exact hS2.out.otherG N1.out _)
    have hK3 : Hid (KeepsFrom W0.heap.size W W3) := hide (by rw [hW3]; exact (keeps_of_below _ hB2).trans ((KeepsOthers.setCell _ _ _).from _))
    have hz3 : W2.heap.size = W3.heap.size := by rw [hW3]; simp
    have hP3 : Hid (KpB w.heap.size (w.heap.size + 1 + 1 + 1 + 1 + 1 + 1) W W3) := hide (by
      rw [hW3]
      exact ⟨(hB2.mono (Nat.le_of_lt (Nat.lt_of_le_of_lt (by omega) hz))).setCell (by first | omega | (simp; done) | (simp; omega)) _, fun v hv => cell_set2 (cell_be hB2 hv) (by first | omega | (simp; done) | (simp; omega)) _⟩)
    have k2' : W3.cell? ⟨w.heap.size + 1, 0, none⟩ = some (.int .i64 n) := by rw [hW3]; exact cell_set2 (cell_be hB2 a2) (by first | omega | (simp; done) | (simp; omega)) _
    have k3' : W3.cell? ⟨w.heap.size + 1 + 1, 0, none⟩ = some (.int .i64 0) := by rw [hW3]; exact cell_set2 (cell_be hB2 b1) (by first | omega | (simp; done) | (simp; omega)) _
    have k4' : W3.cell? ⟨w.heap.size + 1 + 1, 1, none⟩ = some (.slice none 0 0) := by rw [hW3]; exact cell_set2 (cell_be hB2 b2) (by first | omega | (simp; done) | (simp; omega)) _
    have k5' : W3.frozen? ⟨w.heap.size + 1 + 1, 0, none⟩ = false := by rw [hW3]; simpa using (hB2.frozen (p := ⟨w.heap.size + 1 + 1, 0, none⟩) (by first | omega | (simp; done) | (simp; omega))).trans b3
    have k6' : W3.frozen? ⟨w.heap.size + 1 + 1, 1, none⟩ = false := by rw [hW3]; simpa using (hB2.frozen (p := ⟨w.heap.size + 1 + 1, 1, none⟩) (by first | omega | (simp; done) | (simp; omega))).trans b4
    have hb3 := bl1 W3 (.cells #[.int .i64 1] 2)
    have y4 := cell_al s1 (.cells #[.int .i64 1] 2)
    have y5 := cell_al s2 (.cells #[.int .i64 1] 2)
    have hO1 : Hid (Own W2.heap.size (W3.alloc (.cells #[.int .i64 1] 2)) (some ⟨W2.heap.size, 0, none⟩) 1 [1]) := hide (by rw [hz3]; exact litOwn W3 W3.heap.size (Nat.le_refl _) 1)
    have hp1 : IntKind.i64.wrap (p - 1) = p - 1 := IntWalk.i64_in _ (by omega)
    have hsl3 : Hid (SL (W3.alloc (.cells #[.int .i64 1] 2)) a' n c' (mosF p n (xv :: vals pre))) := hide (by have := (hS3.out.below hb3).sl; rwa [hL2.out] at this)
    have aS := hide (mosF_are hp n (xv :: vals pre))
    have hU := hide (addM_up (p := p) (f := []) (g := mosF p n (xv :: vals pre)) (k := p - 1))
    have hG := hide (goodB_next hp n (mosF p n (xv :: vals pre)) (by omega) hL2.out)
    clear y1 y2 y3 hb1 t2 ho c1 c2 d1 d2 d3 d5 d6 hS2 nb1 nb2 a1 b1 b2 b3 b4 hB2 hser
    have HZ3 := hide hz3
    clear hz3
    subst hW3
    gi_wp2_with fail
    refine ⟨trivial, ?_⟩
    refine (CallsIn.inRound l (callsIn_wide.2 (addMultiple_any p (p - 1) _ _ _ [] _ _ _ (mosF p n (xv :: vals pre)) _ (SL.nil _) hsl3.out (by omega) (by omega) hp hp2 (by omega) (by omega) (areB_nil p) aS.out))).mono ?_
    rintro e W5 ⟨ad, cd, rfl, ho5, t5⟩
    have hB5 := hb3.trans (t5.mono (by first | omega | (simp; done) | (simp; omega)))
    have hO5 := hide (hO1.out.below t5)
    obtain ⟨zs, hzs⟩ : ∃ zs, addM p [] (mosF p n (xv :: vals pre)) (p - 1) = zs := ⟨_, rfl⟩
    have HZS := hide hzs
    have hzl : zs.length ≤ n := by
      have h1 := hU.out
      rw [hzs, hL2.out] at h1
      simpa using h1
    rw [hzs] at ho5 ⊢
    have hz5 := hB5.size
    simp only [World.size_setCell] at hz5
    have hsl5 := hide ho5.sl
    have s3' := cell_be hB5 s3
    have s4' := (hB5.frozen (p := ⟨w.heap.size + 1 + 1 + 1 + 1 + 1, 0, none⟩) (by first | omega | (simp; done) | (simp; omega))).trans s4
    clear ho5 t5 hzs y4 y5 hsl3 hb3 hO1
    gi_wp2_with (gi_at_builtin; refine wpIn_append rfl _ _ rfl W2.heap.size _ 1 _ [1] rfl rfl hO5.out _ _ _ zs rfl hsl5.out (by omega) (by omega) ?_; intro ad' cap' W6 hown hgr hloc; have s3'' := cell_ne hgr s3' (by simp [blk]; omega); have s4'' := frz_ne hgr s3' s4' (by simp [blk]; omega))
    have hB6 := hB5.grown hgr (by first | omega | (simp; done) | (simp; omega)) (fun k e => by simp [blk] at e; simp; omega)
    have hz6 := hB6.size
    have hnb : ∀ q, q < W2.heap.size → blk ad' ≠ some q := fun q hq h => by
      rcases hloc with h' | h'
      · rw [h'] at h; simp [blk] at h; omega
      · rw [h'] at h; simp at h; omega
    try simp only [World.size_setCell] at hz6
    have hHs := Hsn.out
    try simp only at hHs
    refine ⟨(hK3.out.trans (keeps_of_below _ hB6)).trans ((KeepsOthers.setCell _ _ _).from _), hP3.out.t ⟨(hB6.mono (by first | omega | (simp; done) | (simp; omega))).setCell (by first | omega | (simp; done) | (simp; omega)) _, fun v hv => cell_set2 (cell_be hB6 hv) (by first | omega | (simp; done) | (simp; omega)) _⟩, ?_⟩
    refine ⟨⟨cell_set2 (cell_be hB6 s1) (by first | omega | (simp; done) | (simp; omega)) _, cell_set2 (cell_be hB6 k2') (by first | omega | (simp; done) | (simp; omega)) _, cell_set2 (cell_be hB6 (hP3.out.2 _ a3)) (by first | omega | (simp; done) | (simp; omega)) _⟩, ⟨cell_set2 (cell_be hB6 k3') (by first | omega | (simp; done) | (simp; omega)) _, cell_set2 (cell_be hB6 k4') (by first | omega | (simp; done) | (simp; omega)) _, ?_, ?_⟩, ⟨a', c', mosF p n (xv :: vals pre), ⟨?_, ?_⟩, (hS3.out.below hB6).otherG N2.out _, .inr (by rw [hHs]), N1.out, N2.out, N3.out⟩, ⟨ad', cap', [1] ++ zs, ⟨?_, ?_⟩, (hown.mono (by omega)).otherG (hnb _ (by omega)) _, ?_, hnb _ (by omega), hnb _ (by omega)⟩, ?_⟩
    · simpa using (hB6.frozen (p := ⟨w.heap.size + 1 + 1, 0, none⟩) (by first | omega | (simp; done) | (simp; omega))).trans k5'
    · simpa using (hB6.frozen (p := ⟨w.heap.size + 1 + 1, 1, none⟩) (by first | omega | (simp; done) | (simp; omega))).trans k6'
    · rw [hL2.out]; exact cell_set2 (cell_be hB6 s2) (by first | omega | (simp; done) | (simp; omega)) _
    · simpa using (hB6.frozen (p := ⟨w.heap.size + 1 + 1 + 1, 0, none⟩) (by first | omega | (simp; done) | (simp; omega))).trans s5
    · have := World.cell?_setCell_same W6 ⟨w.heap.size + 1 + 1 + 1 + 1 + 1, 0, none⟩ (.slice ad' ([1] ++ zs).length cap') s3''
      simpa using this
    · simpa using s4''
    · have := hG.out
      rw [HZS.out] at this
      rw [hHs]
      exact this
    · exact (((hW.trans (hP3.out.1)).trans (hB6.mono (by first | omega | (simp; done) | (simp; omega)))).setCell (by first | omega | (simp; done) | (simp; omega)) _)
  case done =>
    rintro D ys W hD rfl ⟨⟨a1, a2, a3⟩, ⟨b1, b2, b3, b4⟩, ⟨sa, sc, sl, ⟨c1, c2⟩, c3, c4, c5, c6, c7⟩, _, hW⟩ hK
    have hne : upto (bkF p (by omega) xs) xs.length ≠ [] := fun h => by
      have := congrArg List.length h
      rw [upto_length, hl.out] at this
      simp at this
      omega
    have hsl : Hid (sl = mosF p n xs) := hide (by
      rcases c4 with h | h
      · exact absurd h hne
      · rw [vals_all _ _ hxs] at h; exact h)
    clear c4 hne
    gi_wp2
    obtain ⟨W1, hW1⟩ : ∃ W1, W1 = (W.setCell ⟨w.heap.size + 1 + 1, 0, none⟩ (.int .i64 p)).setCell ⟨w.heap.size + 1 + 1, 1, none⟩ (.slice sa sl.length sc) := ⟨_, rfl⟩
    have hK1 : W1.heap[D]? = some (.deferred (some [])) := by rw [hW1]; exact (KeepsOthers.setCell _ ⟨w.heap.size + 1 + 1, 1, none⟩ _).same D _ ((KeepsOthers.setCell W ⟨w.heap.size + 1 + 1, 0, none⟩ (.int .i64 p)).same D _ hK rfl) rfl
    have t0 : W1.cell? ⟨w.heap.size + 1 + 1, 0, none⟩ = some (.int .i64 p) := by rw [hW1]; exact cell_set2' (World.cell?_setCell_same _ _ _ b1) (by simp) _
    have t1 : W1.cell? ⟨w.heap.size + 1 + 1, 1, none⟩ = some (.slice sa sl.length sc) := by rw [hW1]; exact World.cell?_setCell_same _ _ _ (cell_set2' b2 (by simp) _)
    have hB1 : Below w.heap.size w W1 := by rw [hW1]; exact (hW.setCell (by first | omega | (simp; done) | (simp; omega)) _).setCell (by first | omega | (simp; done) | (simp; omega)) _
    have hO1 : Own w.heap.size W1 sa sc sl := by
      rw [hW1]
      exact (c3.otherG c7 _).otherG c7 _
    rw [← hW1]
    have u0 := cell_kept t0 (grownBy_putObj' W1 D (.deferred none)) (fun r e => by cases e; exact ⟨_, hK1, rfl⟩)
    have u1 := cell_kept t1 (grownBy_putObj' W1 D (.deferred none)) (fun r e => by cases e; exact ⟨_, hK1, rfl⟩)
    have hO2 := hO1.turn (grownBy_putObj' W1 D (.deferred none)) (fun r e => by cases e; exact ⟨_, hK1, rfl⟩)
    have hB2 := hB1.trans (belowK_b (w := w) (Nat.le_refl _) W1 D _ (.deferred none) (by omega) hK1 rfl rfl)
    refine ⟨by simp, .inl ⟨_, _, rfl, run_takeDeferred hK1, ?_⟩⟩
    refine ⟨.tuple #[mom p sa sl.length sc, .int .i64 0], ?_, ?_⟩
    · simp [results, Try.results26, go_sem, u0, u1]
    · rw [hsl.out] at hO2 ⊢
      exact ResM.own rfl rfl rfl hO2 (by rw [mosF_len]; omega) hB2
  case stop =>
    rintro D c' pre W _ _ h _
    exact h.elim
set_option maxRecDepth 100000 in
set_option maxHeartbeats 3200000 in
theorem implMomentsOfSteps (p : Int) (a : Option Addr) (n1 c : Nat) (xs : List Int) (k : Int) (w : World) (hs : SL w a n1 c xs) (hn1 : n1 ≤ 4000000) :
    Calls Try.prog 26 #[.int .i64 p, .slice a n1 c, .int .i64 k] w (ResM w (mosP p xs k) (mosV p xs k) (mosC p xs k)) := by
  have hl := hide hs.len
  have hb0 := bl3 w (.cells #[.int .i64 p] 2) (.cells #[.int .i64 k] 2) (.cells #[.int .i64 0, .slice none 0 0] 34)
  cases hL : lisB p xs 1 24
  · have HL := hide hL
    have HC := hide (show mosC p xs k = 2 by simp [mosC, hL])
    have HV := hide (show mosV p xs k = [] by simp [mosV, HC.out])
    have HQ := hide (show mosP p xs k = 0 by simp [mosP, HC.out])
    clear hL
    go_enter Try.func26, Try.ntmps26
    go_wp2_with fail
    refine (isListFor_any p _ _ _ xs 1 24 _ (hs.below hb0) hn1).mono ?_
    rintro e v1 ⟨rfl, rfl⟩
    rw [HL.out]
    go_wp2
    refine bodyPost_ret (v := .tuple #[mom 0 none 0 0, .int .i64 2]) (by simp [results, Try.results26, go_sem]) rfl ?_
    exact ResM.nil HQ.out HV.out HC.out hb0
  have HL := hide hL
  obtain ⟨hP, q1, q2, _⟩ := lisB_rng hL
  rw [hl.out] at q1 q2
  by_cases hk0 : k < 1
  · have hN : ¬ (1 ≤ k ∧ k ≤ 24) := by omega
    have HC := hide (show mosC p xs k = 2 by simp only [mosC, hN, and_false, if_false])
    have HV := hide (show mosV p xs k = [] by simp [mosV, HC.out])
    have HQ := hide (show mosP p xs k = 0 by simp [mosP, HC.out])
    clear hL hP hN
    go_enter Try.func26, Try.ntmps26
    go_wp2_with fail
    refine (isListFor_any p _ _ _ xs 1 24 _ (hs.below hb0) hn1).mono ?_
    rintro e v1 ⟨rfl, rfl⟩
    rw [HL.out]
    go_wp2
    refine bodyPost_ret (v := .tuple #[mom 0 none 0 0, .int .i64 2]) (by simp [results, Try.results26, go_sem]) rfl ?_
    exact ResM.nil HQ.out HV.out HC.out hb0
  by_cases hk1 : 24 < k
  · have hN : ¬ (1 ≤ k ∧ k ≤ 24) := by omega
    have HC := hide (show mosC p xs k = 2 by simp only [mosC, hN, and_false, if_false])
    have HV := hide (show mosV p xs k = [] by simp [mosV, HC.out])
    have HQ := hide (show mosP p xs k = 0 by simp [mosP, HC.out])
    clear hL hP hN
    go_enter Try.func26, Try.ntmps26
    go_wp2_with fail
    refine (isListFor_any p _ _ _ xs 1 24 _ (hs.below hb0) hn1).mono ?_
    rintro e v1 ⟨rfl, rfl⟩
    rw [HL.out]
    go_wp2
    refine bodyPost_ret (v := .tuple #[mom 0 none 0 0, .int .i64 2]) (by simp [results, Try.results26, go_sem]) rfl ?_
    exact ResM.nil HQ.out HV.out HC.out hb0
  obtain ⟨n, rfl⟩ : ∃ n : Nat, k = n := ⟨k.toNat, by omega⟩
  obtain ⟨b, off, rfl, _, _⟩ := hs.at (by omega)
  have hN : 1 ≤ (n : Int) ∧ (n : Int) ≤ 24 := by omega
  cases hz : hasB 0 (xs.take (n1 - 1))
  · have hC : mosC p xs n = 0 := by
      simp only [mosC, hL, hN, hl.out, hz, if_true, and_self]
      rfl
    have h := implMomentsOfSteps_good p b off n1 c xs n w hs hL (by omega) (by omega) hz
    have hV : mosV p xs n = mosF p n xs := by simp [mosV, hC]
    have hQ : mosP p xs n = p := by simp [mosP, hC]
    rw [hV, hQ, hC]
    exact h
  · have HZ := hide hz
    have HC := hide (show mosC p xs n = 5 by simp only [mosC, hL, hN, hl.out, hz, if_true, and_self])
    have HV := hide (show mosV p xs n = [] by simp [mosV, HC.out])
    have HQ := hide (show mosP p xs n = 0 by simp [mosP, HC.out])
    have hcap := hs.le
    have v0 : IntKind.i64.wrap ((n1 : Int) - 1) = (n1 : Int) - 1 := IntWalk.i64_in _ (by omega)
    have v1 : ((n1 : Int) - 1).toNat = n1 - 1 := by omega
    have g1 : (0 : Int) ≤ (n1 : Int) - 1 := by omega
    have g2 : (n1 : Int) - 1 ≤ (c : Int) := by omega
    clear hL hP hz hN
    go_enter Try.func26, Try.ntmps26
    go_wp2_with fail
    refine (isListFor_any p _ _ _ xs 1 24 _ (hs.below hb0) hn1).mono ?_
    rintro e v1 ⟨rfl, rfl⟩
    rw [HL.out]
    go_wp2_with fail
    refine (contains_any _ _ _ (xs.take (n1 - 1)) 0 _ ((hs.below hb0).take (by omega)) (by omega)).mono ?_
    rintro e v2 ⟨rfl, rfl⟩
    rw [HZ.out]
    go_wp2
    refine bodyPost_ret (v := .tuple #[mom 0 none 0 0, .int .i64 5]) (by simp [results, Try.results26, go_sem]) rfl ?_
    exact ResM.nil HQ.out HV.out HC.out hb0
end Go.Proofs.Ytddogdmeelckjaa
