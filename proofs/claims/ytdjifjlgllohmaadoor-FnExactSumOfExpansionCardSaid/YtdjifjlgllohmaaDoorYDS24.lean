/- Merged texts. -/
import Derived.Test.YtdjifjlgllohmaaDoorYDS23
import Derived.BigRegion
/- Contracts: determinant, hankel (program). -/
namespace Go.Proofs.YtdjifjlgllohmaaDoor
open Go.RowKit
set_option linter.unusedVariables false
set_option linter.unusedSimpArgs false

theorem swapR_are {p : Int} (n : Nat) (X : Nat → List Int) (a b : Nat) (ha : a < n) (hb : b < n) (h : ∀ i, i < n → areB p (X i) = true) (i : Nat) (hi : i < n) : areB p (swapR X a b i) = true := by
  unfold swapR
  split
  · exact h b hb
  · split
    · exact h a ha
    · exact h i hi
theorem swapR_self (X : Nat → List Int) (a : Nat) : swapR X a a = X := by
  funext i
  unfold swapR
  split
  · rename_i e; rw [e]
  · rfl
theorem RowsX.swap {B g n cap m : Nat} {w : World} {vs : List Value} {X : Nat → List Int} (h : RowsX B g n cap w vs X m) (k i : Nat) (hk : k < m) (hi : i < m) {ak ai : Option Addr} {ck ci : Nat} (hne : i ≠ k)
    (sk : SL w ak n ck (X k)) (si : SL w ai n ci (X i)) (gk : blk ak ≠ some g) (gi : blk ai ≠ some g) :
    RowsX B g n cap ((w.setCell ⟨g, k, none⟩ (.slice ai n ci)).setCell ⟨g, i, none⟩ (.slice ak n ck)) ((vs.set k (.slice ai n ci)).set i (.slice ak n ck)) (swapR X k i) m := by
  have h1 := h.put (Y := fun j => if j = k then X i else X j) k hk (by simpa using si) gi (fun j _ hj => if_neg hj)
  refine h1.put i hi ?_ gk (fun j _ hj => ?_)
  · unfold swapR
    rw [if_neg hne, if_pos rfl]
    exact sk.otherG gk _
  · unfold swapR
    by_cases e : j = k
    · rw [if_pos e, if_pos e]
    · rw [if_neg e, if_neg hj, if_neg e]
set_option maxRecDepth 100000 in
set_option maxHeartbeats 3200000 in
theorem determinant_any (p : Int) (g0 n cap0 : Nat) (X : Nat → List Int) (w : World) (hc : ∀ i, i < n → ∃ a c, w.cell? ⟨g0, i, none⟩ = some (.slice a n c) ∧ SL w a n c (X i)) (hn1 : 1 ≤ n) (hn : n ≤ 1000) (hp : 2 ≤ p) (hp2 : p ≤ 10007) (hX : ∀ i, i < n → areB p (X i) = true) :
    Calls Tryd.prog 110 #[.int .i64 p, .slice (some ⟨g0, 0, none⟩) n cap0] w
      fun e w' => e = .returned (.int .i64 (detM p n X)) ∧ Below w.heap.size w w' := by
  go_enter Tryd.func110, Tryd.ntmps110
  go_wp2_with fail
  refine (cloneV_any g0 n n cap0 X _ hc hn hn1).mono ?_
  rintro e w1 ⟨ad, cap, vs, rfl, hO, hl, hrow, t1⟩
  obtain ⟨g, rfl, _⟩ := OwnV.at hO (by omega)
  have hg := hO.lt (by omega)
  have hle : n ≤ cap := by
    rcases hO.2 with ⟨h1, _⟩ | ⟨g', c', cur, h1, h2, h3, h4, h5, h6, h7⟩
    · cases h1
    · simp only [Value.slice.injEq] at h1
      omega
  have hR0 : Hid (RowsX w.heap.size g n cap w1 vs X n) := hide ⟨hO, hl, hle, fun i hi => by
    obtain ⟨a, c, h1, h2, h3⟩ := hrow i hi
    exact ⟨a, c, h1, h2, fun e => by have := h3 g e; omega⟩⟩
  have hA0 : Hid (∀ i, i < n → areB p (X i) = true) := hide hX
  have hD0 : Hid (detL p n n 0 X 1 = detM p n X) := hide rfl
  have hz1 := t1.size
  clear hO hl hrow hc hX
  go_wp2_with fail
  go_loopw [6, 13] (fun rv iv wr => ∃ (k : Nat) (us : List Value) (Y : Nat → List Int) (r : Int), k ≤ n ∧ iv = .int .i64 k ∧ rv = .int .i64 r ∧ 0 ≤ r ∧ r < p ∧ Hid (RowsX w.heap.size g n cap wr us Y n) ∧ Hid (∀ i, i < n → areB p (Y i) = true) ∧ Hid (detL p n (n - k) k Y r = detM p n X) ∧ Hid (Below w.heap.size w wr)) (fun _ iv _ => n - (intOf iv).toNat)
  case atStart => exact ⟨0, vs, X, 1, by omega, rfl, rfl, by omega, by omega, hR0, hA0, hD0, hide t1⟩
  case round =>
    obtain ⟨k, us, Y, r, hk, rfl, rfl, r0, r1, hR, hA, hD, hB⟩ := hrel
    clear hR0 hA0 hD0
    have hzr := hB.out.size
    by_cases hlt : k < n
    · have hlt' : (k : Int) < (n : Int) := by omega
      have hkc : (k : Int) ≤ (cap : Int) := by omega
      have hk0 : (0 : Int) ≤ (k : Int) := by omega
      have hkle : (k : Int) ≤ (n : Int) := by omega
      have hkne : ¬ k = cap := by omega
      have hbk := bl1 wr (.cells #[.int .i64 k] 3)
      obtain ⟨wk, hwk⟩ : ∃ wk, wk = wr.alloc (.cells #[.int .i64 k] 3) := ⟨_, rfl⟩
      obtain ⟨kb, hkb⟩ : ∃ kb, kb = wr.heap.size := ⟨_, rfl⟩
      have hR2 := hide (hR.out.below hbk)
      have hB2 := hide (hB.out.trans (hbk.mono hzr))
      have ck : wk.cell? ⟨kb, 0, none⟩ = some (.int .i64 k) := by rw [hwk, hkb]; simp [go_sem]
      have hgk : g < kb := by rw [hkb]; exact (hR.out.own.lt (by rw [hR.out.len]; omega)).2
      have hkz : kb < wk.heap.size := by rw [hwk, hkb]; simp
      rw [← hwk] at hR2 hB2
      have hgw : w.heap.size ≤ g := hg.1
      clear hR hB hbk
      go_upto_region 6 with fail
      rw [← hwk, ← hkb]
      clear hwk hkb
      go_wp2_with fail
      refine (indexFunc_any w.heap.size g n cap us Y k kb _ hR2.out ck hlt hn).mono ?_
      rintro e wv ⟨rr, rfl, hcase, rfl⟩
      rcases hcase with ⟨hpv, rfl⟩ | ⟨j, hpv, rfl, hjn⟩
      · have hdet : Hid (detM p n X = 0) := hide (by
          rw [← hD.out, show n - k = (n - k - 1) + 1 by omega, detL, if_pos (by rw [hpv])])
        go_wp2
        go_ret
        exact ⟨ret_int hdet.out.symm, hB2.out⟩
      · have hpos : 0 ≤ (j : Int) := by omega
        have hkj : k + j < n := hjn
        have hstep : Hid (detL p n (n - k - 1) (k + 1) (stepR p n k n (swapR Y k (k + j))) (sgn p r (k + j) k * (swapR Y k (k + j) k).getD k 0 % p) = detM p n X) := hide (by
          have t := hD.out
          rw [show n - k = (n - k - 1) + 1 by omega, detL, hpv, if_neg (by omega)] at t
          exact t)
        clear hpv hD
        by_cases hj0 : j = 0
        · subst hj0
          have hRS := hR2
          have hAS := hA
          have hBS := hB2
          have e0 : ((0 : Nat) : Int) = 0 := rfl
          simp only [Nat.add_zero, swapR_self] at hstep
          clear hR2 hA hB2 e0
          obtain ⟨ap, cp, d1, sp, gp, fp⟩ := hRS.out.get k hlt
          obtain ⟨bp, op, rfl, _, hcp⟩ := sp.at (by omega)
          have d2 := hcp k hlt
          have rx := getD_rng (hAS.out k hlt) hp k
          obtain ⟨x, hx⟩ : ∃ x, (Y k).getD k 0 = x := ⟨_, rfl⟩
          rw [hx] at d2 rx hstep
          have m1 : 0 ≤ r * x := Int.mul_nonneg (by omega) rx.1
          have m2 : r * x ≤ 10007 * 10007 := Int.mul_le_mul (by omega) (by omega) rx.1 (by omega)
          have v1 : IntKind.i64.wrap (r * x) = r * x := IntWalk.i64_in _ (by omega)
          have v2 : (r * x).tmod p = r * x % p := Int.tmod_eq_emod_of_nonneg m1
          have rr := modb (x := r * x) hp
          have hnx : r * x % p = sgn p r k k * x % p := by
            unfold sgn
            rw [if_pos rfl]
          obtain ⟨r', hr'⟩ : ∃ r', r * x % p = r' := ⟨_, rfl⟩
          rw [← hnx] at hstep
          rw [hr'] at v2 rr hstep
          have v3 : IntKind.i64.wrap r' = r' := IntWalk.i64_in _ (by omega)
          have hp0 : ¬ p = 0 := by omega
          have vk1 : IntKind.i64.wrap ((k : Int) + 1) = (k : Int) + 1 := IntWalk.i64_in _ (by omega)
          clear hx hcp sp gp fp m1 m2 hnx hr'
          go_wp2
          go_quiet (fail)
          clear v1 v2 v3
          have hbq := below_drewN (Below.refl wk.heap.size wk)
          go_wp2_with fail
          refine (eliminate_any p w.heap.size g n cap k _ Y _ (hRS.out.below (hbq _)) hlt hn hp hp2 hAS.out).mono ?_
          rintro e w5 ⟨rfl, ⟨us5, hR5⟩, hT5⟩
          have hR6 := hide hR5
          have hA6 : Hid (∀ i, i < n → areB p (stepR p n k n Y i) = true) := hide (fun i hi => stepR_are hp n k n _ n hAS.out i hi)
          have hB6 : Hid (Below w.heap.size w w5) := hide (below_touch (below_drewN hBS.out _) hT5 hgw (by have := hBS.out.size; simpa using this))
          have hD6 : Hid (detL p n (n - (k + 1)) (k + 1) (stepR p n k n Y) r' = detM p n X) := hide (by have t := hstep.out; rwa [show n - k - 1 = n - (k + 1) by omega] at t)
          clear hR5 hT5 hRS hAS hBS hstep
          go_wp2
          go_roundw
          case rel => exact ⟨k + 1, us5, _, r', by omega, by go_num, rfl, rr.1, rr.2, hR6, hA6, hD6, hB6⟩
          case measure => simp [intOf]; omega
        · have hjp : (0 : Int) < (j : Int) := by omega
          obtain ⟨ak, ak2, c1, s1, g1, f1⟩ := hR2.out.get k hlt
          obtain ⟨ai, ai2, c2, s2, g2, f2⟩ := hR2.out.get (k + j) hkj
          have vkj : IntKind.i64.wrap ((k : Int) + (j : Int)) = (k : Int) + (j : Int) := IntWalk.i64_in _ (by omega)
          have vkt : ((k : Int) + (j : Int)).toNat = k + j := by omega
          have hkjn : (k : Int) + (j : Int) < (n : Int) := by omega
          have hkj0 : (0 : Int) ≤ (k : Int) + (j : Int) := by omega
          have q6 : k + j ≠ k := by omega
          have q7 : k ≠ k + j := by omega
          have q8 : g ≠ kb := by omega
          have q9 : kb ≠ g := by omega
          go_upto_region 10 with fail
          go_region
          obtain ⟨ws, hws⟩ : ∃ ws, ws = ((wk.setCell ⟨g, k, none⟩ (.slice ai n ai2)).setCell ⟨g, k + j, none⟩ (.slice ak n ak2)).drew := ⟨_, rfl⟩
          rw [← hws]
          have ckS : ws.cell? ⟨kb, 0, none⟩ = some (.int .i64 k) := by rw [hws]; exact cell_set2 (cell_set2 ck (by simp; omega) _) (by simp; omega) _
          have hRS : Hid (RowsX w.heap.size g n cap ws ((us.set k (.slice ai n ai2)).set (k + j) (.slice ak n ak2)) (swapR Y k (k + j)) n) := hide (by rw [hws]; exact (hR2.out.swap k (k + j) hlt hkj q6 s1 s2 g1 g2).below ((Below.refl _ _).drew))
          have hBS : Hid (Below w.heap.size w ws) := hide (by rw [hws]; exact ((hB2.out.setCell (by simp; omega) _).setCell (by simp; omega) _).drew)
          have hAS : Hid (∀ i, i < n → areB p (swapR Y k (k + j) i) = true) := hide (fun i hi => swapR_are n Y k (k + j) hlt hkj hA.out i hi)
          clear hws hR2 hA hB2 ck c1 c2 s1 s2 g1 g2 f1 f2 vkj vkt
          obtain ⟨ap, cp, d1, sp, gp, fp⟩ := hRS.out.get k hlt
          obtain ⟨bp, op, rfl, _, hcp⟩ := sp.at (by omega)
          have d2 := hcp k hlt
          have rx := getD_rng (hAS.out k hlt) hp k
          obtain ⟨x, hx⟩ : ∃ x, ((swapR Y k (k + j)) k).getD k 0 = x := ⟨_, rfl⟩
          rw [hx] at d2 rx hstep
          have m1 : 0 ≤ (p - r) * x := Int.mul_nonneg (by omega) rx.1
          have m2 : (p - r) * x ≤ 10007 * 10007 := Int.mul_le_mul (by omega) (by omega) rx.1 (by omega)
          have v1 : IntKind.i64.wrap ((p - r) * x) = (p - r) * x := IntWalk.i64_in _ (by omega)
          have v2 : ((p - r) * x).tmod p = (p - r) * x % p := Int.tmod_eq_emod_of_nonneg m1
          have rr := modb (x := (p - r) * x) hp
          have hnx : (p - r) * x % p = sgn p r (k + j) k * x % p := by
            unfold sgn
            rw [if_neg q6]; exact neg_eq p r x
          obtain ⟨r', hr'⟩ : ∃ r', (p - r) * x % p = r' := ⟨_, rfl⟩
          rw [← hnx] at hstep
          rw [hr'] at v2 rr hstep
          have v3 : IntKind.i64.wrap r' = r' := IntWalk.i64_in _ (by omega)
          have v0 : IntKind.i64.wrap (p - r) = p - r := IntWalk.i64_in _ (by omega)
          have hp0 : ¬ p = 0 := by omega
          have vk1 : IntKind.i64.wrap ((k : Int) + 1) = (k : Int) + 1 := IntWalk.i64_in _ (by omega)
          clear hx hcp sp gp fp m1 m2 hnx hr'
          go_wp2
          go_quiet (fail)
          clear v1 v2 v3 v0
          have hbq := below_drewN (Below.refl ws.heap.size ws)
          go_wp2_with fail
          refine (eliminate_any p w.heap.size g n cap k _ (swapR Y k (k + j)) _ (hRS.out.below (hbq _)) hlt hn hp hp2 hAS.out).mono ?_
          rintro e w5 ⟨rfl, ⟨us5, hR5⟩, hT5⟩
          have hR6 := hide hR5
          have hA6 : Hid (∀ i, i < n → areB p (stepR p n k n (swapR Y k (k + j)) i) = true) := hide (fun i hi => stepR_are hp n k n _ n hAS.out i hi)
          have hB6 : Hid (Below w.heap.size w w5) := hide (below_touch (below_drewN hBS.out _) hT5 hgw (by have := hBS.out.size; simpa using this))
          have hD6 : Hid (detL p n (n - (k + 1)) (k + 1) (stepR p n k n (swapR Y k (k + j))) r' = detM p n X) := hide (by have t := hstep.out; rwa [show n - k - 1 = n - (k + 1) by omega] at t)
          clear hR5 hT5 hRS hAS hBS hstep
          go_wp2
          go_roundw
          case rel => exact ⟨k + 1, us5, _, r', by omega, by go_num, rfl, rr.1, rr.2, hR6, hA6, hD6, hB6⟩
          case measure => simp [intOf]; omega
    · have hkn : k = n := by omega
      have hge : ¬ (k : Int) < (n : Int) := by omega
      have hd : Hid (r = detM p n X) := hide (by have := hD.out; rw [hkn, Nat.sub_self] at this; exact this)
      clear hkn
      go_wp2
      go_ret
      exact ⟨ret_int hd.out, hB.out⟩
end Go.Proofs.YtdjifjlgllohmaaDoor
/- Contracts: hankel, greatestHankel, HankelDeterminant, OrderOf (program). -/
namespace Go.Proofs.YtdjifjlgllohmaaDoor
open Go.RowKit
set_option linter.unusedVariables false
set_option linter.unusedSimpArgs false

def winR (xs : List Int) (k : Nat) : Nat → List Int := fun i => (xs.drop i).take k
/-- The Hankel determinant of k rows. -/
def hkM (p : Int) (xs : List Int) (k : Nat) : Int := detM p k (winR xs k)
theorem hkM_zero (p : Int) (xs : List Int) : hkM p xs 0 = 1 := rfl
theorem areB_winR {p : Int} {xs : List Int} (h : areB p xs = true) (hp : 2 ≤ p) (k i : Nat) : areB p (winR xs k i) = true := areB_mk fun j hj => by
  unfold winR at hj ⊢
  have e : ((xs.drop i).take k).getD j 0 = xs.getD (i + j) 0 := by
    simp at hj
    have hij : i + j < xs.length := by omega
    simp [List.getElem?_take, hj, hij]
  rw [e]
  exact getD_rng h hp _
theorem hkM_rng {p : Int} (hp : 2 ≤ p) (xs : List Int) (k : Nat) : 0 ≤ hkM p xs k ∧ hkM p xs k < p := detL_rng hp _ _ _ _ (by omega) (by omega)
theorem OwnV.le {B c : Nat} {a : Option Addr} {w : World} {vs : List Value} (h : OwnV B w a c vs) (h0 : vs.length ≠ 0) : vs.length ≤ c := by
  rcases h.2 with ⟨_, h2⟩ | ⟨g', c', cur, h1, h2, h3, h4, _⟩
  · exact absurd h2 h0
  · simp only [Value.slice.injEq] at h1
    omega
set_option maxRecDepth 100000 in
set_option maxHeartbeats 1600000 in
theorem windows_cap (b off N c n : Nat) (xs : List Int) (w : World) (h1 : SL w (some ⟨b, off, none⟩) N c xs) (hn : 1 ≤ n) (hnN : n ≤ N) (hN : N ≤ 1000) :
    Calls Tryd.prog 111 #[.slice (some ⟨b, off, none⟩) N c, .int .i64 n] w fun e w' => ∃ g cap, e = .returned (.slice (some ⟨g, 0, none⟩) (N - n + 1) cap) ∧ (∀ i, i < N - n + 1 → w'.cell? ⟨g, i, none⟩ = some (.slice (some ⟨b, off + i, none⟩) n n)) ∧ N - n + 1 ≤ cap ∧ Below w.heap.size w w' := by
  have hcc := h1.le
  have hO0 : Hid (OwnV w.heap.size w none 0 (winV b off n 0)) := hide (OwnV.nil _ _)
  go_enter Tryd.func111, Tryd.ntmps111
  go_wp2
  go_loopw [5, 6] (fun av ev wr => ∃ (i : Nat) (a' : Option Addr) (c' : Nat), i ≤ N - n + 1 ∧ av = .slice a' i c' ∧ ev = .int .i64 ((n : Int) + i) ∧ Hid (OwnV w.heap.size wr a' c' (winV b off n i)) ∧ Below w.heap.size w wr) (fun _ ev _ => (N + 1 - (intOf ev).toNat))
  case atStart => exact ⟨0, none, 0, by omega, rfl, by go_num, hO0, Below.refl _ _⟩
  case round =>
    obtain ⟨i, a', c', hi, rfl, rfl, hO, hb⟩ := hrel
    clear hO0
    obtain ⟨e, he⟩ : ∃ e : Nat, e = n + i := ⟨_, rfl⟩
    have hei : (n : Int) + i = (e : Int) := by omega
    rw [hei]
    have He := hide he
    clear he hei
    by_cases hlt : i < N - n + 1
    · have q1 : (e : Int) ≤ (N : Int) := by have := He.out; omega
      have q2 : (e : Int) ≤ (c : Int) := by omega
      have q3 : (0 : Int) ≤ (e : Int) := by omega
      have v1 : IntKind.i64.wrap ((e : Int) - n) = (i : Int) := by rw [show (e : Int) - n = (i : Int) by have := He.out; omega]; exact IntWalk.i64_in _ (by omega)
      have q4 : (i : Int) ≤ (e : Int) := by have := He.out; omega
      have q5 : (0 : Int) ≤ (i : Int) := by omega
      have v2 : IntKind.i64.wrap ((e : Int) + 1) = (e : Int) + 1 := IntWalk.i64_in _ (by omega)
      have q6 : ¬ i = e := by have := He.out; omega
      have hba : Below wr.heap.size wr (wr.alloc (.cells #[.slice (some ⟨b, off + i, none⟩) n n] 22)) := bl1 _ _
      have hen : e - i = n := by have := He.out; omega
      obtain ⟨vs, hvs⟩ : ∃ vs, winV b off n i = vs := ⟨_, rfl⟩
      have hst : Hid (winV b off n (i + 1) = vs ++ [Value.slice (some ⟨b, off + i, none⟩) n n]) := hide (by rw [← hvs, winV_step])
      have hvl := hide (show vs.length = i by rw [← hvs, winV_len])
      rw [hvs] at hO
      clear hvs
      have hOa := hide (hO.out.below hba)
      clear hO
      have hcl : (wr.alloc (.cells #[.slice (some ⟨b, off + i, none⟩) n n] 22)).cell? ⟨wr.heap.size, 0, none⟩ = some (.slice (some ⟨b, off + i, none⟩) n n) := by simp [go_sem]
      go_wp2_with (at_builtin; with_reducible refine wp_appV rfl _ _ rfl w.heap.size _ _ _ vs rfl hvl.out.symm hOa.out _ _ _ rfl hcl rfl (by omega) (by have := hb.size; simp; omega) ?_; intro ad' cap' w' hown' hgr hloc)
      have hvl2 := hide (show (vs ++ [Value.slice (some ⟨b, off + i, none⟩) n n]).length = i + 1 by rw [List.length_append, hvl.out]; rfl)
      have hb2 : Below w.heap.size w w' := (hb.trans (hba.mono hb.size)).grown hgr (by have := hb.size; simp; omega) (OwnV.blkG hOa.out)
      go_roundw
      case rel => exact ⟨i + 1, ad', cap', by omega, by rw [hvl.out], by rw [show (e : Int) + 1 = (n : Int) + ((i + 1 : Nat) : Int) by have := He.out; omega], by rw [hst.out]; exact hide hown', hb2⟩
      case measure => simp [intOf]; omega
    · have q1 : ¬ (e : Int) ≤ (N : Int) := by have := He.out; omega
      have hiN : i = N - n + 1 := by omega
      obtain ⟨g, rfl, hat⟩ := OwnV.at hO.out (by rw [winV_len]; omega)
      rw [winV_len] at hat
      have hcap : i ≤ c' := by
        have t := hO.out.le (by rw [winV_len]; omega)
        rwa [winV_len] at t
      have hat2 := hide hat
      have HI := hide hiN
      clear hO hat hiN
      go_wp2
      refine bodyPost_ret (v := .slice (some ⟨g, 0, none⟩) i c') (by simp [results, Tryd.results111]) rfl ?_
      exact ⟨g, c', by rw [← HI.out], fun j hj => by rw [hat2.out j (by rw [HI.out]; exact hj), winV_at _ _ _ _ _ (by rw [HI.out]; exact hj)], by rw [← HI.out]; exact hcap, hb⟩
set_option maxRecDepth 100000 in
set_option maxHeartbeats 1600000 in
theorem windows_zero (b off N c : Nat) (xs : List Int) (w : World) (h1 : SL w (some ⟨b, off, none⟩) N c xs) (hN : N ≤ 1000) :
    Calls Tryd.prog 111 #[.slice (some ⟨b, off, none⟩) N c, .int .i64 0] w fun e w' => ∃ g cap, e = .returned (.slice (some ⟨g, 0, none⟩) (N + 1) cap) ∧ Below w.heap.size w w' := by
  have hcc := h1.le
  have hO0 : Hid (OwnV w.heap.size w none 0 []) := hide (OwnV.nil _ _)
  go_enter Tryd.func111, Tryd.ntmps111
  go_wp2
  go_loopw [5, 6] (fun av ev wr => ∃ (i : Nat) (a' : Option Addr) (c' : Nat) (vs : List Value), i ≤ N + 1 ∧ av = .slice a' i c' ∧ ev = .int .i64 i ∧ Hid (vs.length = i) ∧ Hid (OwnV w.heap.size wr a' c' vs) ∧ Below w.heap.size w wr) (fun _ ev _ => (N + 1 - (intOf ev).toNat))
  case atStart => exact ⟨0, none, 0, [], by omega, rfl, rfl, rfl, hO0, Below.refl _ _⟩
  case round =>
    obtain ⟨i, a', c', vs, hi, rfl, rfl, hvl, hO, hb⟩ := hrel
    clear hO0
    by_cases hlt : i < N + 1
    · have q1 : (i : Int) ≤ (N : Int) := by omega
      have q2 : (i : Int) ≤ (c : Int) := by omega
      have q3 : (0 : Int) ≤ (i : Int) := by omega
      have v1 : IntKind.i64.wrap ((i : Int) - 0) = (i : Int) := by rw [Int.sub_zero]; exact IntWalk.i64_in _ (by omega)
      have v1b : IntKind.i64.wrap (i : Int) = (i : Int) := IntWalk.i64_in _ (by omega)
      have v2 : IntKind.i64.wrap ((i : Int) + 1) = (i : Int) + 1 := IntWalk.i64_in _ (by omega)
      have hba : Below wr.heap.size wr (wr.alloc (.cells #[.slice (some ⟨b, off, none⟩) 0 0] 22)) := bl1 _ _
      have hOa := hide (hO.out.below hba)
      clear hO
      have hcl : (wr.alloc (.cells #[.slice (some ⟨b, off, none⟩) 0 0] 22)).cell? ⟨wr.heap.size, 0, none⟩ = some (.slice (some ⟨b, off, none⟩) 0 0) := by simp [go_sem]
      go_wp2_with (at_builtin; with_reducible refine wp_appV rfl _ _ rfl w.heap.size _ _ _ vs rfl hvl.out.symm hOa.out _ _ _ rfl hcl rfl (by omega) (by have := hb.size; simp; omega) ?_; intro ad' cap' w' hown' hgr hloc)
      have hvl2 := hide (show (vs ++ [Value.slice (some ⟨b, off, none⟩) 0 0]).length = i + 1 by rw [List.length_append, hvl.out]; rfl)
      have hb2 : Below w.heap.size w w' := (hb.trans (hba.mono hb.size)).grown hgr (by have := hb.size; simp; omega) (OwnV.blkG hOa.out)
      go_roundw
      case rel => exact ⟨i + 1, ad', cap', _, by omega, by rw [hvl.out], by go_num, hvl2, hide hown', hb2⟩
      case measure => simp [intOf]; omega
    · have q1 : ¬ (i : Int) ≤ (N : Int) := by omega
      have hiN : i = N + 1 := by omega
      obtain ⟨g, rfl, hat⟩ := OwnV.at hO.out (by rw [hvl.out]; omega)
      have HI := hide hiN
      clear hO hat hiN
      go_wp2
      refine bodyPost_ret (v := .slice (some ⟨g, 0, none⟩) i c') (by simp [results, Tryd.results111]) rfl ?_
      exact ⟨⟨g, c', by rw [← HI.out]⟩, hb⟩
set_option maxRecDepth 100000 in
set_option maxHeartbeats 1600000 in
theorem determinant_zero (p : Int) (g0 cap0 : Nat) (w : World) :
    Calls Tryd.prog 110 #[.int .i64 p, .slice (some ⟨g0, 0, none⟩) 0 cap0] w
      fun e w' => e = .returned (.int .i64 1) ∧ Below w.heap.size w w' := by
  go_enter Tryd.func110, Tryd.ntmps110
  go_wp2_with fail
  refine (cloneV_any g0 1 0 cap0 (fun _ => []) _ (fun i hi => by omega) (by omega) (by omega)).mono ?_
  rintro e w1 ⟨ad, cap, vs, rfl, hO, hl, hrow, t1⟩
  clear hO hl hrow
  go_wp2
  refine wp_loop_rounds 1 ?_
  rw [rounds_succ]
  go_wp2
  go_ret
  exact ⟨rfl, t1⟩
set_option maxRecDepth 100000 in
set_option maxHeartbeats 1600000 in
theorem hankel_any (p : Int) (a : Option Addr) (N c : Nat) (xs : List Int) (k : Nat) (kk : Int) (w : World) (hs : SL w a N c xs) (hkk : kk = k) (hN : 1 ≤ N) (hN2 : N ≤ 1000) (hk : 2 * k ≤ N + 1) (hp : 2 ≤ p) (hp2 : p ≤ 10007) (hx : areB p xs = true) :
    Calls Tryd.prog 94 #[mom p a N c, .int .i64 kk] w fun e w' => e = .returned (.int .i64 (hkM p xs k)) ∧ Below w.heap.size w w' := by
  subst hkk
  obtain ⟨b, off, rfl, _, _⟩ := hs.at (by omega)
  have hb0 := bl1 w (.cells #[.int .i64 p, .slice (some ⟨b, off, none⟩) N c] 30)
  have g1 := hs.below hb0
  obtain ⟨w1, hw1⟩ : ∃ w1, w1 = w.alloc (.cells #[.int .i64 p, .slice (some ⟨b, off, none⟩) N c] 30) := ⟨_, rfl⟩
  have f0 : w1.cell? ⟨w.heap.size, 0, none⟩ = some (.int .i64 p) := by rw [hw1]; simp [go_sem]
  have f1 : w1.cell? ⟨w.heap.size, 1, none⟩ = some (.slice (some ⟨b, off, none⟩) N c) := by rw [hw1]; simp [go_sem]
  rw [← hw1] at hb0 g1
  have Hx := hide hx
  have hbd := (Below.refl w1.heap.size w1).drew
  have F : ∀ w', Below w1.heap.size w1 w' → w'.cell? ⟨w.heap.size, 0, none⟩ = some (.int .i64 p) ∧ w'.cell? ⟨w.heap.size, 1, none⟩ = some (.slice (some ⟨b, off, none⟩) N c) := fun w' h => ⟨cell_be h f0, cell_be h f1⟩
  by_cases h0 : k = 0
  · subst h0
    have hr := hide (hkM_zero p xs)
    clear hs hx
    go_enter Tryd.func94, Tryd.ntmps94
    go_upto_region 1 with fail
    rw [← hw1]
    clear hw1
    go_region_held3 (fun w' => w'.cell? ⟨w.heap.size, 0, none⟩ = some (.int .i64 p) ∧ w'.cell? ⟨w.heap.size, 1, none⟩ = some (.slice (some ⟨b, off, none⟩) N c))
      (exact F _ (by assumption))
      (first
      | (go_at_call 111; go_fit (windows_zero b off N c xs _ (g1.below hbd) hN2); rintro e w3 ⟨g, cap, rfl, t3⟩; have hm3 := bnext hbd t3; have q1 : (0 : Int) ≤ (cap : Int) := by omega)
      | (go_at_call 110; go_fit (determinant_zero p g cap _); rintro e w4 ⟨rfl, t4⟩; have hm4 := bnext hm3 t4))
    go_wp2
    go_ret
    exact ⟨ret_int hr.out.symm, hb0.trans (hm4.mono (by have := hb0.size; omega))⟩
  · have hk1 : 1 ≤ k := by omega
    have hcell := fun (W : World) (g : Nat) (hc : ∀ i, i < N - k + 1 → W.cell? ⟨g, i, none⟩ = some (.slice (some ⟨b, off + i, none⟩) k k)) (hS : SL W (some ⟨b, off, none⟩) N c xs) => show ∀ i, i < k → ∃ a c, W.cell? ⟨g, i, none⟩ = some (.slice a k c) ∧ SL W a k c (winR xs k i) from fun i hi => ⟨_, _, hc i (by omega), SL.win hS (by omega)⟩
    have Hc := hide hcell
    have Hw := hide (fun i => areB_winR (p := p) hx hp k i)
    clear hs hx hcell
    go_enter Tryd.func94, Tryd.ntmps94
    go_upto_region 1 with fail
    rw [← hw1]
    clear hw1
    go_region_held3 (fun w' => w'.cell? ⟨w.heap.size, 0, none⟩ = some (.int .i64 p) ∧ w'.cell? ⟨w.heap.size, 1, none⟩ = some (.slice (some ⟨b, off, none⟩) N c))
      (exact F _ (by assumption))
      (first
      | (go_at_call 111; go_fit (windows_cap b off N c k xs _ (g1.below hbd) hk1 (by omega) hN2); rintro e w3 ⟨g, cap, rfl, hcc, hcap, t3⟩; have hm3 := bnext hbd t3; have Hcc := hide hcc; clear hcc; have q1 : (k : Int) ≤ (cap : Int) := by omega)
      | (go_at_call 110; go_fit (determinant_any p g k cap (winR xs k) _ (Hc.out _ g Hcc.out (g1.below hm3)) hk1 (by omega) hp hp2 (fun i _ => Hw.out i)); rintro e w4 ⟨rfl, t4⟩; have hm4 := bnext hm3 t4))
    go_wp2
    go_ret
    exact ⟨rfl, hb0.trans (hm4.mono (by have := hb0.size; omega))⟩

end Go.Proofs.YtdjifjlgllohmaaDoor
