/- Merged texts. -/
import Derived.Test.YtkpmonopjkjflaaYC58
import Derived.Test.YtkpmonopjkjflaaYC510
import Derived.Deep.LoopGhost
import Derived.StillTailTactics
import Derived.IntWalk
import Derived.Test.YtkpmonopjkjflaaYC55
import Derived.Maps.OwnSet
import Derived.DeepKeys4
/- Contracts: divide (program). -/
namespace Go.Proofs.Ytkpmonopjkjflaa
open Go.RowKit
set_option linter.unusedVariables false
set_option linter.unusedSimpArgs false

/-- A pair of lists as the call's result: the first lies below M, the second from M on. -/
def Pair (w : World) (q r : List Int) (e : Ending) (w' : World) : Prop :=
  ∃ a1 c1 a2 c2 M, e = .returned (.tuple #[.slice a1 q.length c1, .slice a2 r.length c2]) ∧ OZ w.heap.size M w' a1 q.length c1 q ∧ OZ M w'.heap.size w' a2 r.length c2 r ∧ w.heap.size ≤ M ∧ M ≤ w'.heap.size ∧ Below w.heap.size w w'
theorem Pair.mk {w w' : World} {q r : List Int} {a1 a2 : Option Addr} {n1 n2 c1 c2 M : Nat} (h1 : n1 = q.length) (h2 : n2 = r.length) (o1 : OZ w.heap.size M w' a1 n1 c1 q) (o2 : OZ M w'.heap.size w' a2 n2 c2 r) (hM : w.heap.size ≤ M) (hM' : M ≤ w'.heap.size) (hb : Below w.heap.size w w') :
    Pair w q r (.returned (.tuple #[.slice a1 n1 c1, .slice a2 n2 c2])) w' := by
  subst h1; subst h2
  exact ⟨a1, c1, a2, c2, M, rfl, o1, o2, hM, hM', hb⟩
theorem quoM_short {p : Int} {f g : List Int} (h : f.length < g.length) : quoM p f g = [] ∧ remM p f g = f := by
  unfold quoM remM
  rw [if_pos h, if_pos h]
  exact ⟨rfl, rfl⟩
theorem quoM_long {p inv : Int} {f g : List Int} {D n2 : Nat} (hg : g.length = n2) (h : f.length = D + n2) (hi : inv = invM p (g.getD (n2 - 1) 0)) : quoM p f g = trimL (tab (D + 1) (divQ p inv f g D (D + 1))) ∧ remM p f g = trimL (tab (D + n2) (divR p inv f g D (D + 1))) := by
  unfold quoM remM
  rw [if_neg (by omega), if_neg (by omega), hg, h, hi, Nat.add_sub_cancel]
  exact ⟨rfl, rfl⟩
set_option maxRecDepth 100000 in
set_option maxHeartbeats 3200000 in
theorem divide_short (p : Int) (a1 : Option Addr) (n1 c1 : Nat) (f : List Int) (a2 : Option Addr) (n2 c2 : Nat) (g : List Int) (w : World) (h1 : SL w a1 n1 c1 f) (h2 : SL w a2 n2 c2 g)
    (b1 : n1 ≤ 1000) (b2 : n2 ≤ 1000) (hn : n1 < n2) (hp : 2 ≤ p) (hp2 : p ≤ 10007) (hg : areB p g = true) :
    Calls Try.prog 129 #[.int .i64 p, .slice a1 n1 c1, .slice a2 n2 c2] w (Pair w (quoM p f g) (remM p f g)) := by
  have hl1 := hide h1.len
  have hl2 := hide h2.len
  have hs := quoM_short (p := p) (f := f) (g := g) (by rw [hl1.out, hl2.out]; exact hn)
  have Hq := hide hs.1
  have Hr := hide hs.2
  obtain ⟨b, off, ha, hbw, hcell⟩ := h2.at (by omega)
  have hc := hcell (n2 - 1) (by omega)
  have hr := getD_rng hg hp (n2 - 1)
  obtain ⟨x, hx⟩ : ∃ x, g.getD (n2 - 1) 0 = x := ⟨_, rfl⟩
  rw [hx] at hc hr
  subst ha
  clear hcell hx hs hg
  obtain ⟨r1, r2⟩ := hr
  have hn' : (n1 : Int) < (n2 : Int) := by omega
  by_cases hcmp : (n1 : Int) - (n2 : Int) + 1 < 0
  all_goals
    go_enter Try.func129, Try.ntmps129
    go_wp2
    go_step3
    go_wp2_with (at_make; refine wp_make rfl _ _ rfl _ _ 0 rfl rfl (by omega) (by omega) (by omega) ?_; intro w1 hrow hb hsz)
    refine (clone_any _ _ _ f _ (h1.below hb) (by omega)).mono ?_
    rintro e w2 ⟨a', c', rfl, hown, hb2⟩
    have hB2 := bnext hb hb2
    have hc2 : w2.cell? ⟨b, off + (n2 - 1), none⟩ = some (.int .i64 x) := cell_be hB2 hc
    clear hc
    go_wp2_with fail
    refine (inverse_any p x _ hp hp2 r1 r2).mono ?_
    rintro e w3 ⟨rfl, hb3⟩
    go_wp2
    go_step3
    go_wp2
    refine wp_loop_rounds 1 ?_
    rw [rounds_succ]
    go_wp2
    try rw [Exit.noGoto_ret]
    go_ret2
    refine Pair.mk (M := w1.heap.size) (by rw [Hq.out]; rfl) (by rw [Hr.out, hl1.out]) ⟨by rw [Hq.out]; exact ⟨rfl, ⟨Nat.le_refl _, fun h => by cases h⟩, .inl rfl⟩, .inl rfl⟩ (by rw [Hr.out]; exact (OZ.of (hown.below hb3) hl1.out.symm)) hb.size (Nat.le_trans hb2.size hb3.size) (bnext hB2 hb3)
set_option maxRecDepth 100000 in
set_option maxHeartbeats 6400000 in
theorem divide_long (p : Int) (a1 : Option Addr) (n1 c1 : Nat) (f : List Int) (a2 : Option Addr) (n2 c2 D : Nat) (g : List Int) (w : World) (h1 : SL w a1 n1 c1 f) (h2 : SL w a2 n2 c2 g)
    (b1 : n1 ≤ 1000) (hD1 : D + n2 ≤ n1) (hD2 : n1 ≤ D + n2) (hn : 0 < n2) (hpr : primeB p = true) (hf : areB p f = true) (hg : areB p g = true) (hfl : f.getD (n1 - 1) 0 ≠ 0) (hgl : g.getD (n2 - 1) 0 ≠ 0) :
    Calls Try.prog 129 #[.int .i64 p, .slice a1 n1 c1, .slice a2 n2 c2] w (Pair w (quoM p f g) (remM p f g)) := by
  have hl1 := hide h1.len
  have hl2 := hide h2.len
  obtain ⟨hp, hp2⟩ := primeB_lo hpr
  obtain ⟨b, off, ha, hbw, hcell⟩ := h2.at (by omega)
  have hc := hcell (n2 - 1) (by omega)
  have hr := getD_rng hg hp (n2 - 1)
  obtain ⟨x, hx⟩ : ∃ x, g.getD (n2 - 1) 0 = x := ⟨_, rfl⟩
  obtain ⟨inv, hinv⟩ : ∃ inv, invM p x = inv := ⟨_, rfl⟩
  have hix : x * inv % p = 1 := by
    rw [← hinv]
    exact invM_mul hpr (by rw [hx] at hgl hr; omega) (by rw [hx] at hr; exact hr.2)
  have hq := quoM_long (p := p) (inv := inv) (f := f) (g := g) (D := D) hl2.out (by rw [hl1.out]; omega) (by rw [hx, hinv])
  have Hq := hide hq.1
  have Hr := hide hq.2
  have Hix : Hid (g.getD (g.length - 1) 0 * inv % p = 1) := hide (by rw [hl2.out, hx]; exact hix)
  have hi := invM_rng x hp
  rw [hinv] at hi
  obtain ⟨i1, i2⟩ := hi
  rw [hx] at hc hr
  subst ha
  have Hf := hide hf
  have Hg := hide hg
  have Hpr := hide hpr
  have Hinv := hide hinv
  have Hfl := hide hfl
  have HD : Hid (f.length = D + g.length) := hide (by rw [hl1.out, hl2.out]; omega)
  obtain ⟨r1, r2⟩ := hr
  clear hcell hx hq hf hg hix hpr hinv hfl hgl
  have hcmp : ¬ (n1 : Int) - (n2 : Int) + 1 < 0 := by omega
  go_enter Try.func129, Try.ntmps129
  go_wp2
  go_step3
  go_wp2_with (at_make; refine wp_make rfl _ _ rfl _ _ (D + 1) rfl rfl (by omega) (by omega) (by omega) ?_; intro w1 hrow hb hsz)
  refine (clone_any _ _ _ f _ (h1.below hb) (by omega)).mono ?_
  rintro e w2 ⟨a', c', rfl, hown, hb2⟩
  have hB2 := bnext hb hb2
  have hrow2 := hide (hrow.out.next hb2)
  have hc2 : w2.cell? ⟨b, off + (n2 - 1), none⟩ = some (.int .i64 x) := cell_be hB2 hc
  obtain ⟨G, ha', hG1, hG2, hGc⟩ := hown.blkG (by rw [hl1.out]; omega)
  subst ha'
  clear hc hrow
  go_wp2_with fail
  refine (inverse_any p x _ hp hp2 r1 r2).mono ?_
  rintro e w3 ⟨rfl, hb3⟩
  rw [Hinv.out]
  have hB3 := bnext hB2 hb3
  have hrow3 := hide (hrow2.out.next hb3)
  have hown3 := hide (hown.below hb3)
  have hG3 : G < w3.heap.size := Nat.lt_of_lt_of_le hG2 hb3.size
  have hz1 := hb.size
  clear hrow2 hc2 hown hb2 hb3 hb hB2
  have hQ0 : Hid (RowI w3 w.heap.size (tab (D + 1) (divQ p inv f g D 0))) := hide (by
    rw [divQ_zero]
    have := hrow3.out
    rwa [tab_zero] at this)
  have hR0 : Hid (Own w1.heap.size w3 (some ⟨G, 0, none⟩) c' (tab n1 (divR p inv f g D 0))) := hide (by
    have e : f = tab n1 (divR p inv f g D 0) := tab_of f n1 hl1.out
    rw [← e]
    exact hown3.out)
  have hT0 : Hid (trimN (tab n1 (divR p inv f g D 0)) n1 = n1) := hide (by
    have e : f = tab n1 (divR p inv f g D 0) := tab_of f n1 hl1.out
    rw [← e]
    exact trimN_stop Hfl.out (by omega))
  clear hrow3 hown3
  go_wp2
  go_step3
  go_wp2
  go_loopg [9] n1 (fun gk v9 wr => ∃ i, i ≤ D + 1 ∧ gk + i ≤ n1 ∧ v9 = .slice (some ⟨G, 0, none⟩) gk c' ∧ Hid (RowI wr w.heap.size (tab (D + 1) (divQ p inv f g D i))) ∧ Hid (Own w1.heap.size wr (some ⟨G, 0, none⟩) c' (tab n1 (divR p inv f g D i))) ∧
      Hid (trimN (tab n1 (divR p inv f g D i)) n1 = gk) ∧ Below w.heap.size w wr ∧ w1.heap.size ≤ wr.heap.size ∧ G < wr.heap.size)
  case atStart => exact ⟨0, by omega, by omega, rfl, hQ0, hR0, hT0, hB3, by omega, hG3⟩
  case round =>
    obtain ⟨i, hi1, hi2, rfl, hQ, hR, hT, hBr, hsr, hGr⟩ := hrel
    clear hQ0 hR0 hT0 hB3 hG3
    obtain ⟨L, rfl⟩ : ∃ L, L = gk := ⟨gk, rfl⟩
    -- from here on all is 0
    have hz : ∀ j, L ≤ j → divR p inv f g D i j = 0 := fun j hj => by
      by_cases hjn : j < n1
      · have := trimN_zero_from (tab n1 (divR p inv f g D i)) n1 j (by rw [hT.out]; exact hj) hjn
        rwa [tab_at _ _ _ hjn] at this
      · exact divR_far HD.out j (by rw [hl1.out]; omega)
    by_cases hge : (n2 : Int) ≤ (L : Int)
    · -- one step
      obtain ⟨at', hat⟩ : ∃ at', L = at' + n2 := ⟨L - n2, by omega⟩
      obtain ⟨I, hI⟩ : ∃ I, D = at' + I := ⟨D - at', by omega⟩
      have hsk := divR_skip (p := p) (inv := inv) (f := f) (g := g) (D := D) (i := i) (L := L) hp Hf.out (by rw [hl2.out]; omega) hz (I - i) (by omega) (by rw [hl2.out]; omega)
      rw [show i + (I - i) = I by omega] at hsk
      have hQ' := hide (show RowI wr w.heap.size (tab (D + 1) (divQ p inv f g D I)) by
        have e : tab (D + 1) (divQ p inv f g D I) = tab (D + 1) (divQ p inv f g D i) := tab_congr (fun j hj => hsk.2 j (by omega))
        rw [e]; exact hQ.out)
      have hR' := hide (show Own w1.heap.size wr (some ⟨G, 0, none⟩) c' (tab n1 (divR p inv f g D I)) by rw [hsk.1]; exact hR.out)
      have hz' : Hid (∀ j, L ≤ j → divR p inv f g D I j = 0) := hide (by rw [hsk.1]; exact hz)
      have hDI : D - I = at' := by omega
      obtain ⟨q, hq⟩ : ∃ q, divN p inv f g D I = q := ⟨_, rfl⟩
      have hqr := divN_rng (inv := inv) (f := f) (g := g) (D := D) (i := I) hp
      rw [hq] at hqr
      have HqN := hide hq
      have hqdef : Hid (divR p inv f g D I (L - 1) * inv % p = q) := hide (by rw [← hq]; unfold divN; rw [hDI, hl2.out, hat])
      have hnext : Hid (divR p inv f g D (I + 1) = divS p q g (divR p inv f g D I) at' n2) := hide (by
        rw [divR]
        have e : divR p inv f g D I (D - I + g.length - 1) * inv % p = q := hq
        rw [e, hDI, hl2.out])
      have htop : Hid (divR p inv f g D (I + 1) (L - 1) = 0) := hide (by
        have := divR_top (p := p) (inv := inv) (f := f) (g := g) (D := D) (i := I) Hpr.out Hf.out (by rw [hl2.out]; omega) Hix.out
        rwa [hDI, hl2.out, ← hat] at this)
      have hQn := hQ'.out.set at' q
      have e0 := divQ_step p inv f g D I (by omega)
      rw [hDI, hq] at e0
      rw [e0] at hQn
      have hQn' := hide hQn
      have t1 := hR'.out.cellG (L - 1) (by rw [tab_len]; omega)
      rw [tab_at _ _ _ (by omega)] at t1
      have t2 := divR_rng (inv := inv) (g := g) (D := D) hp Hf.out I (L - 1)
      obtain ⟨z, hzd⟩ : ∃ z, divR p inv f g D I (L - 1) = z := ⟨_, rfl⟩
      rw [hzd] at t1 t2 hqdef
      have t3 := hQ'.out.cell at' (by rw [tab_len]; omega)
      have t4 := hQ'.out.free at'
      obtain ⟨m1, m2⟩ := mulb t2.1 t2.2 i1 i2 hp2
      have hOn : Hid (Own w1.heap.size (wr.setCell ⟨w.heap.size, at', none⟩ (.int .i64 q)) (some ⟨G, 0, none⟩) c' (tab n1 (divR p inv f g D I))) := hide (hR'.out.otherG (by simp [blk]; omega) _)
      have hBn := hBr.setCell (p := ⟨w.heap.size, at', none⟩) (by simp) (.int .i64 q)
      obtain ⟨q1, q2⟩ := hqr
      have hkk : (L : Int) - (n2 : Int) = (at' : Int) := by omega
      have hk1 : ((L : Int) - 1).toNat = L - 1 := by omega
      have hatD : (at' : Int) < (D : Int) + 1 := by omega
      have hpg : 0 < L := by omega
      clear hQn e0 hq hzd hQ hR hT hi1 hi2 hsk hQ' hR' hz
      have a1' : L ≤ at' + n2 := by omega
      have a2' : at' + n2 ≤ L := by omega
      have a3' : D ≤ at' + I := by omega
      have a4' : at' + I ≤ D := by omega
      have hqat : Hid (divQ p inv f g D (I + 1) at' = q) := hide (by
        unfold divQ
        rw [if_pos (by omega), show D - at' = I by omega]
        exact HqN.out)
      have hz0 : Hid (trimN (tab n1 (divR p inv f g D (I + 1))) n1 = trimN (tab n1 (divR p inv f g D (I + 1))) L) := hide (trimN_mono _ _ _ (by omega) (fun j hj1 hj2 => by
        rw [tab_at _ _ _ hj2, hnext.out]
        unfold divS
        rw [if_neg (by omega)]
        exact hz'.out j hj1))
      clear hat hI hDI
      go_wp2
      rw [hqdef.out]
      have hs1' : w1.heap.size ≤ (wr.setCell ⟨w.heap.size, at', none⟩ (.int .i64 q)).heap.size := by simpa using hsr
      have hG1' : G < (wr.setCell ⟨w.heap.size, at', none⟩ (.int .i64 q)).heap.size := by simpa using hGr
      have hR0 : Hid (Own w1.heap.size (wr.setCell ⟨w.heap.size, at', none⟩ (.int .i64 q)) (some ⟨G, 0, none⟩) c' (tab n1 (divS p q g (divR p inv f g D I) at' 0))) := hide (by rw [divS_zero]; exact hOn.out)
      clear hOn t1 t2 t3 t4 hsr hGr hBr hqdef hz'
      generalize wr.setCell ⟨w.heap.size, at', none⟩ (.int .i64 q) = wo at hQn' hBn hs1' hG1' hR0 ⊢
      go_loopw [57] (fun v wr => ∃ m : Nat, m ≤ n2 ∧ v = .int .i64 m ∧ Hid (RowI wr w.heap.size (tab (D + 1) (divQ p inv f g D (I + 1)))) ∧ Hid (Own w1.heap.size wr (some ⟨G, 0, none⟩) c' (tab n1 (divS p q g (divR p inv f g D I) at' m))) ∧
        Below w.heap.size w wr ∧ w1.heap.size ≤ wr.heap.size ∧ G < wr.heap.size) (fun v _ => n2 - (intOf v).toNat)
      case atStart => exact ⟨0, by omega, rfl, hQn', hR0, hBn, hs1', hG1'⟩
      case round =>
        obtain ⟨m, hm, rfl, hQ, hR, hBr, hsr, hGr⟩ := hrel
        clear hQn' hBn hs1' hG1' hR0
        by_cases hlt : m < n2
        · obtain ⟨b', off', hb', hbw', hcell⟩ := (h2.below hBr).at (by omega)
          simp only [Option.some.injEq, Addr.mk.injEq, and_true] at hb'
          obtain ⟨rfl, rfl⟩ := hb'
          have e1 := hcell m hlt
          have e2 := hR.out.cellG (at' + m) (by rw [tab_len]; omega)
          rw [tab_at _ _ _ (by omega), divS_at] at e2
          have e3 := hQ.out.cell at' (by rw [tab_len]; omega)
          rw [tab_at _ _ _ (by omega), hqat.out] at e3
          have e4 := hR.out.freeG (at' + m)
          have e5 := hR.out.setG (at' + m) ((divR p inv f g D I (at' + m) - q * g.getD m 0) % p)
          rw [divS_step, ← minus_eq] at e5
          have e6 := hQ.out.other (b := G) (j := at' + m) (by omega) (.int .i64 ((divR p inv f g D I (at' + m) + (p - q) * g.getD m 0) % p))
          have s1 := divR_rng (inv := inv) (g := g) (D := D) hp Hf.out I (at' + m)
          have s2 := getD_rng Hg.out hp m
          obtain ⟨y, hy⟩ : ∃ y, g.getD m 0 = y := ⟨_, rfl⟩
          obtain ⟨z2, hz2⟩ : ∃ z2, divR p inv f g D I (at' + m) = z2 := ⟨_, rfl⟩
          rw [hy] at e1 e5 s2 e6
          rw [hz2] at e2 e5 s1 e6
          have E5 := hide e5
          have E6 := hide e6
          obtain ⟨s3, s4⟩ := s1
          obtain ⟨s5, s6⟩ := s2
          have hm0 : 0 ≤ (p - q) * y := Int.mul_nonneg (by omega) s5
          have hm1 : (p - q) * y ≤ 10007 * 10007 := Int.mul_le_mul (by omega) (by omega) s5 (by omega)
          have hlt' : (m : Int) < (n2 : Int) := by omega
          have hmg : (at' : Int) + (m : Int) < (L : Int) := by omega
          have hag : (0 : Int) ≤ (at' : Int) + (m : Int) := by omega
          have hkt : ((at' : Int) + (m : Int)).toNat = at' + m := by omega
          have v1 : IntKind.i64.wrap (p - q) = p - q := IntWalk.i64_in _ (by omega)
          have v2 : IntKind.i64.wrap ((p - q) * y) = (p - q) * y := IntWalk.i64_in _ (by omega)
          have v3 : IntKind.i64.wrap (z2 + (p - q) * y) = z2 + (p - q) * y := IntWalk.i64_in _ (by omega)
          have v4 : (z2 + (p - q) * y).tmod p = (z2 + (p - q) * y) % p := Int.tmod_eq_emod_of_nonneg (by omega)
          have v6 := modb (x := z2 + (p - q) * y) hp
          have v5 : IntKind.i64.wrap ((z2 + (p - q) * y) % p) = (z2 + (p - q) * y) % p := IntWalk.i64_in _ (by omega)
          have v7 : IntKind.i64.wrap ((at' : Int) + (m : Int)) = (at' : Int) + (m : Int) := IntWalk.i64_in _ (by omega)
          have hp0 : ¬ p = 0 := by omega
          have hgD : (at' : Int) < ((D + 1 : Nat) : Int) := by omega
          clear e5 e6 hcell hy hz2
          go_wp2
          refine wp_region_still_tail 22 (by kernel_rfl) (by kernel_rfl) ?_
          simp only [List.take_succ_cons, List.take_zero, List.drop_succ_cons, List.drop_zero]
          repeat still_step
          refine wpStill_nil ?_
          clear v1 v2 v3 v4 v5 v7 hkt hkk
          go_wp2
          go_roundw
          case rel => exact ⟨m + 1, by omega, by go_num, E6, E5, (hBr.setCell (by simp; omega) _).drew, by simpa using hsr, by simpa using hGr⟩
          case measure => simp [intOf]; omega
        · obtain rfl : m = n2 := by omega
          have hR' : Hid (Own w1.heap.size wr (some ⟨G, 0, none⟩) c' (tab n1 (divR p inv f g D (I + 1)))) := hide (by rw [hnext.out]; exact hR.out)
          clear hR
          go_wp2
          obtain ⟨wo2, hwo2⟩ : ∃ wo2 : World, wo2 = wr := ⟨_, rfl⟩
          subst hwo2
          go_loopg [9] L (fun gm v9 wr => gm ≤ L ∧ v9 = .slice (some ⟨G, 0, none⟩) gm c' ∧ Hid (trimN (tab n1 (divR p inv f g D (I + 1))) n1 = trimN (tab n1 (divR p inv f g D (I + 1))) gm) ∧ Hid (RowI wr w.heap.size (tab (D + 1) (divQ p inv f g D (I + 1)))) ∧
            Hid (Own w1.heap.size wr (some ⟨G, 0, none⟩) c' (tab n1 (divR p inv f g D (I + 1)))) ∧ Below w.heap.size w wr ∧ w1.heap.size ≤ wr.heap.size ∧ G < wr.heap.size)
          case atStart => exact ⟨by omega, rfl, hz0, hQ, hR', hBr, hsr, hGr⟩
          case round =>
            obtain ⟨hml, rfl, hT, hQ3, hR3, hBr3, hsr3, hGr3⟩ := hrel
            clear hR' hz0 hQ hBr hsr hGr
            by_cases hpos : 0 < gk
            · have hposI : (0 : Int) < (gk : Int) := by omega
              have hsl : SL wr (some ⟨G, 0, none⟩) gk c' ((tab n1 (divR p inv f g D (I + 1))).take gk) := by
                have h0 := hR3.out.sl
                rw [tab_len] at h0
                exact h0.take (by omega)
              have hx := getD_take (tab n1 (divR p inv f g D (I + 1))) gk (gk - 1) (by omega)
              have hle := hsl.le
              by_cases hz : (tab n1 (divR p inv f g D (I + 1))).getD (gk - 1) 0 = 0
              · have hT2 := hide (hT.out.trans (trimN_zero hz hpos))
                have Hz := hide (hx.trans hz)
                clear hx hz
                go_wp2_with fail
                refine (numberAt_v _ gk c' (gk - 1) _ _ 0 _ hsl (by omega) (by omega) (by omega) Hz.out).mono ?_
                rintro e w4 ⟨rfl, hb4⟩
                go_wp2_with fail
                refine (isZero_t _ _ rfl).mono ?_
                rintro e w5 ⟨rfl, hb5⟩
                have hb := bnext hb4 hb5
                have hQ5 := hide (hQ3.out.next hb)
                have hR5 := hide (hR3.out.below hb)
                have hB5 := hBr3.trans (hb.mono hBr3.size)
                have hz5 := hb.size
                have hcm : (gk : Int) - 1 ≤ (c' : Int) := by omega
                have hkk2 : ((gk : Int) - 1).toNat = gk - 1 := by omega
                clear hb4 hb5 hb hQ3 hR3 hBr3 hsl
                go_wp2
                go_roundg (gk - 1)
                case rel => exact ⟨by omega, rfl, hT2, hQ5, hR5, hB5, by omega, by omega⟩
                case measure => omega
              · have hT2 := hide (hT.out.trans (trimN_stop hz hpos))
                have hlt2 : gk < L := by
                  rcases Nat.lt_or_ge gk L with h | h
                  · exact h
                  · exfalso
                    apply hz
                    rw [show gk = L by omega, tab_at _ _ _ (by omega)]
                    exact htop.out
                obtain ⟨v, hv⟩ : ∃ v, (tab n1 (divR p inv f g D (I + 1))).getD (gk - 1) 0 = v := ⟨_, rfl⟩
                have Hv := hide (hx.trans hv)
                have Hz : v ≠ 0 := fun e => hz (hv.trans e)
                clear hx hz hv
                go_wp2_with fail
                refine (numberAt_v _ gk c' (gk - 1) _ _ v _ hsl (by omega) (by omega) (by omega) Hv.out).mono ?_
                rintro e w4 ⟨rfl, hb4⟩
                go_wp2_with fail
                refine (isZero_f _ _ Hz).mono ?_
                rintro e w5 ⟨rfl, hb5⟩
                have hb := bnext hb4 hb5
                have hQ5 := hide (hQ3.out.next hb)
                have hR5 := hide (hR3.out.below hb)
                have hB5 := hBr3.trans (hb.mono hBr3.size)
                have hz5 := hb.size
                clear hb4 hb5 hb hQ3 hR3 hBr3 hsl
                go_wp2
                go_roundg gk
                case rel => exact ⟨I + 1, by omega, by omega, rfl, hQ5, hR5, hT2, hB5, by omega, by omega⟩
                case measure => omega
            · obtain rfl : gk = 0 := by omega
              have hT2 : Hid (trimN (tab n1 (divR p inv f g D (I + 1))) n1 = 0) := hide hT.out
              go_wp2
              go_roundg 0
              case rel => exact ⟨I + 1, by omega, by omega, rfl, hQ3, hR3, hT2, hBr3, by omega, by omega⟩
              case measure => omega
    · -- all is taken off
      have hsk := divR_skip (p := p) (inv := inv) (f := f) (g := g) (D := D) (i := i) (L := L) hp Hf.out (by rw [hl2.out]; omega) hz (D + 1 - i) (by omega) (by rw [hl2.out]; omega)
      rw [show i + (D + 1 - i) = D + 1 by omega] at hsk
      have hQ' := hide (show RowI wr w.heap.size (tab (D + 1) (divQ p inv f g D (D + 1))) by
        have e : tab (D + 1) (divQ p inv f g D (D + 1)) = tab (D + 1) (divQ p inv f g D i) := tab_congr (fun j hj => hsk.2 j (by omega))
        rw [e]; exact hQ.out)
      have hR' := hide (show Own w1.heap.size wr (some ⟨G, 0, none⟩) c' (tab n1 (divR p inv f g D (D + 1))) by rw [hsk.1]; exact hR.out)
      have hT' := hide (show trimN (tab n1 (divR p inv f g D (D + 1))) n1 = L by rw [hsk.1]; exact hT.out)
      clear hQ hR hT hz hsk
      have hNn : D + n2 = n1 := by omega
      have HNn := hide hNn
      clear hNn
      have hrem : Hid (remM p f g = (tab n1 (divR p inv f g D (D + 1))).take L) := hide (by
        rw [Hr.out, HNn.out]
        unfold trimL
        rw [tab_len, hT'.out])
      have hLn : L ≤ n1 := by have := trimN_le (tab n1 (divR p inv f g D (D + 1))) n1; rw [hT'.out] at this; exact this
      have hqt : Hid (quoM p f g = tab (D + 1) (divQ p inv f g D (D + 1))) := hide (by
        rw [Hq.out]
        apply trimL_self
        rw [tab_len, tab_at _ _ _ (by omega)]
        show divQ p inv f g D (D + 1) (D + 1 - 1) ≠ 0
        unfold divQ
        rw [if_pos (by omega), show D - (D + 1 - 1) = 0 by omega]
        unfold divN
        have e : divR p inv f g D 0 (D - 0 + g.length - 1) = f.getD (n1 - 1) 0 := by
          unfold divR
          rw [hl2.out, show D - 0 + n2 - 1 = n1 - 1 by have := HNn.out; omega]
        rw [e]
        have g1 := getD_rng Hf.out hp (n1 - 1)
        have g2 := Hfl.out
        have g3 : inv ≠ 0 := fun h0 => by
          have := Hix.out
          rw [h0] at this
          simp at this
        exact prime_mul Hpr.out (by omega) g1.2 (by omega) i2)
      have oq : OZ w.heap.size w1.heap.size wr (some ⟨w.heap.size, 0, none⟩) (D + 1) (D + 1) (quoM p f g) := by
        have h3 := hQ'.out.own' (Nat.le_refl _) (by rw [tab_len]; unfold maxLen; omega)
        rw [tab_len] at h3
        refine ⟨?_, .inr ⟨by rw [hqt.out]; exact h3, w.heap.size, rfl, hsz⟩⟩
        have h4 := h3.sl
        rw [tab_len] at h4
        rw [hqt.out]
        exact h4
      have or : OZ w1.heap.size wr.heap.size wr (some ⟨G, 0, none⟩) L c' (remM p f g) := by
        have h3 := hR'.out.takeG (m := L) (by rw [tab_len]; exact hLn)
        rw [hrem.out]
        exact OZ.of h3 (by rw [List.length_take, tab_len]; omega)
      have hlq : Hid (D + 1 = (quoM p f g).length) := hide (by rw [hqt.out, tab_len])
      have hlr : Hid (L = (remM p f g).length) := hide (by rw [hrem.out, List.length_take, tab_len]; omega)
      clear hQ' hR' hT'
      go_wp2
      try rw [Exit.noGoto_ret]
      go_ret2
      exact Pair.mk (M := w1.heap.size) hlq.out hlr.out oq or hz1 hsr hBr
end Go.Proofs.Ytkpmonopjkjflaa
/- Contract: areDifferent, a set by a map whose keys are arrays of one number. -/
namespace Go.Proofs.Ytkpmonopjkjflaa
open Go.RowKit Go.Maps Go.WideMaps
set_option linter.unusedVariables false
set_option linter.unusedSimpArgs false

theorem laidN : laidOutB Try.prog = true := by kernel_rfl
theorem wideN : (match Try.prog.underlying 97 with | some (.array _ _) | some (.struct _) => true | _ => false) = true := by kernel_rfl
theorem rowN : (97 : TypeId) < Try.prog.types.size := of_decide_eq_true (by kernel_rfl)
set_option maxRecDepth 100000 in
theorem lawN : KeyLaw Try.prog 97 := deep_law_laid laidN (m := 2) (by omega) rowN (by kernel_rfl) wideN
theorem keyedN : Keyed Try.prog 97 := Keyed.of_law lawN
def kN (x : Int) : Lit := .string (keyBytes [.int .i64 x])
set_option maxRecDepth 100000 in
theorem keyN {x : Int} (hx : (Lit.int .i64 x).wf = true) : keyOf Try.prog 97 (.agg #[.int .i64 x]) = some (kN x) := by
  have h1 : Try.prog.keyType 97 = true := by kernel_rfl
  have h2 : Try.prog.cellsOf 97 = 1 := by kernel_rfl
  have h3 : Try.prog.cellsOf 2 = 1 := by kernel_rfl
  obtain ⟨d, hd⟩ : ∃ d, Try.prog.types.size = d + 1 := ⟨Try.prog.types.size - 1, (Nat.succ_pred_eq_of_pos (Nat.lt_of_le_of_lt (Nat.zero_le _) rowN)).symm⟩
  simp [keyOf, Try.underlying97, h1, Value.formed, h2, hd, Program.keyLits, Try.underlying2, h3, hx, Value.cells, kN]
theorem kN_inj {x y : Int} (hx : (Lit.int .i64 x).wf = true) (hy : (Lit.int .i64 y).wf = true) (h : kN x = kN y) : x = y := by
  have := lawN.inj (keyN hx) (by rw [h]; exact keyN hy)
  simpa using this
def ksN (xs : List Int) (k : Nat) : List Lit := (xs.take k).map kN
def SnN (xs : List Int) (k : Nat) : DataW Unit := setOf (.lit (.bool true)) (ksN xs k)
theorem ksN_key (xs : List Int) (k : Nat) : ∀ y ∈ ksN xs k, WideAt.IsKeyLit y := fun y hy => by
  obtain ⟨_, _, rfl⟩ := List.mem_map.1 hy
  trivial
theorem SnN_zero (xs : List Int) : SnN xs 0 = .map [] := by simp [SnN, ksN, setOf]
theorem take_snoc (xs : List Int) (k : Nat) (hk : k < xs.length) : xs.take (k + 1) = xs.take k ++ [xs.getD k 0] := by
  rw [List.take_add_one]
  simp [List.getElem?_eq_getElem hk]
theorem SnN_succ (xs : List Int) (k : Nat) (hk : k < xs.length) : SnN xs (k + 1) = (SnN xs k).put (kN (xs.getD k 0)) (.lit (.bool true)) := by
  unfold SnN ksN
  rw [take_snoc xs k hk, List.map_append]
  exact setOf_snoc _ _ _
theorem SnN_has (xs : List Int) (k : Nat) (x : Int) (hx : (Lit.int .i64 x).wf = true) (hxs : ∀ y ∈ xs, (Lit.int .i64 y).wf = true) : Maps.has (SnN xs k) (kN x) = true ↔ x ∈ xs.take k := by
  unfold SnN
  rw [has_setOf _ _ _ (ksN_key xs k), List.any_eq_true]
  constructor
  · rintro ⟨l, hl, h⟩
    obtain ⟨y, hy, rfl⟩ := List.mem_map.1 hl
    have e := kN_inj (hxs y (List.mem_of_mem_take hy)) hx (WideAt.sameKey_eq h)
    exact e ▸ hy
  · intro h
    exact ⟨kN x, List.mem_map.2 ⟨x, h, rfl⟩, WideAt.sameKey_self trivial⟩
theorem SnN_tidy (xs : List Int) (k : Nat) : Tidy (SnN xs k) := tidy_fold _ _ _ tidy_empty (ksN_key xs k)
theorem SnN_size (xs : List Int) (hxs : ∀ y ∈ xs, (Lit.int .i64 y).wf = true) : ∀ k, k ≤ xs.length → Maps.size (SnN xs k) ≤ k ∧ (Maps.size (SnN xs k) = k ↔ (xs.take k).Nodup) := by
  intro k
  induction k with
  | zero => intro _; rw [SnN_zero]; exact ⟨Nat.le_refl _, by simp [Maps.size]⟩
  | succ k ih =>
    intro hk
    obtain ⟨h1, h2⟩ := ih (by omega)
    have hx : (Lit.int .i64 (xs.getD k 0)).wf = true := hxs _ (by rw [List.getD, List.getElem?_eq_getElem (by omega)]; exact List.getElem_mem _)
    have hh := SnN_has xs k _ hx hxs
    rw [SnN_succ xs k (by omega), size_put (SnN_tidy xs k), take_snoc xs k (by omega)]
    by_cases hm : xs.getD k 0 ∈ xs.take k
    · rw [if_pos (hh.2 hm)]
      refine ⟨by omega, ⟨fun h => by omega, fun h => ?_⟩⟩
      rw [List.nodup_append] at h
      exact absurd rfl (h.2.2 _ hm _ (by simp))
    · rw [if_neg (fun h => hm (hh.1 h))]
      refine ⟨by omega, ⟨fun h => ?_, fun h => ?_⟩⟩
      · rw [List.nodup_append]
        refine ⟨h2.1 (by omega), by simp, fun a ha b hb e => ?_⟩
        simp at hb
        exact hm (by rw [List.getD]; rw [hb] at e; rw [← e]; exact ha)
      · rw [List.nodup_append] at h
        have := h2.2 h.1
        omega
def difB (xs : List Int) : Bool := decide xs.Nodup
set_option maxRecDepth 100000 in
set_option maxHeartbeats 1600000 in
theorem areDifferent_any (a : Option Addr) (n c : Nat) (xs : List Int) (w : World) (hs : SL w a n c xs) (hn : n ≤ 1000) (hxs : ∀ y ∈ xs, (Lit.int .i64 y).wf = true) :
    Calls Try.prog 131 #[.slice a n c] w fun e w' => e = .returned (.bool (difB xs)) ∧ Below w.heap.size w w' := by
  have hl := hide hs.len
  have Hx := hide hxs
  have hmm := @run_makeMap Try.prog
  have fin : ∀ m : Nat, m = n → Hid ((((Maps.size (SnN xs m) : Nat) : Int) == (n : Int)) = difB xs) := fun m e => hide (by
    subst e
    have h := (SnN_size xs hxs m (by rw [hl.out]; exact Nat.le_refl _)).2
    rw [List.take_of_length_le (by rw [hl.out]; exact Nat.le_refl _)] at h
    unfold difB
    by_cases hd : xs.Nodup
    · rw [decide_eq_true hd]; simp [h.2 hd]
    · rw [decide_eq_false hd]; simp; intro e; exact hd (h.1 (by omega)))
  clear hxs
  go_enter Try.func131, Try.ntmps131
  go_wp2
  go_loopw [8] (fun i wr => ∃ k : Nat, k ≤ n ∧ i = .int .i64 k ∧ Hid (wr.ownsMap Try.prog 97 (plainElem Try.prog 4) w.heap.size k (SnN xs k)) ∧ Below w.heap.size w wr) (fun i _ => n - (intOf i).toNat)
  case atStart => exact ⟨0, Nat.zero_le _, rfl, hide (by rw [SnN_zero]; exact World.ownsMap_made _ _ _ _), (Below.refl _ _).alloc (Nat.le_refl _) _⟩
  case round =>
    obtain ⟨k, hk, rfl, hown, hb⟩ := hrel
    by_cases hlt : k < n
    · have hlt' : (k : Int) < (n : Int) := by omega
      obtain ⟨x, hx⟩ : ∃ x, xs.getD k 0 = x := ⟨_, rfl⟩
      have hwf : (Lit.int .i64 x).wf = true := by
        rw [← hx]
        refine Hx.out _ ?_
        rw [List.getD, List.getElem?_eq_getElem (by rw [hl.out]; exact hlt)]
        exact List.getElem_mem _
      have hkey := keyN hwf
      have hst : Hid (SnN xs (k + 1) = (SnN xs k).put (kN x) (.lit (.bool true))) := hide (by rw [← hx]; exact SnN_succ xs k (by rw [hl.out]; exact hlt))
      have HX := hide hx
      clear hx
      go_wp2_with fail
      refine (numberAt_v _ n c k _ xs x _ (hs.below hb) hlt rfl (by omega) HX.out).mono ?_
      rintro e w2 ⟨rfl, hb2⟩
      have hown2 : w2.ownsMap Try.prog 97 (plainElem Try.prog 4) w.heap.size k (SnN xs k) := by
        obtain ⟨es, clock, h1, h2⟩ := hown.out
        exact ⟨es, clock, (hb2.block _ (lt_of_block h1)).trans h1, h2⟩
      have Hown2 := hide hown2
      have hb3 := hb.trans (hb2.mono hb.size)
      clear hown hown2
      go_wp2_with (at_mapUpdate; refine wpList_mapUpdate_own _ rfl _ _ _ 156 rfl 97 4 keyedN Try.underlying156 (plainElem (H := Unit) Try.prog 4) w.heap.size k _ rfl Hown2.out (by unfold maxLen; omega) _ _ _ rfl rfl hkey _ [] (plainElem_bool Try.underlying4 true) ?_; intro w3 hown3 hgrow3)
      have hown4 := hide hown3
      rw [← hst.out] at hown4
      have hb4 := hb3.grown hgrow3 hb3.size (fun j hj => by cases hj; exact Nat.le_refl _)
      clear hown3 hgrow3
      go_wp2
      go_roundw
      case rel => exact ⟨k + 1, by omega, by go_num, hown4, hb4⟩
      case measure => simp [intOf]; omega
    · have hkn : k = n := by omega
      have hF := fin k hkn
      have Hkn := hide hkn
      have hlt' : ¬ (k : Int) < (n : Int) := by omega
      clear hkn
      go_wp2_with (at_len; refine wpList_len_own _ rfl _ 156 rfl 97 4 Try.underlying156 (plainElem (H := Unit) Try.prog 4) w.heap.size k _ rfl hown.out ?_)
      go_ret
      exact ⟨ret_bool hF.out, hb⟩
end Go.Proofs.Ytkpmonopjkjflaa
