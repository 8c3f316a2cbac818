/- Merged texts. -/
import Derived.Test.YtkpmonopjkjflaaYC511
import Derived.Deep.RegionWith
import Derived.Deep.DeepCutAuto
/- Contracts: l01Divide (model). -/
namespace Go.Proofs.Ytkpmonopjkjflaa
open Go.RowKit
set_option linter.unusedVariables false
set_option linter.unusedSimpArgs false

/-- A new row of zeros. -/
def zrow (n : Nat) : Array Value := ((List.replicate n (0 : Int)).map (Value.int .i64)).toArray
set_option maxRecDepth 100000 in
theorem run_mk (n : Nat) (hn : n ≤ 4000000) : ∀ W : World, (Instr.makeSlice 22 (.int .i64 (n : Int)) (.int .i64 (n : Int))).run Try.prog W = .ok (.slice (some ⟨W.heap.size, 0, none⟩) n n) (W.alloc (.cells (zrow n) 2)) := by
  intro W
  obtain ⟨i0, hi, hz0, hz1, hz2⟩ := info_parts infoI
  have hr := run_make (P := Try.prog) W 22 2 i0 (.int .i64 0) Try.underlying22 hi hz0 .i64 .i64 n n (by omega) (by omega) (by rw [hz2]; omega) (by omega)
  simp only [Int.toNat_natCast] at hr
  rw [hr, hz1, Nat.mul_one]
  congr 2
  have e : madeCells (Value.int IntKind.i64 0).cells n = zrow n := by
    have : (madeCells (Value.int IntKind.i64 0).cells n).toList = (zrow n).toList := by
      rw [Value.cells.eq_def]
      simp [toList_madeCells_one, zrow]
    exact Array.toList_inj.1 this
  rw [e]
theorem zrow_row (W : World) (n : Nat) : RowI (W.alloc (.cells (zrow n) 2)) W.heap.size (tab n (fun _ => 0)) := by
  unfold RowI
  rw [← tab_zero]
  exact heap_alloc_new W _
set_option maxRecDepth 100000 in
set_option maxHeartbeats 3200000 in
theorem l01Divide_short (p : Int) (a1 : Option Addr) (n1 c1 : Nat) (f : List Int) (a2 : Option Addr) (n2 c2 : Nat) (g : List Int) (w : World) (h1 : SL w a1 n1 c1 f) (h2 : SL w a2 n2 c2 g)
    (b1 : n1 ≤ 1000) (b2 : n2 ≤ 1000) (hn : n1 < n2) :
    Calls Try.prog 128 #[.int .i64 p, .slice a1 n1 c1, .slice a2 n2 c2] w (Pair w (quoM p f g) (remM p f g)) := by
  have hl1 := hide h1.len
  have hl2 := hide h2.len
  have hs := quoM_short (p := p) (f := f) (g := g) (by rw [hl1.out, hl2.out]; exact hn)
  have Hq := hide hs.1
  have Hr := hide hs.2
  clear hs
  have hn' : (n1 : Int) < (n2 : Int) := by omega
  go_enter Try.func128, Try.ntmps128
  go_wp2_with fail
  refine (l01Own_any _ _ _ f _ h1 (by omega)).mono ?_
  rintro e w2 ⟨a', c', rfl, hown, hb2⟩
  go_wp2
  go_ret2
  exact Pair.mk (M := w.heap.size) (by rw [Hq.out]; rfl) (by rw [Hr.out, hl1.out]) ⟨by rw [Hq.out]; exact ⟨rfl, ⟨Nat.le_refl _, fun h => by cases h⟩, .inl rfl⟩, .inl rfl⟩
    (by rw [Hr.out]; exact (OZ.of (hown.below (bl1 _ _)) hl1.out.symm)) (Nat.le_refl _) (by have := hb2.size; simp; omega) (hb2.alloc hb2.size _)
set_option maxRecDepth 100000 in
set_option maxHeartbeats 6400000 in
theorem l01Divide_long (p : Int) (a1 : Option Addr) (n1 c1 : Nat) (f : List Int) (a2 : Option Addr) (n2 c2 D : Nat) (g : List Int) (w : World) (h1 : SL w a1 n1 c1 f) (h2 : SL w a2 n2 c2 g)
    (b1 : n1 ≤ 1000) (hD1 : D + n2 ≤ n1) (hD2 : n1 ≤ D + n2) (hn : 0 < n2) (hp : 2 ≤ p) (hp2 : p ≤ 10007) (hf : areB p f = true) (hg : areB p g = true) :
    Calls Try.prog 128 #[.int .i64 p, .slice a1 n1 c1, .slice a2 n2 c2] w (Pair w (quoM p f g) (remM p f g)) := by
  have hl1 := hide h1.len
  have hl2 := hide h2.len
  obtain ⟨b, off, ha, hbw, hcell⟩ := h2.at (by omega)
  have hc := hcell (n2 - 1) (by omega)
  have hr := getD_rng hg hp (n2 - 1)
  obtain ⟨x, hx⟩ : ∃ x, g.getD (n2 - 1) 0 = x := ⟨_, rfl⟩
  obtain ⟨inv, hinv⟩ : ∃ inv, invM p x = inv := ⟨_, rfl⟩
  have hq := quoM_long (p := p) (inv := inv) (f := f) (g := g) (D := D) hl2.out (by rw [hl1.out]; omega) (by rw [hx, hinv])
  have Hq := hide hq.1
  have Hr := hide hq.2
  have hi := invM_rng x hp
  rw [hinv] at hi
  obtain ⟨i1, i2⟩ := hi
  rw [hx] at hc hr
  subst ha
  have Hf := hide hf
  have Hg := hide hg
  have Hinv := hide hinv
  have HD : Hid (f.length = D + g.length) := hide (by rw [hl1.out, hl2.out]; omega)
  obtain ⟨r1, r2⟩ := hr
  clear hcell hx hq hf hg hinv
  have hn' : ¬ (n1 : Int) < (n2 : Int) := by omega
  go_enter Try.func128, Try.ntmps128
  go_wp2_with fail
  refine (l01Own_any _ _ _ f _ h1 (by omega)).mono ?_
  rintro e w2 ⟨a', c', rfl, hown, hb2⟩
  have hc2 : w2.cell? ⟨b, off + (n2 - 1), none⟩ = some (.int .i64 x) := cell_be hb2 hc
  have hc3 := cell_al hc2
  obtain ⟨G, ha', hG1, hG2, hGc⟩ := hown.blkG (by rw [hl1.out]; omega)
  subst ha'
  clear hc
  obtain ⟨K, hK⟩ : ∃ K, D + 1 = K := ⟨_, rfl⟩
  have hmk := run_mk K (by omega)
  have v1 : IntKind.i64.wrap ((n1 : Int) - (n2 : Int)) = (n1 : Int) - (n2 : Int) := IntWalk.i64_in _ (by omega)
  have v2 : IntKind.i64.wrap ((n1 : Int) - (n2 : Int) + 1) = (K : Int) := by rw [IntWalk.i64_in _ (by omega)]; omega
  have HK := hide hK
  have hKl : K ≤ 4000000 := by omega
  clear hK
  have v3 : IntKind.i64.wrap ((n2 : Int) - 1) = (n2 : Int) - 1 := IntWalk.i64_in _ (by omega)
  have v4 : ((n2 : Int) - 1).toNat = n2 - 1 := by omega
  go_upto_region 4 with fail
  go_cut [10, 11] (fun s10 s11 wx => s10 = .slice (some ⟨w2.heap.size, 0, none⟩) K K ∧ s11 = .int .i64 inv ∧ Hid (RowI wx w2.heap.size (tab K (fun _ => 0))) ∧ Below w2.heap.size w2 wx ∧ w2.heap.size < wx.heap.size)
  case first =>
    go_region_with (go_at_call 96; refine (l01Inverse_any p x _ hp hp2 r1 r2).mono ?_; rintro e w3 ⟨rfl, rfl⟩)
    all_goals
      go_wp2
      go_meet
      exact ⟨rfl, by rw [Hinv.out], hide (zrow_row w2 K), (bl1 w2 _).drew, by simp⟩
  case rest =>
    obtain ⟨rfl, rfl, hQ0, hBq, hsq⟩ := hcut
    clear hmk v1 v2 v3 v4 hc2 hc3
    have hQ1 : Hid (RowI wc w2.heap.size (tab K (divQ p inv f g D 0))) := hide (by
      rw [← HK.out, divQ_zero, HK.out]
      exact hQ0.out)
    have hR1 : Hid (Own w.heap.size wc (some ⟨G, 0, none⟩) c' (tab n1 (divR p inv f g D 0))) := hide (by
      have e : f = tab n1 (divR p inv f g D 0) := tab_of f n1 hl1.out
      rw [← e]
      exact hown.below hBq)
    have hB1 := bnext hb2 hBq
    have hw2 := hb2.size
    have hK1 : K ≤ D + 1 := by have := HK.out; omega
    have hK2 : D + 1 ≤ K := by have := HK.out; omega
    have hst : (n1 : Int) - (n2 : Int) = (D : Int) - ((0 : Nat) : Int) := by omega
    have Hst := hide hst
    clear hQ0 hBq hown hb2 hst
    go_wp2
    go_loopw [12] (fun v wr => ∃ i : Nat, i ≤ D + 1 ∧ v = .int .i64 ((D : Int) - (i : Int)) ∧ Hid (RowI wr w2.heap.size (tab K (divQ p inv f g D i))) ∧ Hid (Own w.heap.size wr (some ⟨G, 0, none⟩) c' (tab n1 (divR p inv f g D i))) ∧ Below w.heap.size w wr ∧ w2.heap.size < wr.heap.size) (fun v _ => (intOf v + 1).toNat)
    case atStart => exact ⟨0, by omega, by rw [← Hst.out], hQ1, hR1, hB1, hsq⟩
    case round =>
      obtain ⟨i, hi, rfl, hQ, hR, hBr, hsr⟩ := hrel
      clear hQ1 hR1 hB1 hsq
      by_cases hge : i ≤ D
      · obtain ⟨at', hat⟩ : ∃ at', D = at' + i := ⟨D - i, by omega⟩
        have hDi : D - i = at' := by omega
        have e0 := divQ_step p inv f g D i hge
        obtain ⟨q, hq⟩ : ∃ q, divN p inv f g D i = q := ⟨_, rfl⟩
        have hqr := divN_rng (inv := inv) (f := f) (g := g) (D := D) (i := i) hp
        have hqdef : Hid (divR p inv f g D i (at' + n2 - 1) * inv % p = q) := hide (by rw [← hq]; unfold divN; rw [hDi, hl2.out])
        have hnext : Hid (divR p inv f g D (i + 1) = divS p q g (divR p inv f g D i) at' n2) := hide (by
          rw [divR]
          have e : divR p inv f g D i (D - i + g.length - 1) * inv % p = q := hq
          rw [e, hDi, hl2.out])
        rw [hDi, hq, HK.out] at e0
        rw [hq] at hqr
        have hQn := hQ.out.set at' q
        rw [e0] at hQn
        have hQn' := hide hQn
        have t1 := hR.out.cellG (at' + n2 - 1) (by rw [tab_len]; omega)
        rw [tab_at _ _ _ (by omega)] at t1
        have t2 := divR_rng (inv := inv) (g := g) (D := D) hp Hf.out i (at' + n2 - 1)
        obtain ⟨z, hzd⟩ : ∃ z, divR p inv f g D i (at' + n2 - 1) = z := ⟨_, rfl⟩
        rw [hzd] at t1 t2 hqdef
        have t3 := hQ.out.cell at' (by rw [tab_len]; omega)
        have t4 := hQ.out.free at'
        obtain ⟨m1, m2⟩ := mulb t2.1 t2.2 i1 i2 hp2
        have hR0 : Hid (Own w.heap.size (wr.setCell ⟨w2.heap.size, at', none⟩ (.int .i64 q)) (some ⟨G, 0, none⟩) c' (tab n1 (divS p q g (divR p inv f g D i) at' 0))) := hide (by
          rw [divS_zero]
          exact hR.out.otherG (by simp [blk]; omega) _)
        have hBn := hBr.setCell (p := ⟨w2.heap.size, at', none⟩) (by simp; omega) (.int .i64 q)
        have hsn : w2.heap.size < (wr.setCell ⟨w2.heap.size, at', none⟩ (.int .i64 q)).heap.size := by simpa using hsr
        obtain ⟨q1, q2⟩ := hqr
        have hvi : (D : Int) - (i : Int) = (at' : Int) := by omega
        have hkt : ((at' : Int) + (n2 : Int) - 1).toNat = at' + n2 - 1 := by omega
        have a3' : D ≤ at' + i := by omega
        have a4' : at' + i ≤ D := by omega
        have hpos : (0 : Int) ≤ (at' : Int) := by omega
        have hatK : (at' : Int) < (K : Int) := by omega
        have hatn : (at' : Int) + (n2 : Int) - 1 < (n1 : Int) := by omega
        have hat0 : (0 : Int) ≤ (at' : Int) + (n2 : Int) - 1 := by omega
        have hvi2 : Hid ((D : Int) - ((i + 1 : Nat) : Int) = (at' : Int) - 1) := hide (by omega)
        rw [hvi]
        clear hQn e0 hq hzd hQ hR hat hDi hvi
        go_wp2
        rw [hqdef.out]
        clear t1 t2 t3 t4 hsr hBr hqdef m1 m2
        generalize wr.setCell ⟨w2.heap.size, at', none⟩ (.int .i64 q) = wo at hQn' hR0 hBn hsn ⊢
        go_loopw [14] (fun v wr => ∃ m : Nat, m ≤ n2 ∧ v = .int .i64 m ∧ Hid (RowI wr w2.heap.size (tab K (divQ p inv f g D (i + 1)))) ∧ Hid (Own w.heap.size wr (some ⟨G, 0, none⟩) c' (tab n1 (divS p q g (divR p inv f g D i) at' m))) ∧ Below w.heap.size w wr ∧ w2.heap.size < wr.heap.size) (fun v _ => n2 - (intOf v).toNat)
        case atStart => exact ⟨0, by omega, rfl, hQn', hR0, hBn, hsn⟩
        case round =>
          obtain ⟨m, hm, rfl, hQ, hR, hBr, hsr⟩ := hrel
          clear hQn' hR0 hBn hsn
          by_cases hlt : m < n2
          · obtain ⟨b', off', hb', hbw', hcell⟩ := (h2.below hBr).at (by omega)
            simp only [Option.some.injEq, Addr.mk.injEq, and_true] at hb'
            obtain ⟨rfl, rfl⟩ := hb'
            have e1 := hcell m hlt
            have e2 := hR.out.cellG (at' + m) (by rw [tab_len]; omega)
            rw [tab_at _ _ _ (by omega), divS_at] at e2
            have e4 := hR.out.freeG (at' + m)
            have e5 := hR.out.setG (at' + m) ((divR p inv f g D i (at' + m) - q * g.getD m 0) % p)
            rw [divS_step] at e5
            have e6 := hQ.out.other (b := G) (j := at' + m) (by omega) (.int .i64 ((divR p inv f g D i (at' + m) - q * g.getD m 0) % p))
            have s1 := divR_rng (inv := inv) (g := g) (D := D) hp Hf.out i (at' + m)
            have s2 := getD_rng Hg.out hp m
            obtain ⟨y, hy⟩ : ∃ y, g.getD m 0 = y := ⟨_, rfl⟩
            obtain ⟨z2, hz2⟩ : ∃ z2, divR p inv f g D i (at' + m) = z2 := ⟨_, rfl⟩
            rw [hy] at e1 e5 s2 e6
            rw [hz2] at e2 e5 s1 e6
            have E5 := hide e5
            have E6 := hide e6
            obtain ⟨s3, s4⟩ := s1
            obtain ⟨s5, s6⟩ := s2
            obtain ⟨m1, m2⟩ := mulb q1 q2 s5 s6 hp2
            have hlt' : (m : Int) < (n2 : Int) := by omega
            have hmg : (at' : Int) + (m : Int) < (n1 : Int) := by omega
            have hag : (0 : Int) ≤ (at' : Int) + (m : Int) := by omega
            have hkt2 : ((at' : Int) + (m : Int)).toNat = at' + m := by omega
            have bb1 : -9223372036854775808 ≤ z2 - q * y := by omega
            have bb2 : z2 - q * y ≤ 9223372036854775807 := by omega
            have v1 : IntKind.i64.wrap (q * y) = q * y := IntWalk.i64_in _ (by omega)
            have v2 : IntKind.i64.wrap (z2 - q * y) = z2 - q * y := IntWalk.i64_in _ (by omega)
            have v7 : IntKind.i64.wrap ((at' : Int) + (m : Int)) = (at' : Int) + (m : Int) := IntWalk.i64_in _ (by omega)
            clear e5 e6 hcell hy hz2
            go_wp2
            refine wp_region_still_tail 20 (by kernel_rfl) (by kernel_rfl) ?_
            simp only [List.take_succ_cons, List.take_zero, List.drop_succ_cons, List.drop_zero]
            repeat still_step
            still_call (still_of (l01Mod_any p (z2 - q * y) _ hp hp2 bb1 bb2))
            repeat still_step
            refine wpStill_nil ?_
            clear v1 v2 v7 hkt2 bb1 bb2
            go_wp2
            go_roundw
            case rel => exact ⟨m + 1, by omega, by go_num, E6, E5, (hBr.setCell (by simp; omega) _).drew, by simpa using hsr⟩
            case measure => simp [intOf]; omega
          · obtain rfl : m = n2 := by omega
            have hR' : Hid (Own w.heap.size wr (some ⟨G, 0, none⟩) c' (tab n1 (divR p inv f g D (i + 1)))) := hide (by rw [hnext.out]; exact hR.out)
            clear hR
            go_wp2
            go_roundw
            case rel => exact ⟨i + 1, by omega, by rw [hvi2.out], hQ, hR', hBr, hsr⟩
            case measure => simp [intOf]
      · obtain rfl : i = D + 1 := by omega
        have hneg : ¬ (0 : Int) ≤ (D : Int) - ((D + 1 : Nat) : Int) := by omega
        have hslq := hQ.out.slN (tab_len _ _)
        have hslr := hR.out.sl
        rw [tab_len] at hslr
        have hlq : Hid ((quoM p f g).length = (trimL (tab K (divQ p inv f g D (D + 1)))).length) := hide (by rw [Hq.out, HK.out])
        have hlr : Hid ((remM p f g).length = (trimL (tab n1 (divR p inv f g D (D + 1)))).length) := hide (by rw [Hr.out, show D + n2 = n1 by omega])
        have hsz : (D : Int) - ((D + 1 : Nat) : Int) = -1 := by omega
        rw [hsz]
        clear hQ hR hneg hsz
        go_wp2_with fail
        refine (l01Trim_any _ _ _ _ _ _ hslq (by omega)).mono ?_
        rintro e w4 ⟨a4, c4, rfl, ho4, hb4⟩
        go_wp2_with fail
        refine (l01Trim_any _ _ _ _ _ _ (hslr.below hb4) (by omega)).mono ?_
        rintro e w5 ⟨a5, c5, rfl, ho5, hb5⟩
        have oq : OZ w.heap.size w4.heap.size w5 a4 (trimL (tab K (divQ p inv f g D (D + 1)))).length c4 (quoM p f g) := by
          have h0 := (OZ.of ho4 rfl).below hb5
          have e : quoM p f g = trimL (tab K (divQ p inv f g D (D + 1))) := by rw [Hq.out, HK.out]
          rw [e]
          exact OZ.mono (lo := wr.heap.size) (hi := w4.heap.size) h0 (Nat.le_trans hw2 (Nat.le_of_lt hsr)) (Nat.le_refl _)
        have or : OZ w4.heap.size w5.heap.size w5 a5 (trimL (tab n1 (divR p inv f g D (D + 1)))).length c5 (remM p f g) := by
          have h0 := OZ.of ho5 rfl
          rw [Hr.out, show D + n2 = n1 by omega]
          exact h0
        have hz4 := hb4.size
        have hz5 := hb5.size
        have hBf := hBr.trans ((bnext hb4 hb5).mono hBr.size)
        clear ho4 ho5 hb4 hb5
        go_wp2
        go_ret2
        exact Pair.mk (M := w4.heap.size) hlq.out.symm hlr.out.symm oq or (by omega) hz5 hBf
end Go.Proofs.Ytkpmonopjkjflaa
/- Contracts: DividePolys (program and model). -/
namespace Go.Proofs.Ytkpmonopjkjflaa
open Go.RowKit
set_option linter.unusedVariables false
set_option linter.unusedSimpArgs false

/-- The three results of a call: two lists in zones of their own and a code. -/
def Res2 (w : World) (v u : List Int) (c : Int) (e : Ending) (w' : World) : Prop :=
  ∃ a1 c1 a2 c2, e = .returned (.tuple #[.slice a1 v.length c1, .slice a2 u.length c2, .int .i64 c]) ∧ ∃ lo hi lo2 hi2, (w.heap.size ≤ lo ∧ hi ≤ w'.heap.size ∧ w.heap.size ≤ lo2 ∧ hi2 ≤ w'.heap.size ∧ hi ≤ lo2) ∧
    OZ lo hi w' a1 v.length c1 v ∧ OZ lo2 hi2 w' a2 u.length c2 u ∧ v.length ≤ 100000 ∧ u.length ≤ 100000 ∧ Below w.heap.size w w'
theorem Res2.nil {w w' : World} {v u : List Int} {c c' : Int} (hv : v = []) (hu : u = []) (hc : c = c') (hb : Below w.heap.size w w') : Res2 w v u c (.returned (.tuple #[.slice none 0 0, .slice none 0 0, .int .i64 c'])) w' := by
  subst hv; subst hu; subst hc
  exact ⟨none, 0, none, 0, rfl, w.heap.size, w.heap.size, w.heap.size, w.heap.size, ⟨Nat.le_refl _, hb.size, Nat.le_refl _, hb.size, Nat.le_refl _⟩, ⟨SL.nil _, .inl rfl⟩, ⟨SL.nil _, .inl rfl⟩, by simp, by simp, hb⟩
theorem Res2.mk {w w1 w' : World} {v u q r : List Int} {c c' : Int} {a1 a2 : Option Addr} {n1 n2 c1 c2 M : Nat} (hv : v = q) (hu : u = r) (hc : c = c') (h1 : n1 = q.length) (h2 : n2 = r.length) (o1 : OZ w1.heap.size M w' a1 n1 c1 q) (o2 : OZ M w'.heap.size w' a2 n2 c2 r)
    (hw : w.heap.size ≤ w1.heap.size) (hM : w1.heap.size ≤ M) (hM' : M ≤ w'.heap.size) (hlq : q.length ≤ 100000) (hlr : r.length ≤ 100000) (hb : Below w.heap.size w w') : Res2 w v u c (.returned (.tuple #[.slice a1 n1 c1, .slice a2 n2 c2, .int .i64 c'])) w' := by
  subst hv; subst hu; subst hc; subst h1; subst h2
  exact ⟨a1, c1, a2, c2, rfl, w1.heap.size, M, M, w'.heap.size, ⟨hw, hM', by omega, Nat.le_refl _, Nat.le_refl _⟩, o1, o2, hlq, hlr, hb⟩
def divC (p : Int) (f g : List Int) : Int := if chk2 p f g = 0 then (if g.isEmpty then 5 else 0) else chk2 p f g
def divV (p : Int) (f g : List Int) : List Int := if divC p f g = 0 then quoM p f g else []
def divU (p : Int) (f g : List Int) : List Int := if divC p f g = 0 then remM p f g else []
theorem trimL_le (xs : List Int) : (trimL xs).length ≤ xs.length := by rw [trimL_len]; exact trimN_le _ _
theorem quoM_len (p : Int) (f g : List Int) : (quoM p f g).length ≤ f.length + 1 := by
  unfold quoM
  split
  · simp
  · refine Nat.le_trans (trimL_le _) ?_
    rw [tab_len]; omega
theorem remM_len (p : Int) (f g : List Int) : (remM p f g).length ≤ f.length := by
  unfold remM
  split
  · exact Nat.le_refl _
  · refine Nat.le_trans (trimL_le _) ?_
    rw [tab_len]
    exact Nat.le_refl _
theorem poly_last {p : Int} {f : List Int} {n : Nat} (h : polyB p f = true) (hl : f.length = n) (hn : 0 < n) : f.getD (n - 1) 0 ≠ 0 := by
  rcases (polyB_rng h).2.2 with h | h
  · subst h; simp at hl; omega
  · rwa [hl] at h
/-- 'divide' of polynomials, g other than 0. -/
theorem divide_any (p : Int) (a1 : Option Addr) (n1 c1 : Nat) (f : List Int) (a2 : Option Addr) (n2 c2 : Nat) (g : List Int) (w : World) (h1 : SL w a1 n1 c1 f) (h2 : SL w a2 n2 c2 g)
    (b1 : n1 ≤ 1000) (b2 : n2 ≤ 1000) (hn : 0 < n2) (hpr : primeB p = true) (hf : polyB p f = true) (hg : polyB p g = true) :
    Calls Try.prog 129 #[.int .i64 p, .slice a1 n1 c1, .slice a2 n2 c2] w (Pair w (quoM p f g) (remM p f g)) := by
  have hp := primeB_lo hpr
  by_cases h : n1 < n2
  · exact divide_short p a1 n1 c1 f a2 n2 c2 g w h1 h2 b1 b2 h hp.1 hp.2 (polyB_rng hg).2.1
  · exact divide_long p a1 n1 c1 f a2 n2 c2 (n1 - n2) g w h1 h2 b1 (by omega) (by omega) hn hpr (polyB_rng hf).2.1 (polyB_rng hg).2.1 (poly_last hf h1.len (by omega)) (poly_last hg h2.len hn)
theorem l01Divide_any (p : Int) (a1 : Option Addr) (n1 c1 : Nat) (f : List Int) (a2 : Option Addr) (n2 c2 : Nat) (g : List Int) (w : World) (h1 : SL w a1 n1 c1 f) (h2 : SL w a2 n2 c2 g)
    (b1 : n1 ≤ 1000) (b2 : n2 ≤ 1000) (hn : 0 < n2) (hpr : primeB p = true) (hf : polyB p f = true) (hg : polyB p g = true) :
    Calls Try.prog 128 #[.int .i64 p, .slice a1 n1 c1, .slice a2 n2 c2] w (Pair w (quoM p f g) (remM p f g)) := by
  have hp := primeB_lo hpr
  by_cases h : n1 < n2
  · exact l01Divide_short p a1 n1 c1 f a2 n2 c2 g w h1 h2 b1 b2 h
  · exact l01Divide_long p a1 n1 c1 f a2 n2 c2 (n1 - n2) g w h1 h2 b1 (by omega) (by omega) hn hp.1 hp.2 (polyB_rng hf).2.1 (polyB_rng hg).2.1
end Go.Proofs.Ytkpmonopjkjflaa
