/- Contracts: TurningSums (program, model). -/
import Derived.Test.YtcadiepghhnbeaaXg
import Derived.Test.YtcadiepghhnbeaaCs
namespace Go.Proofs.Ytcadiepghhnbeaa
open Go.RowKit
set_option linter.unusedVariables false
set_option linter.unusedSimpArgs false

theorem rowP_takes (p : Int) (xs ys : List Int) (m i n : Nat) : rowP p (xs.take m) (ys.take m) m i n = rowP p xs ys m i n :=
  rowP_congr p _ _ _ _ m i (fun j hj => by rw [List.getD_eq_getElem?_getD, List.getElem?_take_of_lt hj, ← List.getD_eq_getElem?_getD]) (fun j hj => by rw [List.getD_eq_getElem?_getD, List.getElem?_take_of_lt hj, ← List.getD_eq_getElem?_getD]) n
theorem sumP_rng {p : Int} (hp : 2 ≤ p) (A B : List Int) (m i n k : Nat) : 0 ≤ sumP p A B m i n k ∧ sumP p A B m i n k < p := rowP_rng hp A B m i n k
def trnF (p : Int) (xs ys : List Int) (n h : Nat) : Int := (sumP p xs ys (h + 1) 0 n 0 - sumP p xs ys h 0 n 0) % p
theorem trn_eq (p x y : Int) : (x + (p - 1) * y) % p = (x - y) % p := by
  rw [show x + (p - 1) * y = x - y + p * y by rw [Int.sub_mul, Int.one_mul]; omega]
  exact Int.add_mul_emod_self_left _ _ _
def trnC (p : Int) (xs ys : List Int) (k : Int) : Int := jcd p xs ys k 0 24
def trnV (p : Int) (xs ys : List Int) (k : Int) : List Int := if trnC p xs ys k = 0 then tab xs.length (trnF p xs ys k.toNat) else []
set_option maxRecDepth 100000 in
set_option maxHeartbeats 3200000 in
theorem implTurningSums (p : Int) (a : Option Addr) (n c : Nat) (xs : List Int) (b : Option Addr) (m d : Nat) (ys : List Int) (k : Int) (w : World) (hs : SL w a n c xs) (ht : SL w b m d ys) (hn : n ≤ 4000000) (hm : m ≤ 4000000) :
    Calls Try.prog 43 #[jac p a n c b m d, .int .i64 k] w (Res1 w (trnV p xs ys k) (trnC p xs ys k)) := by
  have hl := hide hs.len
  have hl2 := hide ht.len
  have hb0 := bl1 w (.cells #[.int .i64 p, .slice a n c, .slice b m d] 45)
  have g1 := hs.below hb0
  have g2 := ht.below hb0
  rcases jcd_cases p xs ys k 0 24 with hj | hj | ⟨hj, hJ, k0, k1⟩
  all_goals try (
    have HC := hide hj
    have HE := hide (show trnC p xs ys k = jcd p xs ys k 0 24 from rfl)
    rw [hj] at HE
    have HV := hide (show trnV p xs ys k = [] by unfold trnV; rw [if_neg (by rw [HE.out]; decide)])
    clear hj
    go_enter Try.func43, Try.ntmps43
    go_wp2_with fail
    refine (checkJacobi_any p a n c xs b m d ys k 0 24 _ _ g1 g2 hn hm HC.out).mono ?_
    rintro e w1 ⟨rfl, t1⟩
    go_wp2
    refine bodyPost_ret (by simp [results, Try.results43, go_sem]; rfl) rfl ?_
    exact Res1.nil HV.out HE.out (bnext hb0 t1))
  obtain ⟨hpr, l1, l12, l2, hax, hay⟩ := jacB_rng hJ
  obtain ⟨hp, hp2⟩ := primeB_lo hpr
  obtain rfl : m = n := by rw [← hl2.out, ← hl.out]; omega
  rw [hl.out] at l1 l12
  have HC := hide hj
  have HGW := hide (jac_gw hJ)
  have HE := hide (show trnC p xs ys k = 0 from hj)
  obtain ⟨N, rfl⟩ : ∃ N : Nat, k = N := ⟨k.toNat, by omega⟩
  have HV := hide (show trnV p xs ys N = tab m (trnF p xs ys N) by unfold trnV; rw [if_pos HE.out, hl.out]; rfl)
  have n24 : N ≤ 24 := by omega
  clear hj hJ hpr hax hay l2
  go_enter Try.func43, Try.ntmps43
  go_wp2_with fail
  refine (checkJacobi_any p a m c xs b m d ys N 0 24 _ _ g1 g2 hm hm HC.out).mono ?_
  rintro e w1 ⟨rfl, t1⟩
  have B1 := bnext hb0 t1
  have e0 : w1.cell? ⟨w.heap.size, 0, none⟩ = some (.int .i64 p) := cell_be t1 (by simp [go_sem])
  have e1 : w1.cell? ⟨w.heap.size, 1, none⟩ = some (.slice a m c) := cell_be t1 (by simp [go_sem])
  have e2 : w1.cell? ⟨w.heap.size, 2, none⟩ = some (.slice b m d) := cell_be t1 (by simp [go_sem])
  clear hb0 t1 g1 g2
  go_wp2_with fail
  refine (sizeOf_any p a m c b m d _ hm).mono ?_
  rintro e w2 ⟨rfl, t2⟩
  have B2 := bnext B1 t2
  replace e0 := cell_be t2 e0
  replace e1 := cell_be t2 e1
  replace e2 := cell_be t2 e2
  have E0 := hide (And.intro e0 (And.intro e1 e2))
  have HB2 := hide B2
  have Z0 := hide (Own.nil (w.heap.size + 1) w2)
  have Zs : w.heap.size + 1 ≤ w2.heap.size := World.block_lt_of_cell? _ _ e0
  have ZL := hide (show sumP p xs ys 0 0 N 0 = 0 from sumP_out p xs ys 0 0 N 0 (.inl (by omega)))
  clear t2 B1 B2 e0 e1 e2
  go_wp2_with fail
  go_loopw [7, 8, 19] (fun sv lv iv wr => ∃ (t : Nat) (a' : Option Addr) (c' : Nat) (L : Int), t ≤ m ∧ iv = .int .i64 t ∧ sv = .slice a' t c' ∧ lv = .int .i64 L ∧ Hid (sumP p xs ys t 0 N 0 = L) ∧ Hid (Own (w.heap.size + 1) wr a' c' (tab t (trnF p xs ys N))) ∧ Hid (Below w.heap.size w wr) ∧ Hid (wr.cell? ⟨w.heap.size, 0, none⟩ = some (.int .i64 p) ∧ wr.cell? ⟨w.heap.size, 1, none⟩ = some (.slice a m c) ∧ wr.cell? ⟨w.heap.size, 2, none⟩ = some (.slice b m d)) ∧ w.heap.size + 1 ≤ wr.heap.size) (fun _ _ iv _ => m - (intOf iv).toNat)
  case atStart => exact ⟨0, none, 0, 0, by omega, rfl, rfl, rfl, ZL, Z0, HB2, E0, Zs⟩
  case round =>
    obtain ⟨t, a', c', L, htm, rfl, rfl, rfl, hL, hO, hW, hF, hzr⟩ := hrel
    clear Z0 ZL HB2 E0 Zs
    by_cases hlt : t < m
    · have hlt' : (t : Int) < (m : Int) := by omega
      obtain ⟨f0, f1, f2⟩ := hF.out
      have s1 := hide (hs.below hW.out)
      have s2 := hide (ht.below hW.out)
      have v1 : IntKind.i64.wrap ((t : Int) + 1) = ((t + 1 : Nat) : Int) := by rw [show ((t : Int) + 1) = ((t + 1 : Nat) : Int) by omega]; exact IntWalk.i64_in _ (by omega)
      have zw := hW.out.size
      go_wp2_with fail
      refine (partOf_any p a m c xs b d ys 0 (t + 1) _ s1.out s2.out (by omega) (by omega) hm).mono ?_
      rintro e w3 ⟨a3, c3, b3, d3, rfl, ho, t3⟩
      simp only [Nat.sub_zero, List.drop_zero] at ho ⊢
      have Ho := hide ho
      replace f0 := cell_be t3 f0
      replace f1 := cell_be t3 f1
      replace f2 := cell_be t3 f2
      clear ho v1
      go_wp2_with fail
      refine (groundOf_any p a3 (t + 1) c3 b3 (t + 1) d3 _).mono ?_
      rintro e w4 ⟨rfl, t4⟩
      have S3 := hide ((JZ.sl1 Ho.out).below t4)
      have S4 := hide ((JZ.sl2 Ho.out).below t4)
      replace f0 := cell_be t4 f0
      replace f1 := cell_be t4 f1
      replace f2 := cell_be t4 f2
      have hgw := hide (show GW p (xs.take (t + 1)) (ys.take (t + 1)) from by
        have tk : ∀ (f : List Int) (j : Nat), (f.take (t + 1)).getD j 0 = f.getD j 0 ∨ (f.take (t + 1)).getD j 0 = 0 := fun f j => by
          by_cases h : j < t + 1
          · left; rw [List.getD_eq_getElem?_getD, List.getElem?_take_of_lt h, ← List.getD_eq_getElem?_getD]
          · right; rw [List.getD_eq_getElem?_getD, List.getElem?_eq_none (by simp; omega)]; rfl
        refine ⟨HGW.out.lo, HGW.out.hi, fun j => ?_, fun j => ?_⟩
        · rcases tk xs j with q | q <;> rw [q]
          · exact HGW.out.a0 j
          · omega
        · rcases tk ys j with q | q <;> rw [q]
          · exact HGW.out.b0 j
          · omega)
      have t34 := t3.trans (t4.mono t3.size)
      clear t3 t4
      go_wp2_with fail
      refine (sum_any p a3 (t + 1) c3 (xs.take (t + 1)) b3 d3 (ys.take (t + 1)) 0 N 0 _ S3.out S4.out (by omega) (by omega) (by omega) (by omega) hgw.out).mono ?_
      rintro e w5 ⟨rfl, t5⟩
      rw [show sumP p (xs.take (t + 1)) (ys.take (t + 1)) (t + 1) 0 N 0 = sumP p xs ys (t + 1) 0 N 0 by unfold sumP; rw [rowP_takes]]
      have rL := sumP_rng hp xs ys t 0 N 0
      have rS := sumP_rng hp xs ys (t + 1) 0 N 0
      have hT := hide (show trnF p xs ys N t = (sumP p xs ys (t + 1) 0 N 0 + (p - 1) * sumP p xs ys t 0 N 0) % p from (trn_eq p _ _).symm)
      rw [hL.out] at rL hT
      obtain ⟨S, hS⟩ : ∃ S, sumP p xs ys (t + 1) 0 N 0 = S := ⟨_, rfl⟩
      rw [hS] at rS hT ⊢
      have HS := hide hS
      obtain ⟨m1, m2⟩ := mulb (p := p) (x := p - 1) (y := L) (by omega) (by omega) rL.1 rL.2 hp2
      replace f0 := cell_be t5 f0
      replace f1 := cell_be t5 f1
      replace f2 := cell_be t5 f2
      have t345 := t34.trans (t5.mono t34.size)
      have vp : IntKind.i64.wrap (p - 1) = p - 1 := IntWalk.i64_in _ (by omega)
      clear hS t34 t5
      go_wp2_with fail
      refine (addNumber_w p S (p - 1) L _ hp rS.1 (by omega) m1 (by omega)).mono ?_
      rintro e w6 ⟨rfl, rfl⟩
      rw [← hT.out]
      obtain ⟨z, hz⟩ : ∃ z, trnF p xs ys N t = z := ⟨_, rfl⟩
      rw [hz]
      have Hz := hide hz
      have hB5 := hW.out.trans (t345.mono hW.out.size)
      have hz5 : w.heap.size + 1 ≤ w5.heap.size := by have := t345.size; omega
      have hba := bl1 w5 (.cells #[.int .i64 z] 2)
      have hOa := hide ((hO.out.below t345).below hba)
      have z5 := hB5.size
      have hF5 := hide (And.intro (cell_be hba f0) (And.intro (cell_be hba f1) (cell_be hba f2)))
      clear hz t345 f0 f1 f2 hO hF vp
      have hz6 : w.heap.size + 1 ≤ (w5.alloc (.cells #[.int .i64 z] 2)).heap.size := by simp; omega
      go_wp2_with (at_builtin; refine wp_append rfl _ _ rfl (w.heap.size + 1) _ t _ (tab t (trnF p xs ys N)) rfl (tab_len _ _).symm hOa.out _ 1 1 [z] rfl (litSL w5 z) (by omega) hz6 ?_; intro ad' cap' w7 hown hb7)
      have Hown := hide (show Own (w.heap.size + 1) w7 ad' cap' (tab (t + 1) (trnF p xs ys N)) by have q := hown; rwa [← Hz.out, tab_snoc] at q)
      have cb : ∀ {o : Nat} {v : Value}, (w5.alloc (.cells #[.int .i64 z] 2)).cell? ⟨w.heap.size, o, none⟩ = some v → w7.cell? ⟨w.heap.size, o, none⟩ = some v := fun h => (hb7.cell (Nat.lt_succ_self _)).trans h
      have hF7 := hide (And.intro (cb hF5.out.1) (And.intro (cb hF5.out.2.1) (cb hF5.out.2.2)))
      have hW7 := hide ((hB5.trans (hba.mono z5)).trans (hb7.mono (Nat.le_succ _)))
      have hz7 : w.heap.size + 1 ≤ w7.heap.size := Nat.le_trans hz6 hb7.size
      clear hown hb7 cb hF5 hOa hB5 hba
      go_roundw
      case rel => exact ⟨t + 1, ad', cap', S, by omega, by go_num, by rw [tab_len], rfl, HS, Hown, hW7, hF7, hz7⟩
      case measure => simp [intOf]; omega
    · have htm2 : Hid (t = m) := hide (by omega)
      have hge : ¬ (t : Int) < (m : Int) := by omega
      go_wp2
      refine bodyPost_ret (v := .tuple #[.slice a' t c', .int .i64 0]) (by simp [results, Try.results43, go_sem]) rfl ?_
      exact Res1.own HE.out (by rw [HV.out, tab_len, htm2.out]) (by rw [HV.out, ← htm2.out]; exact hO.out.mono (by omega)) (by rw [HV.out, tab_len]; omega) hW.out
theorem l9C_nil (p : Int) (xs ys : List Int) (n : Int) : l9C p xs ys n [] = trnC p xs ys n := by
  unfold l9C trnC hgtB
  split
  · rename_i h; rw [h]; rfl
  · rfl
set_option maxRecDepth 100000 in
set_option maxHeartbeats 3200000 in
theorem specTurningSums (p : Int) (a : Option Addr) (n c : Nat) (xs : List Int) (b : Option Addr) (m d : Nat) (ys : List Int) (k : Int) (w : World) (hs : SL w a n c xs) (ht : SL w b m d ys) (hn : n ≤ 4000000) (hm : m ≤ 4000000) :
    Calls Try.prog 42 #[jac p a n c b m d, .int .i64 k] w (Res1 w (trnV p xs ys k) (trnC p xs ys k)) := by
  have hl := hide hs.len
  have hl2 := hide ht.len
  have hb0 := bl1 w (.cells #[.int .i64 p, .slice a n c, .slice b m d] 45)
  have g1 := hs.below hb0
  have g2 := ht.below hb0
  have Z := hide (l9C_nil p xs ys k)
  by_cases hC : trnC p xs ys k = 0
  rotate_left
  · have HV := hide (show trnV p xs ys k = [] by unfold trnV; rw [if_neg hC])
    go_enter Try.func42, Try.ntmps42
    go_wp2_with fail
    refine (l09Code_any p a n c xs b m d ys k none 0 0 [] _ g1 g2 (SL.nil _) hn hm (by omega)).mono ?_
    rintro e w1 ⟨rfl, t1⟩
    rw [Z.out]
    obtain ⟨C, hCC⟩ : ∃ C, trnC p xs ys k = C := ⟨_, rfl⟩
    rw [hCC] at hC ⊢
    have B1 := bnext hb0 t1
    have HCC := hide hCC
    clear hCC
    go_wp2
    refine bodyPost_ret (v := .tuple #[.slice none 0 0, .int .i64 C]) (by simp [results, Try.results42, go_sem]) rfl ?_
    exact Res1.nil HV.out HCC.out B1
  have hj : jcd p xs ys k 0 24 = 0 := hC
  rcases jcd_cases p xs ys k 0 24 with h | h | ⟨_, hJ, k0, k1⟩
  · rw [h] at hj; cases hj
  · rw [h] at hj; cases hj
  obtain ⟨hpr, l1, l12, l2, hax, hay⟩ := jacB_rng hJ
  obtain ⟨hp, hp2⟩ := primeB_lo hpr
  obtain rfl : m = n := by rw [← hl2.out, ← hl.out]; omega
  rw [hl.out] at l1 l12
  have HE := hide hC
  have HA := hide hax
  have HB := hide (posB_are hay)
  obtain ⟨N, rfl⟩ : ∃ N : Nat, k = N := ⟨k.toNat, by omega⟩
  have HV := hide (show trnV p xs ys N = tab m (trnF p xs ys N) by unfold trnV; rw [if_pos HE.out, hl.out]; rfl)
  rw [hC] at Z
  have n24 : N ≤ 24 := by omega
  clear hC hj hJ hpr hax hay l2
  go_enter Try.func42, Try.ntmps42
  go_wp2_with fail
  refine (l09Code_any p a m c xs b m d ys N none 0 0 [] _ g1 g2 (SL.nil _) hm hm (by omega)).mono ?_
  rintro e w1 ⟨rfl, t1⟩
  rw [Z.out]
  have B1 := bnext hb0 t1
  have e0 : w1.cell? ⟨w.heap.size, 0, none⟩ = some (.int .i64 p) := cell_be t1 (by simp [go_sem])
  have e1 : w1.cell? ⟨w.heap.size, 1, none⟩ = some (.slice a m c) := cell_be t1 (by simp [go_sem])
  have e2 : w1.cell? ⟨w.heap.size, 2, none⟩ = some (.slice b m d) := cell_be t1 (by simp [go_sem])
  have Zs : w.heap.size + 1 ≤ w1.heap.size := World.block_lt_of_cell? _ _ e0
  have ba := bl1 w1 (.cells #[] 2)
  have Z0 : Hid (Own (w.heap.size + 1) (w1.alloc (.cells #[] 2)) (some ⟨w1.heap.size, 0, none⟩) 0 (tab 0 (trnF p xs ys N))) := hide (World.ownsRow_lit w1 (base := w.heap.size + 1) (e := 2) (size := 1) #[] 0 Zs (by simp) rfl)
  have HB2 := hide (bnext B1 ba)
  have E0 := hide (And.intro (cell_be ba e0) (And.intro (cell_be ba e1) (cell_be ba e2)))
  have ZL := hide (show sumP p xs ys 0 0 N 0 = 0 from sumP_out p xs ys 0 0 N 0 (.inl (by omega)))
  have Zt : w.heap.size + 1 ≤ (w1.alloc (.cells #[] 2)).heap.size := Nat.le_trans Zs ba.size
  clear g1 g2 hb0 t1 B1 e0 e1 e2
  go_wp2
  generalize (w1.alloc (.cells #[] 2)) = wx at *
  go_loopw [7, 8, 9] (fun sv lv iv wr => ∃ (t : Nat) (a' : Option Addr) (c' : Nat) (L : Int), t ≤ m ∧ iv = .int .i64 ((t : Int) + 1) ∧ sv = .slice a' t c' ∧ lv = .int .i64 L ∧ Hid (sumP p xs ys t 0 N 0 = L) ∧ Hid (Own (w.heap.size + 1) wr a' c' (tab t (trnF p xs ys N))) ∧ Hid (Below w.heap.size w wr) ∧ Hid (wr.cell? ⟨w.heap.size, 0, none⟩ = some (.int .i64 p) ∧ wr.cell? ⟨w.heap.size, 1, none⟩ = some (.slice a m c) ∧ wr.cell? ⟨w.heap.size, 2, none⟩ = some (.slice b m d)) ∧ w.heap.size + 1 ≤ wr.heap.size) (fun _ _ iv _ => m + 1 - (intOf iv).toNat)
  case atStart => exact ⟨0, _, 0, 0, by omega, rfl, rfl, rfl, ZL, Z0, HB2, E0, Zt⟩
  case round =>
    obtain ⟨t, a', c', L, htm, rfl, rfl, rfl, hL, hO, hW, hF, hzr⟩ := hrel
    clear Z0 ZL HB2 E0 Zs ba Zt
    obtain ⟨f0, f1, f2⟩ := hF.out
    by_cases hlt : t < m
    · have hlt' : (t : Int) + 1 ≤ (m : Int) := by omega
      have s1 := hide (hs.below hW.out)
      have s2 := hide (ht.below hW.out)
      have zw := hW.out.size
      go_wp2_with fail
      refine (l09Sums_any p a m c xs b d ys N 0 (t + 1) _ s1.out s2.out (by omega) (by omega) (by omega) (by omega) hp hp2 HA.out HB.out).mono ?_
      rintro e w3 ⟨a3, rfl, o3, t3⟩
      have q := o3.sl
      rw [rowP_len] at q
      obtain ⟨g, o, rfl, hg, hc⟩ := q.at (by omega)
      have ec := hc 0 (by omega)
      rw [Nat.add_zero] at ec
      have rL := sumP_rng hp xs ys t 0 N 0
      have rS := sumP_rng hp xs ys (t + 1) 0 N 0
      have hT := hide (show trnF p xs ys N t = (sumP p xs ys (t + 1) 0 N 0 - sumP p xs ys t 0 N 0) % p from rfl)
      rw [hL.out] at rL hT
      rw [show (rowP p xs ys (t + 1) 0 N).getD 0 0 = sumP p xs ys (t + 1) 0 N 0 from rfl] at ec
      obtain ⟨S, hS⟩ : ∃ S, sumP p xs ys (t + 1) 0 N 0 = S := ⟨_, rfl⟩
      rw [hS] at rS hT ec
      have HS := hide hS
      have q1 : (0 : Int) < (t : Int) + 1 := by omega
      replace f0 := cell_be t3 f0
      replace f1 := cell_be t3 f1
      replace f2 := cell_be t3 f2
      have vs : IntKind.i64.wrap (S - L) = S - L := IntWalk.i64_in _ (by omega)
      clear hS q hc o3
      go_wp2_with fail
      refine (l01Mod_any p (S - L) _ hp hp2 (by omega) (by omega)).mono ?_
      rintro e w6 ⟨rfl, rfl⟩
      rw [← hT.out]
      obtain ⟨z, hz⟩ : ∃ z, trnF p xs ys N t = z := ⟨_, rfl⟩
      rw [hz]
      have Hz := hide hz
      have hB5 := hW.out.trans (t3.mono hW.out.size)
      have hz5 : w.heap.size + 1 ≤ w3.heap.size := by have := t3.size; omega
      have hba := bl1 w3 (.cells #[.int .i64 z] 2)
      have hOa := hide ((hO.out.below t3).below hba)
      have z5 := hB5.size
      have hF5 := hide (And.intro (cell_be hba f0) (And.intro (cell_be hba f1) (cell_be hba f2)))
      have hz6 : w.heap.size + 1 ≤ (w3.alloc (.cells #[.int .i64 z] 2)).heap.size := by simp; omega
      clear hz f0 f1 f2 hO hF vs ec q1
      go_wp2_with (at_builtin; refine wp_append rfl _ _ rfl (w.heap.size + 1) _ t _ (tab t (trnF p xs ys N)) rfl (tab_len _ _).symm hOa.out _ 1 1 [z] rfl (litSL w3 z) (by omega) hz6 ?_; intro ad' cap' w7 hown hb7)
      have Hown := hide (show Own (w.heap.size + 1) w7 ad' cap' (tab (t + 1) (trnF p xs ys N)) by have q := hown; rwa [← Hz.out, tab_snoc] at q)
      have cb : ∀ {o : Nat} {v : Value}, (w3.alloc (.cells #[.int .i64 z] 2)).cell? ⟨w.heap.size, o, none⟩ = some v → w7.cell? ⟨w.heap.size, o, none⟩ = some v := fun h => (hb7.cell (Nat.lt_succ_self _)).trans h
      have hF7 := hide (And.intro (cb hF5.out.1) (And.intro (cb hF5.out.2.1) (cb hF5.out.2.2)))
      have hW7 := hide ((hB5.trans (hba.mono z5)).trans (hb7.mono (Nat.le_succ _)))
      have hz7 : w.heap.size + 1 ≤ w7.heap.size := Nat.le_trans hz6 hb7.size
      clear hown hb7 cb hF5 hOa hB5 hba
      go_roundw
      case rel => exact ⟨t + 1, ad', cap', S, by omega, by go_num, by rw [tab_len], rfl, HS, Hown, hW7, hF7, hz7⟩
      case measure => simp [intOf]; omega
    · have htm2 : Hid (t = m) := hide (by omega)
      have hge : ¬ (t : Int) + 1 ≤ (m : Int) := by omega
      go_wp2
      refine bodyPost_ret (v := .tuple #[.slice a' t c', .int .i64 0]) (by simp [results, Try.results42, go_sem]) rfl ?_
      exact Res1.own HE.out (by rw [HV.out, tab_len, htm2.out]) (by rw [HV.out, ← htm2.out]; exact hO.out.mono (by omega)) (by rw [HV.out, tab_len]; omega) hW.out
end Go.Proofs.Ytcadiepghhnbeaa
