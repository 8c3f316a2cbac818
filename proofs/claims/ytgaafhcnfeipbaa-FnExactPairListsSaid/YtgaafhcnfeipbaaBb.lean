/- Contracts: squared norms (program, model). -/
import Derived.Test.YtgaafhcnfeipbaaJc
import Derived.Test.YtgaafhcnfeipbaaCs
namespace Go.Proofs.Ytgaafhcnfeipbaa
open Go.RowKit
set_option linter.unusedVariables false
set_option linter.unusedSimpArgs false

/-- the products of the first numbers of Beta -/
def nrmK (p : Int) (ys : List Int) : Nat → Int
  | 0 => 1
  | k + 1 => nrmK p ys k * ys.getD k 0 % p
theorem nrmK_rng {p : Int} (hp : 2 ≤ p) (ys : List Int) : ∀ k, 0 ≤ nrmK p ys k ∧ nrmK p ys k < p
  | 0 => by unfold nrmK; omega
  | k + 1 => modb hp
def nrmF (p : Int) (ys : List Int) (k : Nat) : Int := nrmK p ys (k + 1)
def nrmL (p : Int) (ys : List Int) : List Int := tab ys.length (nrmF p ys)
theorem nrmL_len (p : Int) (ys : List Int) : (nrmL p ys).length = ys.length := tab_len _ _
def sqnC (p : Int) (xs ys : List Int) : Int := if jacB p xs ys then 0 else 1
def sqnV (p : Int) (xs ys : List Int) : List Int := if sqnC p xs ys = 0 then nrmL p ys else []
set_option maxRecDepth 100000 in
set_option maxHeartbeats 1600000 in
theorem squaredNorms_any (p : Int) (a : Option Addr) (n c : Nat) (b : Option Addr) (m d : Nat) (ys : List Int) (w : World) (ht : SL w b m d ys) (hm : m ≤ 4000) (hp : 2 ≤ p) (hp2 : p ≤ 10007) (hy : areB p ys = true) :
    Calls Try.prog 55 #[jac p a n c b m d] w fun e w' => ∃ a' c', e = .returned (.slice a' (nrmL p ys).length c') ∧ Own w.heap.size w' a' c' (nrmL p ys) ∧ Below w.heap.size w w' := by
  have hl2 := hide ht.len
  have hb0 := bl1 w (.cells #[.int .i64 p, .slice a n c, .slice b m d] 24)
  have HY := hide hy
  have E0 := hide (show (w.alloc (.cells #[.int .i64 p, .slice a n c, .slice b m d] 24)).cell? ⟨w.heap.size, 0, none⟩ = some (.int .i64 p) ∧ (w.alloc (.cells #[.int .i64 p, .slice a n c, .slice b m d] 24)).cell? ⟨w.heap.size, 2, none⟩ = some (.slice b m d) by constructor <;> simp [go_sem])
  have Z0 := hide (Own.nil (w.heap.size + 1) (w.alloc (.cells #[.int .i64 p, .slice a n c, .slice b m d] 24)))
  have Zs : w.heap.size + 1 ≤ (w.alloc (.cells #[.int .i64 p, .slice a n c, .slice b m d] 24)).heap.size := by simp
  have HB := hide hb0
  clear hb0 hy
  go_enter Try.func55, Try.ntmps55
  go_wp2
  generalize (w.alloc (.cells #[.int .i64 p, .slice a n c, .slice b m d] 24)) = wx at *
  go_loopw [3, 4, 10] (fun sv lv iv wr => ∃ (t : Nat) (a' : Option Addr) (c' : Nat) (L : Int), t ≤ m ∧ iv = .int .i64 t ∧ sv = .slice a' t c' ∧ lv = .int .i64 L ∧ Hid (nrmK p ys t = L) ∧ Hid (Own (w.heap.size + 1) wr a' c' (tab t (nrmF p ys))) ∧ Hid (Below w.heap.size w wr) ∧ Hid (wr.cell? ⟨w.heap.size, 0, none⟩ = some (.int .i64 p) ∧ wr.cell? ⟨w.heap.size, 2, none⟩ = some (.slice b m d)) ∧ w.heap.size + 1 ≤ wr.heap.size) (fun _ _ iv _ => m - (intOf iv).toNat)
  case atStart => exact ⟨0, none, 0, 1, by omega, rfl, rfl, rfl, hide rfl, Z0, HB, E0, Zs⟩
  case round =>
    obtain ⟨t, a', c', L, htm, rfl, rfl, rfl, hL, hO, hW, hF, hzr⟩ := hrel
    clear Z0 HB E0 Zs
    by_cases hlt : t < m
    · have hlt' : (t : Int) < (m : Int) := by omega
      obtain ⟨f0, f2⟩ := hF.out
      obtain ⟨b', o', rfl, _, hc⟩ := (ht.below hW.out).at (by omega)
      have e1 := hc t hlt
      have ry := getD_rng HY.out hp t
      have rL := nrmK_rng hp ys t
      have hT := hide (show nrmF p ys t = nrmK p ys t * ys.getD t 0 % p from rfl)
      rw [hL.out] at rL hT
      obtain ⟨y, hyy⟩ : ∃ y, ys.getD t 0 = y := ⟨_, rfl⟩
      rw [hyy] at ry hT e1
      obtain ⟨m1, m2⟩ := mulb rL.1 rL.2 ry.1 ry.2 hp2
      have v3 : IntKind.i64.wrap (L * y) = L * y := IntWalk.i64_in _ (by omega)
      have v4 : (L * y).tmod p = L * y % p := Int.tmod_eq_emod_of_nonneg m1
      rw [← hT.out] at v4
      obtain ⟨z, hz⟩ : ∃ z, nrmF p ys t = z := ⟨_, rfl⟩
      rw [hz] at v4
      have Hz := hide hz
      have rz := nrmK_rng hp ys (t + 1)
      rw [show nrmK p ys (t + 1) = z from hz] at rz
      have hba := bl1 wr (.cells #[.int .i64 z] 2)
      have hOa := hide (hO.out.below hba)
      have zw := hW.out.size
      have hF5 := hide (And.intro (cell_be hba f0) (cell_be hba f2))
      have hB5 := hW.out.trans (hba.mono zw)
      have hz6 : w.heap.size + 1 ≤ (wr.alloc (.cells #[.int .i64 z] 2)).heap.size := by simp; omega
      clear hz hO hyy hc hT hba
      go_wp2_with (at_builtin; refine wp_append rfl _ _ rfl (w.heap.size + 1) _ t _ (tab t (nrmF p ys)) rfl (tab_len _ _).symm hOa.out _ 1 1 [z] rfl (litSL wr z) (by omega) hz6 ?_; intro ad' cap' w7 hown hb7)
      have Hown := hide (show Own (w.heap.size + 1) w7 ad' cap' (tab (t + 1) (nrmF p ys)) by have q := hown; rwa [← Hz.out, tab_snoc] at q)
      have cb : ∀ {o : Nat} {v : Value}, (wr.alloc (.cells #[.int .i64 z] 2)).cell? ⟨w.heap.size, o, none⟩ = some v → w7.cell? ⟨w.heap.size, o, none⟩ = some v := fun h => (hb7.cell (Nat.lt_succ_self _)).trans h
      have hF7 := hide (And.intro (cb hF5.out.1) (cb hF5.out.2))
      have hW7 := hide (hB5.trans (hb7.mono (Nat.le_succ _)))
      have hz7 : w.heap.size + 1 ≤ w7.heap.size := Nat.le_trans hz6 hb7.size
      clear hown hb7 cb hF5 hOa hB5 v3 v4
      go_roundw
      case rel => exact ⟨t + 1, ad', cap', z, by omega, by go_num, by rw [tab_len], rfl, Hz, Hown, hW7, hF7, hz7⟩
      case measure => simp [intOf]; omega
    · have htm2 : Hid (t = m) := hide (by omega)
      have hge : ¬ (t : Int) < (m : Int) := by omega
      go_wp2
      refine bodyPost_ret (v := .slice a' t c') (by simp [results, Try.results55, go_sem]) rfl ?_
      exact ⟨a', c', by rw [nrmL_len, hl2.out, htm2.out], by unfold nrmL; rw [hl2.out, ← htm2.out]; exact hO.out.mono (by omega), hW.out⟩
set_option maxHeartbeats 800000 in
theorem implSquaredNorms (p : Int) (a : Option Addr) (n c : Nat) (xs : List Int) (b : Option Addr) (m d : Nat) (ys : List Int) (w : World) (hs : SL w a n c xs) (ht : SL w b m d ys) (hn : n ≤ 4000000) (hm : m ≤ 4000000) :
    Calls Try.prog 21 #[jac p a n c b m d] w (Res1 w (sqnV p xs ys) (sqnC p xs ys)) := by
  have hl2 := hide ht.len
  have hb0 := bl1 w (.cells #[.int .i64 p, .slice a n c, .slice b m d] 24)
  have g1 := hs.below hb0
  have g2 := ht.below hb0
  cases hj : jacB p xs ys
  · have HC := hide (show sqnC p xs ys = 1 by simp [sqnC, hj])
    have HV := hide (show sqnV p xs ys = [] by simp [sqnV, HC.out])
    have Hj := hide hj
    clear hj
    go_enter Try.func21, Try.ntmps21
    go_wp2_with fail
    refine (implIsJacobi _ _ _ _ _ _ _ _ _ _ g1 g2 hn hm).mono ?_
    rintro e w1 ⟨rfl, t1⟩
    rw [Hj.out]
    have B1 := bnext hb0 t1
    go_wp2
    go_ret2
    exact Res1.nil HV.out HC.out B1
  · have HC := hide (show sqnC p xs ys = 0 by simp [sqnC, hj])
    have HV := hide (show sqnV p xs ys = nrmL p ys by simp [sqnV, HC.out])
    obtain ⟨hpr, n1, n2, n3, hx, hy⟩ := jacB_rng hj
    obtain ⟨hp, hp2⟩ := primeB_lo hpr
    have HY := hide (posB_are hy)
    have lm : m ≤ 12 := by have := hl2.out; omega
    have Hj := hide hj
    clear hj hpr hx hy n3
    go_enter Try.func21, Try.ntmps21
    go_wp2_with fail
    refine (implIsJacobi _ _ _ _ _ _ _ _ _ _ g1 g2 hn hm).mono ?_
    rintro e w1 ⟨rfl, t1⟩
    rw [Hj.out]
    have B1 := bnext hb0 t1
    have e0 : w1.cell? ⟨w.heap.size, 0, none⟩ = some (.int .i64 p) := cell_be t1 (by simp [go_sem])
    have e1 : w1.cell? ⟨w.heap.size, 1, none⟩ = some (.slice a n c) := cell_be t1 (by simp [go_sem])
    have e2 : w1.cell? ⟨w.heap.size, 2, none⟩ = some (.slice b m d) := cell_be t1 (by simp [go_sem])
    go_wp2_with fail
    refine (squaredNorms_any p a n c b m d ys _ (g2.below t1) (by omega) hp hp2 HY.out).mono ?_
    rintro e w2 ⟨a', c', rfl, ho, t2⟩
    have B2 := bnext B1 t2
    go_wp2
    go_ret2
    exact Res1.own HC.out (by rw [HV.out]) (by rw [HV.out]; exact ho.mono B1.size) (by rw [HV.out, nrmL_len, hl2.out]; omega) B2
set_option maxRecDepth 100000 in
set_option maxHeartbeats 1600000 in
theorem l10Norms_any (p : Int) (a : Option Addr) (n c : Nat) (b : Option Addr) (m d : Nat) (ys : List Int) (w : World) (ht : SL w b m d ys) (hm : m ≤ 4000) (hp : 2 ≤ p) (hp2 : p ≤ 10007) (hy : areB p ys = true) :
    Calls Try.prog 53 #[jac p a n c b m d] w fun e w' => ∃ a' c', e = .returned (.slice a' (nrmL p ys).length c') ∧ Own w.heap.size w' a' c' (nrmL p ys) ∧ Below w.heap.size w w' := by
  have hl2 := hide ht.len
  have hb0 := bl2 w (.cells #[.int .i64 p, .slice a n c, .slice b m d] 24) (.cells #[] 2)
  have HY := hide hy
  have E0 := hide (show ((w.alloc (.cells #[.int .i64 p, .slice a n c, .slice b m d] 24)).alloc (.cells #[] 2)).cell? ⟨w.heap.size, 0, none⟩ = some (.int .i64 p) ∧ ((w.alloc (.cells #[.int .i64 p, .slice a n c, .slice b m d] 24)).alloc (.cells #[] 2)).cell? ⟨w.heap.size, 2, none⟩ = some (.slice b m d) by constructor <;> simp [go_sem])
  have Z0 : Hid (Own (w.heap.size + 1) ((w.alloc (.cells #[.int .i64 p, .slice a n c, .slice b m d] 24)).alloc (.cells #[] 2)) (some ⟨w.heap.size + 1, 0, none⟩) 0 (tab 0 (nrmF p ys))) := hide (by
    have t := World.ownsRow_lit (w.alloc (.cells #[.int .i64 p, .slice a n c, .slice b m d] 24)) (base := w.heap.size + 1) (e := 2) (size := 1) #[] 0 (by simp) (by simp) rfl
    rw [show (w.alloc (.cells #[.int .i64 p, .slice a n c, .slice b m d] 24)).heap.size = w.heap.size + 1 by simp] at t
    exact t)
  have Zs : w.heap.size + 1 ≤ ((w.alloc (.cells #[.int .i64 p, .slice a n c, .slice b m d] 24)).alloc (.cells #[] 2)).heap.size := by simp
  have HB := hide hb0
  clear hb0 hy
  go_enter Try.func53, Try.ntmps53
  go_wp2
  generalize ((w.alloc (.cells #[.int .i64 p, .slice a n c, .slice b m d] 24)).alloc (.cells #[] 2)) = wx at *
  go_loopw [3, 4, 5] (fun sv lv iv wr => ∃ (t : Nat) (a' : Option Addr) (c' : Nat) (L : Int), t ≤ m ∧ iv = .int .i64 t ∧ sv = .slice a' t c' ∧ lv = .int .i64 L ∧ Hid (nrmK p ys t = L) ∧ Hid (Own (w.heap.size + 1) wr a' c' (tab t (nrmF p ys))) ∧ Hid (Below w.heap.size w wr) ∧ Hid (wr.cell? ⟨w.heap.size, 0, none⟩ = some (.int .i64 p) ∧ wr.cell? ⟨w.heap.size, 2, none⟩ = some (.slice b m d)) ∧ w.heap.size + 1 ≤ wr.heap.size) (fun _ _ iv _ => m - (intOf iv).toNat)
  case atStart => exact ⟨0, _, 0, 1, by omega, rfl, rfl, rfl, hide rfl, Z0, HB, E0, Zs⟩
  case round =>
    obtain ⟨t, a', c', L, htm, rfl, rfl, rfl, hL, hO, hW, hF, hzr⟩ := hrel
    clear Z0 HB E0 Zs
    obtain ⟨f0, f2⟩ := hF.out
    by_cases hlt : t < m
    · have hlt' : (t : Int) < (m : Int) := by omega
      obtain ⟨b', o', rfl, _, hc⟩ := (ht.below hW.out).at (by omega)
      have e1 := hc t hlt
      have ry := getD_rng HY.out hp t
      have rL := nrmK_rng hp ys t
      have hT := hide (show nrmF p ys t = nrmK p ys t * ys.getD t 0 % p from rfl)
      rw [hL.out] at rL hT
      obtain ⟨y, hyy⟩ : ∃ y, ys.getD t 0 = y := ⟨_, rfl⟩
      rw [hyy] at ry hT e1
      obtain ⟨m1, m2⟩ := mulb rL.1 rL.2 ry.1 ry.2 hp2
      have v3 : IntKind.i64.wrap (L * y) = L * y := IntWalk.i64_in _ (by omega)
      have v4 : (L * y).tmod p = L * y % p := Int.tmod_eq_emod_of_nonneg m1
      rw [← hT.out] at v4
      obtain ⟨z, hz⟩ : ∃ z, nrmF p ys t = z := ⟨_, rfl⟩
      rw [hz] at v4
      have Hz := hide hz
      have rz := nrmK_rng hp ys (t + 1)
      rw [show nrmK p ys (t + 1) = z from hz] at rz
      have hp0 : ¬ p = 0 := by omega
      have hbd := (Below.refl wr.heap.size wr)
      clear hz hyy hc hT
      go_wp2
      go_quiet (fail)
      have hbq := below_drewN hbd nq
      obtain ⟨wq, hwq⟩ : ∃ wq, wr.drewN nq = wq := ⟨_, rfl⟩
      rw [hwq] at hbq ⊢
      clear hwq
      have hba := bl1 wq (.cells #[.int .i64 z] 2)
      have hOa := hide ((hO.out.below hbq).below hba)
      have zw := hW.out.size
      have zq := hbq.size
      have hF5 := hide (And.intro (cell_be hba (cell_be hbq f0)) (cell_be hba (cell_be hbq f2)))
      have hB5 := (hW.out.trans (hbq.mono zw)).trans (hba.mono (by omega))
      have hz6 : w.heap.size + 1 ≤ (wq.alloc (.cells #[.int .i64 z] 2)).heap.size := by simp; omega
      clear hO hba f0 f2 hF hW
      go_wp2_with (at_builtin; refine wp_append rfl _ _ rfl (w.heap.size + 1) _ t _ (tab t (nrmF p ys)) rfl (tab_len _ _).symm hOa.out _ 1 1 [z] rfl (litSL wq z) (by omega) hz6 ?_; intro ad' cap' w7 hown hb7)
      have Hown := hide (show Own (w.heap.size + 1) w7 ad' cap' (tab (t + 1) (nrmF p ys)) by have q := hown; rwa [← Hz.out, tab_snoc] at q)
      have cb : ∀ {o : Nat} {v : Value}, (wq.alloc (.cells #[.int .i64 z] 2)).cell? ⟨w.heap.size, o, none⟩ = some v → w7.cell? ⟨w.heap.size, o, none⟩ = some v := fun h => (hb7.cell (Nat.lt_succ_self _)).trans h
      have hF7 := hide (And.intro (cb hF5.out.1) (cb hF5.out.2))
      have hW7 := hide (hB5.trans (hb7.mono (Nat.le_succ _)))
      have hz7 : w.heap.size + 1 ≤ w7.heap.size := Nat.le_trans hz6 hb7.size
      clear hown hb7 cb hF5 hOa hB5 v3 v4
      go_roundw
      case rel => exact ⟨t + 1, ad', cap', z, by omega, by go_num, by rw [tab_len], rfl, Hz, Hown, hW7, hF7, hz7⟩
      case measure => simp [intOf]; omega
    · have htm2 : Hid (t = m) := hide (by omega)
      have hge : ¬ (t : Int) < (m : Int) := by omega
      go_wp2
      refine bodyPost_ret (v := .slice a' t c') (by simp [results, Try.results53, go_sem]) rfl ?_
      exact ⟨a', c', by rw [nrmL_len, hl2.out, htm2.out], by unfold nrmL; rw [hl2.out, ← htm2.out]; exact hO.out.mono (by omega), hW.out⟩
set_option maxHeartbeats 800000 in
theorem specSquaredNorms (p : Int) (a : Option Addr) (n c : Nat) (xs : List Int) (b : Option Addr) (m d : Nat) (ys : List Int) (w : World) (hs : SL w a n c xs) (ht : SL w b m d ys) (hn : n ≤ 4000000) (hm : m ≤ 4000000) :
    Calls Try.prog 19 #[jac p a n c b m d] w (Res1 w (sqnV p xs ys) (sqnC p xs ys)) := by
  have hl2 := hide ht.len
  have hb0 := bl1 w (.cells #[.int .i64 p, .slice a n c, .slice b m d] 24)
  have g1 := hs.below hb0
  have g2 := ht.below hb0
  cases hj : jacB p xs ys
  · have HC := hide (show sqnC p xs ys = 1 by simp [sqnC, hj])
    have HV := hide (show sqnV p xs ys = [] by simp [sqnV, HC.out])
    have Hj := hide hj
    clear hj
    go_enter Try.func19, Try.ntmps19
    go_wp2_with fail
    refine (l03Is_any _ _ _ _ _ _ _ _ _ _ g1 g2 hn hm).mono ?_
    rintro e w1 ⟨rfl, t1⟩
    rw [Hj.out]
    have B1 := bnext hb0 t1
    go_wp2
    go_ret2
    exact Res1.nil HV.out HC.out B1
  · have HC := hide (show sqnC p xs ys = 0 by simp [sqnC, hj])
    have HV := hide (show sqnV p xs ys = nrmL p ys by simp [sqnV, HC.out])
    obtain ⟨hpr, n1, n2, n3, hx, hy⟩ := jacB_rng hj
    obtain ⟨hp, hp2⟩ := primeB_lo hpr
    have HY := hide (posB_are hy)
    have lm : m ≤ 12 := by have := hl2.out; omega
    have Hj := hide hj
    clear hj hpr hx hy n3
    go_enter Try.func19, Try.ntmps19
    go_wp2_with fail
    refine (l03Is_any _ _ _ _ _ _ _ _ _ _ g1 g2 hn hm).mono ?_
    rintro e w1 ⟨rfl, t1⟩
    rw [Hj.out]
    have B1 := bnext hb0 t1
    have e0 : w1.cell? ⟨w.heap.size, 0, none⟩ = some (.int .i64 p) := cell_be t1 (by simp [go_sem])
    have e1 : w1.cell? ⟨w.heap.size, 1, none⟩ = some (.slice a n c) := cell_be t1 (by simp [go_sem])
    have e2 : w1.cell? ⟨w.heap.size, 2, none⟩ = some (.slice b m d) := cell_be t1 (by simp [go_sem])
    go_wp2_with fail
    refine (l10Norms_any p a n c b m d ys _ (g2.below t1) (by omega) hp hp2 HY.out).mono ?_
    rintro e w2 ⟨a', c', rfl, ho, t2⟩
    have B2 := bnext B1 t2
    go_wp2
    go_ret2
    exact Res1.own HC.out (by rw [HV.out]) (by rw [HV.out]; exact ho.mono B1.size) (by rw [HV.out, nrmL_len, hl2.out]; omega) B2
end Go.Proofs.Ytgaafhcnfeipbaa
