/- Merged texts. -/
import Derived.Test.YtkpmonopjkjflaaYC225
import Derived.Test.YtkpmonopjkjflaaYC217
import Derived.Test.YtkpmonopjkjflaaYC221
/- Contracts: l06Of (model), PolynomialOfRoots (program and model). -/
namespace Go.Proofs.Ytkpmonopjkjflaa
open Go.RowKit
set_option linter.unusedVariables false
set_option linter.unusedSimpArgs false

/-- The product of x less the first k numbers. -/
def porM (p : Int) (xs : List Int) : Nat → List Int
  | 0 => [1]
  | k + 1 => mulM p (porM p xs k) (linM p (xs.getD k 0))
theorem porM_poly {p : Int} (hp : primeB p = true) (xs : List Int) : ∀ k, k ≤ 24 → polyB p (porM p xs k) = true ∧ (porM p xs k).length = k + 1 := by
  intro k
  induction k with
  | zero => intro _; exact ⟨by have := (primeB_lo hp).1; simp [porM, polyB, areB, okN, lastZ]; omega, rfl⟩
  | succ k ih =>
    intro hk
    obtain ⟨h1, h2⟩ := ih (by omega)
    obtain ⟨hp2, _⟩ := primeB_lo hp
    obtain ⟨l1, l2⟩ := lin_full hp (xs.getD k 0) h1 (by omega)
    rw [porM, mulM_comm hp2]
    refine ⟨polyB_mk (by omega) (mulM_are hp2) (.inr l2), by omega⟩
def porC (p : Int) (xs : List Int) : Int := if lisB p xs 0 24 then 0 else 2
def porV (p : Int) (xs : List Int) : List Int := if lisB p xs 0 24 then porM p xs xs.length else []
set_option maxRecDepth 100000 in
set_option maxHeartbeats 1600000 in
theorem implPolynomialOfRoots (p : Int) (a : Option Addr) (n c : Nat) (xs : List Int) (w : World) (hs : SL w a n c xs) (hn : n ≤ 4000000) :
    Calls Try.prog 111 #[.int .i64 p, .slice a n c] w (Res1 w (porV p xs) (porC p xs)) := by
  have hl := hide hs.len
  cases hL : lisB p xs 0 24
  · have HC := hide (show porC p xs = 2 by simp [porC, hL])
    have HV := hide (show porV p xs = [] by simp [porV, hL])
    have HL := hide hL
    clear hL
    go_enter Try.func111, Try.ntmps111
    go_wp2_with fail
    refine (isListFor_any p _ _ _ xs 0 24 _ hs hn).mono ?_
    rintro e w1 ⟨rfl, rfl⟩
    rw [HL.out]
    go_wp2
    go_ret2
    exact Res1.nil HV.out HC.out (Below.refl _ _)
  obtain ⟨hpr, _, hn2, hA⟩ := lisB_rng hL
  obtain ⟨hp, hp2⟩ := primeB_lo hpr
  have HC := hide (show porC p xs = 0 by simp [porC, hL])
  have HV := hide (show porV p xs = porM p xs n by simp only [porV, hL, if_true]; rw [hl.out])
  have HL := hide hL
  have HP := hide (fun k => porM_poly hpr xs k)
  have HA := hide hA
  have hn24 : n ≤ 24 := by have := hl.out; omega
  have ho : Hid (Own w.heap.size (w.alloc (.cells #[.int .i64 1] 2)) (some ⟨w.heap.size, 0, none⟩) 1 (porM p xs 0)) := hide (litOwn w _ (Nat.le_refl _) 1)
  have hb0 := bl1 w (.cells #[.int .i64 1] 2)
  clear hL hpr hA
  go_enter Try.func111, Try.ntmps111
  go_wp2_with fail
  refine (isListFor_any p _ _ _ xs 0 24 _ hs hn).mono ?_
  rintro e w1 ⟨rfl, rfl⟩
  rw [HL.out]
  go_wp2
  go_loopw [6, 16] (fun ov iv wr => ∃ (k : Nat) (a' : Option Addr) (c' : Nat) (zs : List Int), k ≤ n ∧ iv = .int .i64 k ∧ ov = .slice a' (k + 1) c' ∧ Hid (zs = porM p xs k) ∧ Hid (zs.length = k + 1) ∧ Hid (Own w.heap.size wr a' c' zs) ∧ Below w.heap.size w wr) (fun _ iv _ => n - (intOf iv).toNat)
  case atStart => exact ⟨0, _, 1, _, by omega, rfl, rfl, hide rfl, hide rfl, ho, hb0⟩
  case round =>
    obtain ⟨k, a', c', zs, hk, rfl, rfl, hZ, hzl, hO, hBr⟩ := hrel
    clear ho hb0
    by_cases hlt : k < n
    · obtain ⟨b, off, ha, hbw, hcell⟩ := (hs.below hBr).at (by omega)
      subst ha
      have e1 := hcell k hlt
      have hr := getD_rng HA.out hp k
      have hP1 := HP.out k (by omega)
      have hP2 := HP.out (k + 1) (by omega)
      have hst : Hid (porM p xs (k + 1) = mulM p zs (linM p (xs.getD k 0))) := hide (by rw [porM, hZ.out])
      have hzp : Hid (areB p zs = true) := hide (by rw [hZ.out]; exact poly_are hP1.1)
      have hl2 : Hid ((mulM p zs (linM p (xs.getD k 0))).length = k + 2) := hide (by rw [← hst.out]; exact hP2.2)
      obtain ⟨x, hx⟩ : ∃ x, xs.getD k 0 = x := ⟨_, rfl⟩
      rw [hx] at e1 hr hst hl2
      have hla : Hid (areB p (linM p x) = true) := hide (poly_are (linM_poly hp))
      have hbs := hBr.size
      have hlt' : (k : Int) < (n : Int) := by omega
      clear hcell hx hP1 hP2
      go_wp2_with fail
      refine (linear_any p x _ hp hp2 hr.1 hr.2).mono ?_
      rintro e w2 ⟨rfl, ho2, hb2⟩
      have hB2 := bnext hBr hb2
      have k1 := (hO.out.below hb2).sl
      rw [hzl.out] at k1
      have k2 : SL w2 (some ⟨wr.heap.size, 0, none⟩) 2 2 (linM p x) := ho2.sl
      go_wp2_with fail
      refine (multiply_any p _ _ _ zs _ _ _ (linM p x) _ k1 k2 (by omega) (by omega) hp hp2 hzp.out hla.out).mono ?_
      rintro e w3 ⟨a3, c3, rfl, ho3, hb3⟩
      have hB3 := bnext hB2 hb3
      have hz := hB2.size
      have ho3' := hide (ho3.mono hz)
      rw [hl2.out]
      clear hO ho2 k1 ho3
      go_wp2
      go_roundw
      case rel => exact ⟨k + 1, a3, c3, mulM p zs (linM p x), by omega, by go_num, rfl, hide hst.out.symm, hl2, ho3', hB3⟩
      case measure => simp [intOf]; omega
    · have hkn : k = n := by omega
      subst hkn
      have hlt' : ¬ (k : Int) < (k : Int) := by omega
      go_wp2
      go_ret2
      exact Res1.own HC.out (by rw [HV.out, ← hZ.out, hzl.out]) (by rw [HV.out, ← hZ.out]; exact hO.out) (by rw [HV.out, ← hZ.out, hzl.out]; omega) hBr
end Go.Proofs.Ytkpmonopjkjflaa
/- Contracts: l07Nodes (model), NodePoly (program and model). -/
namespace Go.Proofs.Ytkpmonopjkjflaa
open Go.RowKit
set_option linter.unusedVariables false
set_option linter.unusedSimpArgs false

set_option maxRecDepth 100000 in
set_option maxHeartbeats 1600000 in
theorem l07Nodes_any (p : Int) (a : Option Addr) (n c : Nat) (xs : List Int) (w : World) (hs : SL w a n c xs) (hn24 : n ≤ 24) (hpr : primeB p = true) (hA : areB p xs = true) :
    Calls Try.prog 94 #[.int .i64 p, .slice a n c] w fun e w' => ∃ a' c', e = .returned (.slice a' (porM p xs n).length c') ∧ Own w.heap.size w' a' c' (porM p xs n) ∧ Below w.heap.size w w' := by
  have hl := hide hs.len
  obtain ⟨hp, hp2⟩ := primeB_lo hpr
  have HP := hide (fun k => porM_poly hpr xs k)
  have HA := hide hA
  have HM := hide (fun f (hf : polyB p f = true) a => mulM_trim hpr hf (linM_poly (p := p) (a := a) hp))
  have ho : Hid (Own w.heap.size (w.alloc (.cells #[.int .i64 1] 2)) (some ⟨w.heap.size, 0, none⟩) 1 (porM p xs 0)) := hide (litOwn w _ (Nat.le_refl _) 1)
  have hb0 := bl1 w (.cells #[.int .i64 1] 2)
  clear hpr hA
  go_enter Try.func94, Try.ntmps94
  go_wp2
  go_loopw [5, 6] (fun ov iv wr => ∃ (k : Nat) (a' : Option Addr) (c' : Nat) (zs : List Int), k ≤ n ∧ iv = .int .i64 k ∧ ov = .slice a' (k + 1) c' ∧ Hid (zs = porM p xs k) ∧ Hid (zs.length = k + 1) ∧ Hid (Own w.heap.size wr a' c' zs) ∧ Below w.heap.size w wr) (fun _ iv _ => n - (intOf iv).toNat)
  case atStart => exact ⟨0, _, 1, _, by omega, rfl, rfl, hide rfl, hide rfl, ho, hb0⟩
  case round =>
    obtain ⟨k, a', c', zs, hk, rfl, rfl, hZ, hzl, hO, hBr⟩ := hrel
    clear ho hb0
    by_cases hlt : k < n
    · obtain ⟨b, off, ha, hbw, hcell⟩ := (hs.below hBr).at (by omega)
      subst ha
      have e1 := hcell k hlt
      have hr := getD_rng HA.out hp k
      have hP1 := HP.out k (by omega)
      have hP2 := HP.out (k + 1) (by omega)
      have hst : Hid (porM p xs (k + 1) = mulM p zs (linM p (xs.getD k 0))) := hide (by rw [porM, hZ.out])
      have hzp : Hid (areB p zs = true) := hide (by rw [hZ.out]; exact poly_are hP1.1)
      have hl2 : Hid ((mulM p zs (linM p (xs.getD k 0))).length = k + 2) := hide (by rw [← hst.out]; exact hP2.2)
      obtain ⟨x, hx⟩ : ∃ x, xs.getD k 0 = x := ⟨_, rfl⟩
      rw [hx] at e1 hr hst hl2
      have hT : Hid (trimL (mulM p zs [opp p x, 1]) = mulM p zs [opp p x, 1]) := hide (by rw [hZ.out]; exact HM.out _ hP1.1 x)
      have hla : Hid (areB p [opp p x, 1] = true) := hide (poly_are (linM_poly (p := p) (a := x) hp))
      have hbs := hBr.size
      have hlt' : (k : Int) < (n : Int) := by omega
      have v1 : IntKind.i64.wrap (-x) = -x := IntWalk.i64_in _ (by omega)
      have oa := Lib.hid (opp_neg p x)
      clear hcell hx hP1 hP2
      go_wp2_with fail
      refine (l01Mod_any p (-x) _ hp hp2 (by omega) (by omega)).mono ?_
      rintro e w2 ⟨rfl, rfl⟩
      rw [oa.out]
      have b1 := bl1 wr (.cells #[.int .i64 (opp p x), .int .i64 1] 2)
      have k1 := (hO.out.below b1).sl
      rw [hzl.out] at k1
      have hB2 := bnext hBr b1
      go_wp2_with fail
      refine (l01TimesP p _ _ _ zs _ _ _ [opp p x, 1] _ k1 (litSL2 wr (opp p x) 1) (by omega) (by omega) hp hp2 hzp.out hla.out hT.out).mono ?_
      rintro e w3 ⟨a3, c3, rfl, ho3, hb3⟩
      have hB3 := bnext hB2 hb3
      have hz := hB2.size
      have ho3' := hide (ho3.mono hz)
      rw [show (mulM p zs [opp p x, 1]).length = k + 2 from hl2.out]
      clear hO k1 ho3
      go_wp2
      go_roundw
      case rel => exact ⟨k + 1, a3, c3, mulM p zs (linM p x), by omega, by go_num, rfl, hide hst.out.symm, hl2, ho3', hB3⟩
      case measure => simp [intOf]; omega
    · have hkn : k = n := by omega
      subst hkn
      have hlt' : ¬ (k : Int) < (k : Int) := by omega
      go_wp2
      refine bodyPost_ret (v := .slice a' (k + 1) c') (by simp [results, Try.results94]) rfl ?_
      exact ⟨a', c', by rw [← hZ.out, hzl.out], by rw [← hZ.out]; exact hO.out, hBr⟩

def nodC (p : Int) (xs ys : List Int) : Int := if rulB p xs ys then 0 else 1
def nodV (p : Int) (xs ys : List Int) : List Int := if rulB p xs ys then porM p xs xs.length else []
set_option maxRecDepth 100000 in
set_option maxHeartbeats 1600000 in
theorem implNodePoly (p : Int) (a : Option Addr) (n c : Nat) (xs : List Int) (b : Option Addr) (m d : Nat) (ys : List Int) (w : World) (hs : SL w a n c xs) (ht : SL w b m d ys) (hn : n ≤ 4000000) (hm : m ≤ 4000000) :
    Calls Try.prog 60 #[jac p a n c b m d] w (Res1 w (nodV p xs ys) (nodC p xs ys)) := by
  have hl := hide hs.len
  have hb0 := bl1 w (.cells #[.int .i64 p, .slice a n c, .slice b m d] 52)
  have g1 := hs.below hb0
  have g2 := ht.below hb0
  cases hR : rulB p xs ys
  · have HC := hide (show nodC p xs ys = 1 by simp [nodC, hR])
    have HV := hide (show nodV p xs ys = [] by simp [nodV, hR])
    have HR := hide hR
    clear hR
    go_enter Try.func60, Try.ntmps60
    go_wp2_with fail
    refine (implIsRule _ _ _ _ _ _ _ _ _ _ g1 g2 hn hm).mono ?_
    rintro e w1 ⟨rfl, t1⟩
    rw [HR.out]
    have B1 := bnext hb0 t1
    go_wp2
    go_ret2
    exact Res1.nil HV.out HC.out B1
  · obtain ⟨r1, r2, r3, r4, r5, r6⟩ := rulB_rng hR
    have hL : lisB p xs 0 24 = true := by unfold lisB; rw [r1, r4]; simp; omega
    have HC := hide (show nodC p xs ys = 0 by simp [nodC, hR])
    have HV := hide (show nodV p xs ys = porV p xs by simp [nodV, porV, hR, hL])
    have HP := hide (show porC p xs = 0 by simp [porC, hL])
    have HR := hide hR
    clear hR hL r1 r4 r5 r6
    go_enter Try.func60, Try.ntmps60
    go_wp2_with fail
    refine (implIsRule _ _ _ _ _ _ _ _ _ _ g1 g2 hn hm).mono ?_
    rintro e w1 ⟨rfl, t1⟩
    rw [HR.out]
    have B1 := bnext hb0 t1
    have z1 := B1.size
    have f0 : w1.cell? ⟨w.heap.size, 0, none⟩ = some (.int .i64 p) := cell_be t1 (by simp [go_sem])
    have f1 : w1.cell? ⟨w.heap.size, 1, none⟩ = some (.slice a n c) := cell_be t1 (by simp [go_sem])
    go_wp2_with fail
    refine (implPolynomialOfRoots p a n c xs _ (hs.below B1) hn).mono ?_
    rintro e w2 ⟨a2, c2, rfl, o2, l2, t2⟩
    rw [HP.out]
    have B2 := bnext B1 t2
    have o3 := hide (o2.mono (show w.heap.size ≤ w1.heap.size from z1) (Nat.le_refl _))
    clear o2
    go_wp2
    go_ret2
    show Res1 w (nodV p xs ys) (nodC p xs ys) _ _
    rw [HV.out, HC.out]
    exact ⟨a2, c2, rfl, o3.out, l2, B2⟩
set_option maxRecDepth 100000 in
set_option maxHeartbeats 1600000 in
theorem specNodePoly (p : Int) (a : Option Addr) (n c : Nat) (xs : List Int) (b : Option Addr) (m d : Nat) (ys : List Int) (w : World) (hs : SL w a n c xs) (ht : SL w b m d ys) (hn : n ≤ 4000000) (hm : m ≤ 4000000) :
    Calls Try.prog 59 #[jac p a n c b m d] w (Res1 w (nodV p xs ys) (nodC p xs ys)) := by
  have hl := hide hs.len
  have hb0 := bl1 w (.cells #[.int .i64 p, .slice a n c, .slice b m d] 52)
  have g1 := hs.below hb0
  have g2 := ht.below hb0
  cases hR : rulB p xs ys
  · have HC := hide (show nodC p xs ys = 1 by simp [nodC, hR])
    have HV := hide (show nodV p xs ys = [] by simp [nodV, hR])
    have HR := hide hR
    clear hR
    go_enter Try.func59, Try.ntmps59
    go_wp2_with fail
    refine (l07Is_any _ _ _ _ _ _ _ _ _ _ g1 g2 hn hm).mono ?_
    rintro e w1 ⟨rfl, t1⟩
    rw [HR.out]
    have B1 := bnext hb0 t1
    go_wp2
    go_ret2
    exact Res1.nil HV.out HC.out B1
  · obtain ⟨r1, r2, r3, r4, r5, r6⟩ := rulB_rng hR
    have HC := hide (show nodC p xs ys = 0 by simp [nodC, hR])
    have HV := hide (show nodV p xs ys = porM p xs n by simp [nodV, hR, hl.out])
    have Hlen := hide (show (porM p xs n).length ≤ 100000 by have := (porM_poly r1 xs n (by rw [← hl.out]; exact r2)).2; have := hl.out; omega)
    have hn24 : n ≤ 24 := by rw [← hl.out]; exact r2
    have HR := hide hR
    have H1 := hide r1
    have H4 := hide r4
    clear hR r1 r4 r5 r6 r2 r3
    go_enter Try.func59, Try.ntmps59
    go_wp2_with fail
    refine (l07Is_any _ _ _ _ _ _ _ _ _ _ g1 g2 hn hm).mono ?_
    rintro e w1 ⟨rfl, t1⟩
    rw [HR.out]
    have B1 := bnext hb0 t1
    have z1 := B1.size
    have f0 : w1.cell? ⟨w.heap.size, 0, none⟩ = some (.int .i64 p) := cell_be t1 (by simp [go_sem])
    have f1 : w1.cell? ⟨w.heap.size, 1, none⟩ = some (.slice a n c) := cell_be t1 (by simp [go_sem])
    have hbd := (Below.refl w1.heap.size w1).drew
    have F : ∀ w', Below w1.heap.size w1 w' → w'.cell? ⟨w.heap.size, 0, none⟩ = some (.int .i64 p) ∧ w'.cell? ⟨w.heap.size, 1, none⟩ = some (.slice a n c) := fun w' hb => ⟨cell_be hb f0, cell_be hb f1⟩
    go_wp2_with fail
    refine (l07Nodes_any p a n c xs _ (by first | exact hs.below B1 | exact (hs.below B1).below hbd) hn24 H1.out H4.out).mono ?_
    rintro e w2 ⟨a2, c2, rfl, o2, t2⟩
    have B2 := bnext B1 t2
    have o3 := hide (o2.mono (show w.heap.size ≤ w1.heap.size from z1))
    clear o2
    go_wp2
    go_ret2
    exact Res1.own HC.out (by rw [HV.out]) (by rw [HV.out]; exact o3.out) (by rw [HV.out]; exact Hlen.out) B2
end Go.Proofs.Ytkpmonopjkjflaa
