/- Merged texts. -/
import Derived.Test.YtdjifjlgllohmaaDoorYDS20
import Derived.Test.YtdjifjlgllohmaaDoorYDS9
import Derived.Test.YtdjifjlgllohmaaDoorYDS23
import Derived.Deep.DeepFit
import Derived.Test.YtdjifjlgllohmaaDoorYDS24
/- Contracts: ProductMoments (program and model). -/
namespace Go.Proofs.YtdjifjlgllohmaaDoor
open Go.RowKit
set_option linter.unusedVariables false
set_option linter.unusedSimpArgs false

def prmV (p : Int) (xs f : List Int) : List Int := if fnC p xs f = 0 then prodM p f xs (xs.length + 1 - max f.length 1) else []
def prmP (p : Int) (xs f : List Int) : Int := if fnC p xs f = 0 then p else 0
def prmC (p : Int) (xs f : List Int) : Int := fnC p xs f
theorem funF_dot (p : Int) (f xs : List Int) (n : Nat) : ∀ i, (i = 0 ∨ i + n ≤ xs.length + 1) → funF p f (fun i => (xs.drop i).take n) (tab n (fun _ => 0)) i = tab n (fun j => dotK p f xs j i) := by
  intro i
  induction i with
  | zero => intro _; rfl
  | succ i ih =>
    intro h
    rw [funF, ih (by omega), addlM_dot p f xs n i (by omega)]
theorem own_lit0'' (w : World) (q : Nat) (hq : q = w.heap.size) (B : Nat) (hB : B ≤ q) : Own B (w.alloc (.cells #[] 2)) (some ⟨q, 0, none⟩) 0 [] := by
  subst hq
  have h : Own w.heap.size (w.alloc (.cells #[] 2)) (some ⟨w.heap.size, 0, none⟩) 0 [] := World.ownsRow_lit w (base := w.heap.size) (e := 2) (size := 1) #[] 0 (Nat.le_refl _) (by decide) rfl
  exact h.mono hB
theorem mk_own (W : World) (n : Nat) (hn : n ≤ 1000) : Own W.heap.size (W.alloc (.cells (zrow n) 2)) (some ⟨W.heap.size, 0, none⟩) n (tab n (fun _ => 0)) := by
  have h := (zrow_row W n).own' (Nat.le_refl _) (by rw [tab_len]; unfold maxLen; omega)
  rwa [tab_len] at h
theorem mk_ownD (W v : World) (n : Nat) (hn : n ≤ 1000) (h : Below (W.alloc (.cells (zrow n) 2)).drew.heap.size (W.alloc (.cells (zrow n) 2)).drew v) : Own W.heap.size v (some ⟨W.heap.size, 0, none⟩) n (tab n (fun _ => 0)) :=
  ((mk_own W n hn).below ((Below.refl _ _).drew)).below h
theorem areB_win {p : Int} {xs : List Int} (h : areB p xs = true) (hp : 2 ≤ p) (i n : Nat) : areB p ((xs.drop i).take n) = true := areB_mk fun j hj => by
  have e : ((xs.drop i).take n).getD j 0 = xs.getD (i + j) 0 := by
    simp at hj
    have hij : i + j < xs.length := by omega
    simp [List.getElem?_take, hj, hij]
  rw [e]
  exact getD_rng h hp _
end Go.Proofs.YtdjifjlgllohmaaDoor
/- Contract: l02Det (model). -/
namespace Go.Proofs.YtdjifjlgllohmaaDoor
open Go.RowKit
set_option linter.unusedVariables false
set_option linter.unusedSimpArgs false

theorem swapR_comm (X : Nat → List Int) (a b : Nat) : swapR X a b = swapR X b a := by
  funext i
  unfold swapR
  by_cases h1 : i = a
  · by_cases h2 : i = b
    · rw [if_pos h1, if_pos h2, ← h1, ← h2]
    · rw [if_pos h1, if_neg h2, if_pos h1]
  · by_cases h2 : i = b
    · rw [if_neg h1, if_pos h2, if_pos h2]
    · rw [if_neg h1, if_neg h2, if_neg h2, if_neg h1]
theorem SL.touchG {w w' : World} {a : Option Addr} {n c g : Nat} {xs : List Int} (h : SL w a n c xs) (t : Touch g (g + 1) w w') (hg : blk a ≠ some g) : SL w' a n c xs := by
  obtain ⟨h1, h2, h3⟩ := h
  refine ⟨h1, h2, ?_⟩
  rcases h3 with h3 | ⟨b, off, rfl, hc⟩
  · exact .inl h3
  · refine .inr ⟨b, off, rfl, fun i hi => t.cell (hc i hi) ?_⟩
    simp [blk] at hg
    omega
def elimH (p : Int) (own row : List Int) (F : Int) : Nat → Int := fun j => (row.getD j 0 - F * own.getD j 0) % p
set_option maxRecDepth 100000 in
set_option maxHeartbeats 6400000 in
theorem l02Det_any (p : Int) (B g n cap : Nat) (vs : List Value) (X : Nat → List Int) (w : World) (h : RowsX B g n cap w vs X n) (hn1 : 1 ≤ n) (hn : n ≤ 1000) (hp : 2 ≤ p) (hp2 : p ≤ 10007) (hX : ∀ i, i < n → areB p (X i) = true) :
    Calls Tryd.prog 109 #[.int .i64 p, .slice (some ⟨g, 0, none⟩) n cap] w
      fun e w' => e = .returned (.int .i64 (detM p n X)) ∧ Touch g (g + 1) w w' := by
  have hcap := h.le
  have hR0 : Hid (RowsX B g n cap w vs X n) := hide h
  have hA0 : Hid (∀ i, i < n → areB p (X i) = true) := hide hX
  have hD0 : Hid (detL p n (n - 0) 0 X 1 = detM p n X) := hide rfl
  have hT0 : Hid (Touch g (g + 1) w w) := hide (Touch.refl _ _ _)
  have hgw := (h.own.lt (by rw [h.len]; omega)).2
  clear h hX
  go_enter Tryd.func109, Tryd.ntmps109
  go_wp2_with fail
  go_loopw [5, 7] (fun rv iv wr => ∃ (k : Nat) (us : List Value) (Y : Nat → List Int) (r : Int), k ≤ n ∧ iv = .int .i64 k ∧ rv = .int .i64 r ∧ 0 ≤ r ∧ r < p ∧ Hid (RowsX B g n cap wr us Y n) ∧ Hid (∀ i, i < n → areB p (Y i) = true) ∧ Hid (detL p n (n - k) k Y r = detM p n X) ∧ Hid (Touch g (g + 1) w wr)) (fun _ iv _ => n - (intOf iv).toNat)
  case atStart => exact ⟨0, vs, X, 1, by omega, rfl, rfl, by omega, by omega, hR0, hA0, hD0, hT0⟩
  case round =>
    obtain ⟨k, us, Y, r, hk, rfl, rfl, r0, r1, hR, hA, hD, hT⟩ := hrel
    clear hR0 hA0 hD0 hT0
    by_cases hlt : k < n
    · have hlt' : (k : Int) < (n : Int) := by omega
      have hk0 : (0 : Int) ≤ (k : Int) := by omega
      have vk1 : IntKind.i64.wrap ((k : Int) + 1) = (k : Int) + 1 := IntWalk.i64_in _ (by omega)
      obtain ⟨wo, hwo⟩ : ∃ wo : World, wo = wr := ⟨_, rfl⟩
      subst hwo
      have hz0 : Hid (∀ i, k ≤ i → i < k → (Y i).getD k 0 = 0) := hide (fun i h1 h2 => by omega)
      have hgo := Nat.lt_of_lt_of_le hgw hT.out.size
      go_wp2_with fail
      go_loop [8] (fun bv => ∃ b : Nat, k ≤ b ∧ b ≤ n ∧ bv = .int .i64 b ∧ Hid (∀ i, k ≤ i → i < b → (Y i).getD k 0 = 0)) (fun bv => n - (intOf bv).toNat)
      case atStart => exact ⟨k, Nat.le_refl _, by omega, rfl, hz0⟩
      case round =>
        obtain ⟨b, hkb, hbn, rfl, hZ⟩ := hrel
        clear hz0
        by_cases hbl : b < n
        · have hbl' : (b : Int) < (n : Int) := by omega
          have hb0 : (0 : Int) ≤ (b : Int) := by omega
          obtain ⟨ab, cb, c1, s1, g1, f1⟩ := hR.out.get b hbl
          obtain ⟨bb, ob, rfl, _, hcb⟩ := s1.at (by omega)
          have c3 := hcb k hlt
          have rx := getD_rng (hA.out b hbl) hp k
          obtain ⟨x, hx⟩ : ∃ x, (Y b).getD k 0 = x := ⟨_, rfl⟩
          rw [hx] at c3 rx
          have HX := hide hx
          clear hx hcb
          by_cases hz : x = 0
          · subst hz
            have vb : IntKind.i64.wrap ((b : Int) + 1) = (b : Int) + 1 := IntWalk.i64_in _ (by omega)
            go_wp2
            go_round
            case rel => exact ⟨b + 1, by omega, by omega, by go_num, hide (fun i h1 h2 => by
              by_cases e : i = b
              · rw [e]; exact HX.out
              · exact hZ.out i h1 (by omega))⟩
            case measure => simp [intOf]; omega
          · have ob0 : (x == 0) = false := by simpa using hz
            have hpv : pivF Y k (n - k) k = b := by
              have := pivF_stop Y k (n - k) k (b - k) (by omega) (fun i h1 h2 => hZ.out i h1 (by omega)) (by rw [show k + (b - k) = b by omega, HX.out]; exact hz)
              rw [this]; omega
            have hstep : Hid (detL p n (n - (k + 1)) (k + 1) (stepR p n k n (swapR Y k b)) (sgn p r b k * x % p) = detM p n X) := hide (by
              have t := hD.out
              rw [show n - k = (n - (k + 1)) + 1 by omega, detL, hpv, if_neg (by omega)] at t
              have e : (swapR Y k b k).getD k 0 = x := by unfold swapR; rw [if_pos rfl]; exact HX.out
              rwa [e] at t)
            clear hpv hD hz
            have hbe : ((b : Int) == (n : Int)) = false := by simp; omega
            by_cases hbk : b = k
            · subst hbk
              have hne : ((b : Int) != (b : Int)) = false := by simp
              simp only [swapR_self, sgn, if_true] at hstep
              have hRS := hR
              have hAS := hA
              have hTS := hT
              have sO := s1
              have gO := g1
              have HXZ := HX
              have hus : ∃ us3, us3 = us := ⟨_, rfl⟩
              obtain ⟨us3, rfl⟩ := hus
              clear hR hA hT s1 f1
              obtain ⟨bx, ox, hxe, _, hcx⟩ := sO.at (by omega)
              simp only [Option.some.injEq, Addr.mk.injEq, and_true] at hxe
              obtain ⟨rfl, rfl⟩ := hxe
              have d2 := hcx b hlt
              have hZk : (Y b).getD b 0 = x := HXZ.out
              rw [hZk] at d2
              have m1 : 0 ≤ r * x := Int.mul_nonneg r0 rx.1
              have m2 : r * x ≤ 10007 * 10007 := Int.mul_le_mul (by omega) (by omega) rx.1 (by omega)
              have v1 : IntKind.i64.wrap (r * x) = r * x := IntWalk.i64_in _ (by omega)
              have v2 : (r * x).tmod p = r * x % p := Int.tmod_eq_emod_of_nonneg m1
              have rr := modb (x := r * x) hp
              obtain ⟨r', hr'⟩ : ∃ r', r * x % p = r' := ⟨_, rfl⟩
              rw [hr'] at v2 rr hstep
              have v3 : IntKind.i64.wrap r' = r' := IntWalk.i64_in _ (by omega)
              have hp0 : ¬ p = 0 := by omega
              have rI := invM_rng (p := p) x hp
              obtain ⟨I, hI⟩ : ∃ I, invM p x = I := ⟨_, rfl⟩
              have HI := hide hI
              rw [hI] at rI
              clear hcx m1 m2 hr' hI hZk
              go_wp2_with fail
              refine (l01Inverse_any p x _ hp hp2 rx.1 rx.2).mono ?_
              rintro e v5 ⟨rfl, rfl⟩
              rw [HI.out]
              have hT1 : Hid (Touch g (g + 1) wo wo) := hide (Touch.refl _ _ _)
              have hR1 : Hid (RowsX B g n cap wo us3 (stepR p n b (b + 1) Y) n) := hide (hRS.out.congr (fun i hi => by unfold stepR; rw [if_neg (by omega)]))
              clear v1 v2 v3
              go_wp2_with fail
              go_loopw [11] (fun iv wr => ∃ (i : Nat) (us4 : List Value), b + 1 ≤ i ∧ i ≤ n ∧ iv = .int .i64 i ∧ Hid (RowsX B g n cap wr us4 (stepR p n b i Y) n) ∧ Hid (Touch g (g + 1) wo wr)) (fun iv _ => n - (intOf iv).toNat)
              case atStart => exact ⟨b + 1, us3, Nat.le_refl _, by omega, by go_num, hR1, hT1⟩
              case round =>
                obtain ⟨i, us4, hik, hi, rfl, hR4, hT4⟩ := hrel
                clear hR1 hT1
                by_cases hil : i < n
                · have hil' : (i : Int) < (n : Int) := by omega
                  have hi0 : (0 : Int) ≤ (i : Int) := by omega
                  have vi : IntKind.i64.wrap ((i : Int) + 1) = (i : Int) + 1 := IntWalk.i64_in _ (by omega)
                  have sK := sO.touchG hT4.out gO
                  obtain ⟨ai, ci, c1, s1, g1, f1⟩ := hR4.out.get i hil
                  rw [stepR_at p n b i Y i (.inr (Nat.le_refl _))] at s1
                  obtain ⟨bi, oi, rfl, _, hci⟩ := s1.at (by omega)
                  have c3 := hci b hlt
                  have ry := getD_rng (hAS.out i hil) hp b
                  obtain ⟨y, hy⟩ : ∃ y, (Y i).getD b 0 = y := ⟨_, rfl⟩
                  rw [hy] at c3 ry
                  have Hy := hide hy
                  obtain ⟨n1', n2'⟩ := mulb ry.1 ry.2 rI.1 rI.2 hp2
                  have v1 : IntKind.i64.wrap (y * I) = y * I := IntWalk.i64_in _ (by omega)
                  have v2 : (y * I).tmod p = y * I % p := Int.tmod_eq_emod_of_nonneg (by omega)
                  have rF := modb (x := y * I) hp
                  obtain ⟨F, hF⟩ : ∃ F, y * I % p = F := ⟨_, rfl⟩
                  have HF := hide hF
                  rw [hF] at v2 rF
                  have v3 : IntKind.i64.wrap F = F := IntWalk.i64_in _ (by omega)
                  clear hy hci hF
                  have hba := bl1 wr (.cells #[] 2)
                  have hO0 : Hid (Own wr.heap.size (wr.alloc (.cells #[] 2)) (some ⟨wr.heap.size, 0, none⟩) 0 (tab 0 (elimH p (Y b) (Y i) F))) := hide (by
                    have t := World.ownsRow_lit wr (base := wr.heap.size) (e := 2) (size := 1) #[] 0 (Nat.le_refl _) (by decide) rfl
                    exact t)
                  have HS1 := hide s1
                  have HSK := hide sK
                  clear s1 sK
                  go_wp2
                  clear v1 v2 v3
                  obtain ⟨wp, hwp⟩ : ∃ wp : World, wp = wr := ⟨_, rfl⟩
                  subst hwp
                  go_loopw [13, 14] (fun nv jv wr => ∃ (j : Nat) (a' : Option Addr) (c' : Nat), j ≤ n ∧ jv = .int .i64 j ∧ nv = .slice a' j c' ∧ Hid (Own wp.heap.size wr a' c' (tab j (elimH p (Y b) (Y i) F))) ∧ Below wp.heap.size wp wr) (fun _ jv _ => n - (intOf jv).toNat)
                  case atStart => exact ⟨0, _, 0, by omega, rfl, rfl, hO0, hba⟩
                  case round =>
                    obtain ⟨j, a', c', hj, rfl, rfl, hO, hbr⟩ := hrel
                    clear hO0 hba
                    have e1 := cell_be hbr c1
                    by_cases hjl : j < n
                    · have hjl' : (j : Int) < (n : Int) := by omega
                      have hj0 : (0 : Int) ≤ (j : Int) := by omega
                      obtain ⟨_, _, hq, _, hcA⟩ := (HS1.out.below hbr).at (by omega)
                      simp only [Option.some.injEq, Addr.mk.injEq, and_true] at hq
                      obtain ⟨rfl, rfl⟩ := hq
                      obtain ⟨_, _, hq, _, hcB⟩ := (HSK.out.below hbr).at (by omega)
                      simp only [Option.some.injEq, Addr.mk.injEq, and_true] at hq
                      obtain ⟨rfl, rfl⟩ := hq
                      obtain ⟨_, _, hq, _, hcA0⟩ := HS1.out.at (by omega)
                      simp only [Option.some.injEq, Addr.mk.injEq, and_true] at hq
                      obtain ⟨rfl, rfl⟩ := hq
                      obtain ⟨_, _, hq, _, hcB0⟩ := HSK.out.at (by omega)
                      simp only [Option.some.injEq, Addr.mk.injEq, and_true] at hq
                      obtain ⟨rfl, rfl⟩ := hq
                      have e2 := hcA j hjl
                      have e3 := hcB j hjl
                      have r2 := getD_rng (hAS.out i hil) hp j
                      have r3 := getD_rng (hAS.out b hlt) hp j
                      have hst : Hid (tab (j + 1) (elimH p (Y b) (Y i) F) = tab j (elimH p (Y b) (Y i) F) ++ [((Y i).getD j 0 - F * (Y b).getD j 0) % p]) := hide (tab_snoc j _).symm
                      obtain ⟨u, hu⟩ : ∃ u, (Y i).getD j 0 = u := ⟨_, rfl⟩
                      obtain ⟨t, ht⟩ : ∃ t, (Y b).getD j 0 = t := ⟨_, rfl⟩
                      rw [hu] at e2 r2 hst
                      rw [ht] at e3 r3 hst
                      obtain ⟨zs, hzs⟩ : ∃ zs, tab j (elimH p (Y b) (Y i) F) = zs := ⟨_, rfl⟩
                      have hzl := hide (show zs.length = j by rw [← hzs, tab_len])
                      rw [hzs] at hO hst
                      obtain ⟨q1, q2⟩ := mulb rF.1 rF.2 r3.1 r3.2 hp2
                      obtain ⟨V, hV⟩ : ∃ V, (u - F * t) % p = V := ⟨_, rfl⟩
                      have HV := hide hV
                      rw [hV] at hst
                      clear hcA hcB hu ht hzs hV
                      have bb1 : -9223372036854775808 ≤ u - F * t := by omega
                      have bb2 : u - F * t ≤ 9223372036854775807 := by omega
                      have w1 : IntKind.i64.wrap (F * t) = F * t := IntWalk.i64_in _ (by omega)
                      have w2 : IntKind.i64.wrap (u - F * t) = u - F * t := IntWalk.i64_in _ (by omega)
                      have vj : IntKind.i64.wrap ((j : Int) + 1) = (j : Int) + 1 := IntWalk.i64_in _ (by omega)
                      have hbs := hbr.size
                      have hbd := (Below.refl wr.heap.size wr).drew
                      have hgw1 := World.block_lt_of_cell? _ _ c1
                      have hbi1 := World.block_lt_of_cell? _ _ (hcA0 j hjl)
                      have hbb1 := World.block_lt_of_cell? _ _ (hcB0 j hjl)
                      simp only at hgw1 hbi1 hbb1
                      clear hcA0 hcB0
                      go_upto_region 24 with fail
                      refine region_E (fun w' => w'.cell? ⟨g, i, none⟩ = some (.slice (some ⟨bi, oi, none⟩) n ci) ∧ w'.cell? ⟨bi, oi + j, none⟩ = some (.int .i64 u) ∧ w'.cell? ⟨bb, ob + j, none⟩ = some (.int .i64 t)) 19 (by kernel_rfl) ⟨cell_be hbd e1, cell_be hbd e2, cell_be hbd e3⟩ ?_
                      intro hS
                      refine anyE_takeL 0 rfl (by kernel_rfl) (fun _ _ _ h => h) hS (by rfl) (v := ?_) ?_ ?_
                      rotate_left
                      · intro w' hSw; (try dsimp only at hSw); go_simp; (try with_reducible rfl)
                      try simp only [Act.put, List.setIfInBounds_toArray, List.set_cons_zero, List.set_cons_succ]
                      refine anyE_takeL 1 rfl (by kernel_rfl) (fun _ _ _ h => h) hS (by rfl) (v := ?_) ?_ ?_
                      rotate_left
                      · intro w' hSw; (try dsimp only at hSw); go_simp; (try with_reducible rfl)
                      try simp only [Act.put, List.setIfInBounds_toArray, List.set_cons_zero, List.set_cons_succ]
                      refine anyE_takeL 2 rfl (by kernel_rfl) (fun _ _ _ h => h) hS (by rfl) (v := ?_) ?_ ?_
                      rotate_left
                      · intro w' hSw; (try dsimp only at hSw); go_simp; (try with_reducible rfl)
                      try simp only [Act.put, List.setIfInBounds_toArray, List.set_cons_zero, List.set_cons_succ]
                      refine anyE_takeL 3 rfl (by kernel_rfl) (fun _ _ _ h => h) hS (by rfl) (v := ?_) ?_ ?_
                      rotate_left
                      · intro w' hSw; (try dsimp only at hSw); go_simp; (try with_reducible rfl)
                      try simp only [Act.put, List.setIfInBounds_toArray, List.set_cons_zero, List.set_cons_succ]
                      refine anyE_takeL 4 rfl (by kernel_rfl) (fun _ _ _ h => h) hS (by rfl) (v := ?_) ?_ ?_
                      rotate_left
                      · intro w' hSw; (try dsimp only at hSw); go_simp; (try with_reducible rfl)
                      try simp only [Act.put, List.setIfInBounds_toArray, List.set_cons_zero, List.set_cons_succ]
                      refine anyE_takeL 5 rfl (by kernel_rfl) (fun _ _ _ h => h) hS (by rfl) (v := ?_) ?_ ?_
                      rotate_left
                      · intro w' hSw; (try dsimp only at hSw); go_simp; (try with_reducible rfl)
                      try simp only [Act.put, List.setIfInBounds_toArray, List.set_cons_zero, List.set_cons_succ]
                      refine anyE_takeL 6 rfl (by kernel_rfl) (fun _ _ _ h => h) hS (by rfl) (v := ?_) ?_ ?_
                      rotate_left
                      · intro w' hSw; (try dsimp only at hSw); go_simp; (try with_reducible rfl)
                      try simp only [Act.put, List.setIfInBounds_toArray, List.set_cons_zero, List.set_cons_succ]
                      refine anyE_takeL 7 rfl (by kernel_rfl) (fun _ _ _ h => h) hS (by rfl) (v := ?_) ?_ ?_
                      rotate_left
                      · intro w' hSw; (try dsimp only at hSw); go_simp; (try with_reducible rfl)
                      try simp only [Act.put, List.setIfInBounds_toArray, List.set_cons_zero, List.set_cons_succ]
                      refine anyE_takeL 8 rfl (by kernel_rfl) (fun _ _ _ h => h) hS (by rfl) (v := ?_) ?_ ?_
                      rotate_left
                      · intro w' hSw; (try dsimp only at hSw); go_simp; (try with_reducible rfl)
                      try simp only [Act.put, List.setIfInBounds_toArray, List.set_cons_zero, List.set_cons_succ]
                      refine anyE_takeL 9 rfl (by kernel_rfl) (fun _ _ _ h => h) hS (by rfl) (v := ?_) ?_ ?_
                      rotate_left
                      · intro w' hSw; (try dsimp only at hSw); go_simp; (try with_reducible rfl)
                      try simp only [Act.put, List.setIfInBounds_toArray, List.set_cons_zero, List.set_cons_succ]
                      refine anyE_takeL 10 rfl (by kernel_rfl) (fun _ _ _ h => h) hS (by rfl) (v := ?_) ?_ ?_
                      rotate_left
                      · intro w' hSw; (try dsimp only at hSw); go_simp; (try with_reducible rfl)
                      try simp only [Act.put, List.setIfInBounds_toArray, List.set_cons_zero, List.set_cons_succ]
                      refine anyE_takeL 11 rfl (by kernel_rfl) (fun _ _ _ h => h) hS (by rfl) (v := ?_) ?_ ?_
                      rotate_left
                      · intro w' hSw; (try dsimp only at hSw); go_simp; (try with_reducible rfl)
                      try simp only [Act.put, List.setIfInBounds_toArray, List.set_cons_zero, List.set_cons_succ]
                      refine anyE_takeL 12 rfl (by kernel_rfl) (fun _ _ _ h => h) hS (by rfl) (v := ?_) ?_ ?_
                      rotate_left
                      · intro w' hSw; (try dsimp only at hSw); go_simp; (try with_reducible rfl)
                      try simp only [Act.put, List.setIfInBounds_toArray, List.set_cons_zero, List.set_cons_succ]
                      refine anyE_takeL 13 rfl (by kernel_rfl) (fun _ _ _ h => h) hS (by rfl) (v := ?_) ?_ ?_
                      rotate_left
                      · intro w' hSw; (try dsimp only at hSw); go_simp; (try with_reducible rfl)
                      try simp only [Act.put, List.setIfInBounds_toArray, List.set_cons_zero, List.set_cons_succ]
                      refine anyE_takeL 14 rfl (by kernel_rfl) (fun _ _ _ h => h) hS (by rfl) (v := ?_) ?_ ?_
                      rotate_left
                      · intro w' hSw; (try dsimp only at hSw); go_simp; (try with_reducible rfl)
                      try simp only [Act.put, List.setIfInBounds_toArray, List.set_cons_zero, List.set_cons_succ]
                      refine anyE_takeL 15 rfl (by kernel_rfl) (fun _ _ _ h => h) hS (by rfl) (v := ?_) ?_ ?_
                      rotate_left
                      · intro w' hSw; (try dsimp only at hSw); go_simp; (try with_reducible rfl)
                      try simp only [Act.put, List.setIfInBounds_toArray, List.set_cons_zero, List.set_cons_succ]
                      refine anyE_oneL 16 (by kernel_rfl) rfl (fun K' hK' => ?_)
                      go_simp
                      refine (l01Mod_any p (u - F * t) _ hp hp2 bb1 bb2).mono ?_
                      rintro e w6 ⟨rfl, rfl⟩
                      rw [HV.out]
                      dsimp only
                      refine hK'.out _ _ hS ?_
                      clear hK' K'
                      try simp only [Act.put, List.setIfInBounds_toArray, List.set_cons_zero, List.set_cons_succ]
                      refine anyE_oneL 17 (by kernel_rfl) rfl (fun K' hK' => ?_)
                      go_simp
                      have hba : Below wr.heap.size wr (wr.drew.alloc (.cells #[.int .i64 V] 2)) := hbd.alloc (Nat.le_refl _) _
                      have hOa := hide (hO.out.below hba)
                      have hcl : (wr.drew.alloc (.cells #[.int .i64 V] 2)).cell? ⟨wr.heap.size, 0, none⟩ = some (.int .i64 V) := by simp [go_sem]
                      have S1 := And.intro (cell_be hba e1) (And.intro (cell_be hba e2) (cell_be hba e3))
                      refine hK'.out _ _ S1 ?_
                      clear hK' K'
                      try simp only [Act.put, List.setIfInBounds_toArray, List.set_cons_zero, List.set_cons_succ]
                      refine anyE_oneL 18 (by kernel_rfl) rfl (fun K' hK' => ?_)
                      refine step_app1 (by rfl) _ _ (by rfl) wp.heap.size _ _ _ zs (by rfl) hzl.out.symm hOa.out _ _ V (by rfl) hcl (by omega) (by simp; omega) ?_
                      intro ad' cap' w6 hown hgr hloc
                      have hge := own_blk_ge hOa.out
                      have S2 := And.intro (cell_ne hgr S1.1 (fun e => by have := hge _ e; omega)) (And.intro (cell_ne hgr S1.2.1 (fun e => by have := hge _ e; omega)) (cell_ne hgr S1.2.2 (fun e => by have := hge _ e; omega)))
                      refine hK'.out _ _ S2 ?_
                      clear hK' K'
                      try simp only [Act.put, List.setIfInBounds_toArray, List.set_cons_zero, List.set_cons_succ]
                      clear S1 S2
                      refine anyE_lastL (by kernel_rfl) rfl (by kernel_rfl) (fun K' hK' => ?_)
                      go_simp
                      refine hK'.out _ _ ?_
                      clear hK' K' hS
                      try simp only [Act.put, List.setIfInBounds_toArray, List.set_cons_zero, List.set_cons_succ]
                      clear w1 w2 bb1 bb2
                      have hown' : Hid (Own wp.heap.size w6 ad' cap' (tab (j + 1) (elimH p (Y b) (Y i) F))) := hide (by rw [hst.out]; exact hown)
                      have hB6 : Below wp.heap.size wp w6 := (hbr.trans (hba.mono hbs)).grown hgr (by simp; omega) hge
                      clear hown hgr hloc hge hOa hba hcl hst hbd e1 e2 e3 hO
                      go_wp2
                      go_roundw
                      case rel => exact ⟨j + 1, ad', cap', by omega, by go_num, by rw [hzl.out], hown', hB6⟩
                      case measure => simp [intOf]; omega
                    · have hjn : j = n := by omega
                      have hge : ¬ (j : Int) < (n : Int) := by omega
                      have f2 := (hbr.frozen (World.block_lt_of_cell? _ _ c1)).trans f1
                      have gN : blk a' ≠ some g := fun e => by
                        have := own_blk_ge hO.out g e
                        have := World.block_lt_of_cell? _ _ c1
                        simp only at this
                        omega
                      have hR5 : Hid (RowsX B g n cap (wr.setCell ⟨g, i, none⟩ (.slice a' j c')) (us4.set i (.slice a' j c')) (stepR p n b (i + 1) Y) n) := hide (by
                        rw [hjn]
                        refine (hR4.out.below hbr).put i hil ?_ gN (fun q hq hne => stepR_next p n b i Y q hne)
                        have t := hO.out.sl
                        rw [tab_len, hjn] at t
                        have e : stepR p n b (i + 1) Y i = tab n (elimH p (Y b) (Y i) F) := by
                          unfold stepR
                          rw [if_pos (by omega)]
                          unfold elimR elimH
                          rw [Hy.out, HXZ.out, HI.out, HF.out]
                        rw [e]
                        exact t)
                      have hT5 : Hid (Touch g (g + 1) wo (wr.setCell ⟨g, i, none⟩ (.slice a' j c'))) := hide ((hT4.out.trans (Touch.ofBelow hbr)).set (by simp) (by simp) _)
                      clear hO hjn hR4 hT4
                      go_wp2
                      go_roundw
                      case rel => exact ⟨i + 1, _, by omega, by omega, by go_num, hR5, hT5⟩
                      case measure => simp [intOf]; omega
                · have hin : i = n := by omega
                  have hge : ¬ (i : Int) < (n : Int) := by omega
                  have hR6 : Hid (RowsX B g n cap wr us4 (stepR p n b n Y) n) := hide (by have t := hR4.out; rwa [hin] at t)
                  have hA6 : Hid (∀ i, i < n → areB p (stepR p n b n Y i) = true) := hide (fun i hi => stepR_are hp n b n _ n hAS.out i hi)
                  have hT6 : Hid (Touch g (g + 1) w wr) := hide (hTS.out.trans hT4.out)
                  clear hin hR4 hT4
                  go_wp2
                  go_roundw
                  case rel => exact ⟨b + 1, us4, _, r', by omega, by go_num, rfl, rr.1, rr.2, hR6, hA6, hstep, hT6⟩
                  case measure => simp [intOf]; omega
            · have hne : ((b : Int) != (k : Int)) = true := by simp; omega
              obtain ⟨ak, ck, c2, s2, g2, f2⟩ := hR.out.get k hlt
              have q6 : b ≠ k := hbk
              have q7 : k ≠ b := fun e => hbk e.symm
              have vr : IntKind.i64.wrap (-r) = -r := IntWalk.i64_in _ (by omega)
              have hstep2 : Hid (detL p n (n - (k + 1)) (k + 1) (stepR p n k n (swapR Y k b)) ((-r) % p * x % p) = detM p n X) := hide (by have t := hstep.out; unfold sgn at t; rwa [if_neg hbk] at t)
              have rr0 := modb (x := -r) hp
              obtain ⟨r2, hr2⟩ : ∃ r2, (-r) % p = r2 := ⟨_, rfl⟩
              have HR2 := hide hr2
              rw [hr2] at rr0 hstep2
              obtain ⟨ws, hws⟩ : ∃ ws, ws = (wo.setCell ⟨g, b, none⟩ (.slice ak n ck)).setCell ⟨g, k, none⟩ (.slice (some ⟨bb, ob, none⟩) n cb) := ⟨_, rfl⟩
              have hRS : Hid (RowsX B g n cap ws ((us.set b (.slice ak n ck)).set k (.slice (some ⟨bb, ob, none⟩) n cb)) (swapR Y k b) n) := hide (by rw [hws, swapR_comm]; exact hR.out.swap b k hbl hlt q7 s1 s2 g1 g2)
              have hAS : Hid (∀ i, i < n → areB p (swapR Y k b i) = true) := hide (fun i hi => swapR_are n Y k b hlt hbl hA.out i hi)
              have hTS : Hid (Touch g (g + 1) w ws) := hide (by rw [hws]; exact (hT.out.set (by simp) (by simp) _).set (by simp) (by simp) _)
              have eZ : swapR Y k b k = Y b := by unfold swapR; rw [if_pos rfl]
              have sO : SL ws (some ⟨bb, ob, none⟩) n cb (swapR Y k b k) := by rw [eZ, hws]; exact (s1.otherG g1 _).otherG g1 _
              have gO := g1
              have HXZ := hide (show (swapR Y k b k).getD k 0 = x by rw [eZ]; exact HX.out)
              have hus : ∃ us3, us3 = ((us.set b (.slice ak n ck)).set k (.slice (some ⟨bb, ob, none⟩) n cb)) := ⟨_, rfl⟩
              obtain ⟨us3, hus⟩ := hus
              rw [← hus] at hRS
              clear hstep hus eZ
              have hstep := hstep2
              clear hstep2
              go_wp2_with fail
              refine (l01Mod_any p (-r) _ hp hp2 (by omega) (by omega)).mono ?_
              rintro e v7 ⟨rfl, rfl⟩
              rw [HR2.out, ← hws]
              clear hws hr2 hR hA hT s1 s2 c1 c2 c3 f1 f2 g1 g2 vr
              obtain ⟨bx, ox, hxe, _, hcx⟩ := sO.at (by omega)
              simp only [Option.some.injEq, Addr.mk.injEq, and_true] at hxe
              obtain ⟨rfl, rfl⟩ := hxe
              have d2 := hcx k hlt
              have hZk : ((swapR Y k b) k).getD k 0 = x := HXZ.out
              rw [hZk] at d2
              have m1 : 0 ≤ r2 * x := Int.mul_nonneg rr0.1 rx.1
              have m2 : r2 * x ≤ 10007 * 10007 := Int.mul_le_mul (by omega) (by omega) rx.1 (by omega)
              have v1 : IntKind.i64.wrap (r2 * x) = r2 * x := IntWalk.i64_in _ (by omega)
              have v2 : (r2 * x).tmod p = r2 * x % p := Int.tmod_eq_emod_of_nonneg m1
              have rr := modb (x := r2 * x) hp
              obtain ⟨r', hr'⟩ : ∃ r', r2 * x % p = r' := ⟨_, rfl⟩
              rw [hr'] at v2 rr hstep
              have v3 : IntKind.i64.wrap r' = r' := IntWalk.i64_in _ (by omega)
              have hp0 : ¬ p = 0 := by omega
              have rI := invM_rng (p := p) x hp
              obtain ⟨I, hI⟩ : ∃ I, invM p x = I := ⟨_, rfl⟩
              have HI := hide hI
              rw [hI] at rI
              clear hcx m1 m2 hr' hI hZk
              go_wp2_with fail
              refine (l01Inverse_any p x _ hp hp2 rx.1 rx.2).mono ?_
              rintro e v5 ⟨rfl, rfl⟩
              rw [HI.out]
              have hT1 : Hid (Touch g (g + 1) ws ws) := hide (Touch.refl _ _ _)
              have hR1 : Hid (RowsX B g n cap ws us3 (stepR p n k (k + 1) (swapR Y k b)) n) := hide (hRS.out.congr (fun i hi => by unfold stepR; rw [if_neg (by omega)]))
              clear v1 v2 v3
              go_wp2_with fail
              go_loopw [11] (fun iv wr => ∃ (i : Nat) (us4 : List Value), k + 1 ≤ i ∧ i ≤ n ∧ iv = .int .i64 i ∧ Hid (RowsX B g n cap wr us4 (stepR p n k i (swapR Y k b)) n) ∧ Hid (Touch g (g + 1) ws wr)) (fun iv _ => n - (intOf iv).toNat)
              case atStart => exact ⟨k + 1, us3, Nat.le_refl _, by omega, by go_num, hR1, hT1⟩
              case round =>
                obtain ⟨i, us4, hik, hi, rfl, hR4, hT4⟩ := hrel
                clear hR1 hT1
                by_cases hil : i < n
                · have hil' : (i : Int) < (n : Int) := by omega
                  have hi0 : (0 : Int) ≤ (i : Int) := by omega
                  have vi : IntKind.i64.wrap ((i : Int) + 1) = (i : Int) + 1 := IntWalk.i64_in _ (by omega)
                  have sK := sO.touchG hT4.out gO
                  obtain ⟨ai, ci, c1, s1, g1, f1⟩ := hR4.out.get i hil
                  rw [stepR_at p n k i (swapR Y k b) i (.inr (Nat.le_refl _))] at s1
                  obtain ⟨bi, oi, rfl, _, hci⟩ := s1.at (by omega)
                  have c3 := hci k hlt
                  have ry := getD_rng (hAS.out i hil) hp k
                  obtain ⟨y, hy⟩ : ∃ y, ((swapR Y k b) i).getD k 0 = y := ⟨_, rfl⟩
                  rw [hy] at c3 ry
                  have Hy := hide hy
                  obtain ⟨n1', n2'⟩ := mulb ry.1 ry.2 rI.1 rI.2 hp2
                  have v1 : IntKind.i64.wrap (y * I) = y * I := IntWalk.i64_in _ (by omega)
                  have v2 : (y * I).tmod p = y * I % p := Int.tmod_eq_emod_of_nonneg (by omega)
                  have rF := modb (x := y * I) hp
                  obtain ⟨F, hF⟩ : ∃ F, y * I % p = F := ⟨_, rfl⟩
                  have HF := hide hF
                  rw [hF] at v2 rF
                  have v3 : IntKind.i64.wrap F = F := IntWalk.i64_in _ (by omega)
                  clear hy hci hF
                  have hba := bl1 wr (.cells #[] 2)
                  have hO0 : Hid (Own wr.heap.size (wr.alloc (.cells #[] 2)) (some ⟨wr.heap.size, 0, none⟩) 0 (tab 0 (elimH p ((swapR Y k b) k) ((swapR Y k b) i) F))) := hide (by
                    have t := World.ownsRow_lit wr (base := wr.heap.size) (e := 2) (size := 1) #[] 0 (Nat.le_refl _) (by decide) rfl
                    exact t)
                  have HS1 := hide s1
                  have HSK := hide sK
                  clear s1 sK
                  go_wp2
                  clear v1 v2 v3
                  obtain ⟨wp, hwp⟩ : ∃ wp : World, wp = wr := ⟨_, rfl⟩
                  subst hwp
                  go_loopw [13, 14] (fun nv jv wr => ∃ (j : Nat) (a' : Option Addr) (c' : Nat), j ≤ n ∧ jv = .int .i64 j ∧ nv = .slice a' j c' ∧ Hid (Own wp.heap.size wr a' c' (tab j (elimH p ((swapR Y k b) k) ((swapR Y k b) i) F))) ∧ Below wp.heap.size wp wr) (fun _ jv _ => n - (intOf jv).toNat)
                  case atStart => exact ⟨0, _, 0, by omega, rfl, rfl, hO0, hba⟩
                  case round =>
                    obtain ⟨j, a', c', hj, rfl, rfl, hO, hbr⟩ := hrel
                    clear hO0 hba
                    have e1 := cell_be hbr c1
                    by_cases hjl : j < n
                    · have hjl' : (j : Int) < (n : Int) := by omega
                      have hj0 : (0 : Int) ≤ (j : Int) := by omega
                      obtain ⟨_, _, hq, _, hcA⟩ := (HS1.out.below hbr).at (by omega)
                      simp only [Option.some.injEq, Addr.mk.injEq, and_true] at hq
                      obtain ⟨rfl, rfl⟩ := hq
                      obtain ⟨_, _, hq, _, hcB⟩ := (HSK.out.below hbr).at (by omega)
                      simp only [Option.some.injEq, Addr.mk.injEq, and_true] at hq
                      obtain ⟨rfl, rfl⟩ := hq
                      obtain ⟨_, _, hq, _, hcA0⟩ := HS1.out.at (by omega)
                      simp only [Option.some.injEq, Addr.mk.injEq, and_true] at hq
                      obtain ⟨rfl, rfl⟩ := hq
                      obtain ⟨_, _, hq, _, hcB0⟩ := HSK.out.at (by omega)
                      simp only [Option.some.injEq, Addr.mk.injEq, and_true] at hq
                      obtain ⟨rfl, rfl⟩ := hq
                      have e2 := hcA j hjl
                      have e3 := hcB j hjl
                      have r2 := getD_rng (hAS.out i hil) hp j
                      have r3 := getD_rng (hAS.out k hlt) hp j
                      have hst : Hid (tab (j + 1) (elimH p ((swapR Y k b) k) ((swapR Y k b) i) F) = tab j (elimH p ((swapR Y k b) k) ((swapR Y k b) i) F) ++ [(((swapR Y k b) i).getD j 0 - F * ((swapR Y k b) k).getD j 0) % p]) := hide (tab_snoc j _).symm
                      obtain ⟨u, hu⟩ : ∃ u, ((swapR Y k b) i).getD j 0 = u := ⟨_, rfl⟩
                      obtain ⟨t, ht⟩ : ∃ t, ((swapR Y k b) k).getD j 0 = t := ⟨_, rfl⟩
                      rw [hu] at e2 r2 hst
                      rw [ht] at e3 r3 hst
                      obtain ⟨zs, hzs⟩ : ∃ zs, tab j (elimH p ((swapR Y k b) k) ((swapR Y k b) i) F) = zs := ⟨_, rfl⟩
                      have hzl := hide (show zs.length = j by rw [← hzs, tab_len])
                      rw [hzs] at hO hst
                      obtain ⟨q1, q2⟩ := mulb rF.1 rF.2 r3.1 r3.2 hp2
                      obtain ⟨V, hV⟩ : ∃ V, (u - F * t) % p = V := ⟨_, rfl⟩
                      have HV := hide hV
                      rw [hV] at hst
                      clear hcA hcB hu ht hzs hV
                      have bb1 : -9223372036854775808 ≤ u - F * t := by omega
                      have bb2 : u - F * t ≤ 9223372036854775807 := by omega
                      have w1 : IntKind.i64.wrap (F * t) = F * t := IntWalk.i64_in _ (by omega)
                      have w2 : IntKind.i64.wrap (u - F * t) = u - F * t := IntWalk.i64_in _ (by omega)
                      have vj : IntKind.i64.wrap ((j : Int) + 1) = (j : Int) + 1 := IntWalk.i64_in _ (by omega)
                      have hbs := hbr.size
                      have hbd := (Below.refl wr.heap.size wr).drew
                      have hgw1 := World.block_lt_of_cell? _ _ c1
                      have hbi1 := World.block_lt_of_cell? _ _ (hcA0 j hjl)
                      have hbb1 := World.block_lt_of_cell? _ _ (hcB0 j hjl)
                      simp only at hgw1 hbi1 hbb1
                      clear hcA0 hcB0
                      go_upto_region 24 with fail
                      refine region_E (fun w' => w'.cell? ⟨g, i, none⟩ = some (.slice (some ⟨bi, oi, none⟩) n ci) ∧ w'.cell? ⟨bi, oi + j, none⟩ = some (.int .i64 u) ∧ w'.cell? ⟨bb, ob + j, none⟩ = some (.int .i64 t)) 19 (by kernel_rfl) ⟨cell_be hbd e1, cell_be hbd e2, cell_be hbd e3⟩ ?_
                      intro hS
                      refine anyE_takeL 0 rfl (by kernel_rfl) (fun _ _ _ h => h) hS (by rfl) (v := ?_) ?_ ?_
                      rotate_left
                      · intro w' hSw; (try dsimp only at hSw); go_simp; (try with_reducible rfl)
                      try simp only [Act.put, List.setIfInBounds_toArray, List.set_cons_zero, List.set_cons_succ]
                      refine anyE_takeL 1 rfl (by kernel_rfl) (fun _ _ _ h => h) hS (by rfl) (v := ?_) ?_ ?_
                      rotate_left
                      · intro w' hSw; (try dsimp only at hSw); go_simp; (try with_reducible rfl)
                      try simp only [Act.put, List.setIfInBounds_toArray, List.set_cons_zero, List.set_cons_succ]
                      refine anyE_takeL 2 rfl (by kernel_rfl) (fun _ _ _ h => h) hS (by rfl) (v := ?_) ?_ ?_
                      rotate_left
                      · intro w' hSw; (try dsimp only at hSw); go_simp; (try with_reducible rfl)
                      try simp only [Act.put, List.setIfInBounds_toArray, List.set_cons_zero, List.set_cons_succ]
                      refine anyE_takeL 3 rfl (by kernel_rfl) (fun _ _ _ h => h) hS (by rfl) (v := ?_) ?_ ?_
                      rotate_left
                      · intro w' hSw; (try dsimp only at hSw); go_simp; (try with_reducible rfl)
                      try simp only [Act.put, List.setIfInBounds_toArray, List.set_cons_zero, List.set_cons_succ]
                      refine anyE_takeL 4 rfl (by kernel_rfl) (fun _ _ _ h => h) hS (by rfl) (v := ?_) ?_ ?_
                      rotate_left
                      · intro w' hSw; (try dsimp only at hSw); go_simp; (try with_reducible rfl)
                      try simp only [Act.put, List.setIfInBounds_toArray, List.set_cons_zero, List.set_cons_succ]
                      refine anyE_takeL 5 rfl (by kernel_rfl) (fun _ _ _ h => h) hS (by rfl) (v := ?_) ?_ ?_
                      rotate_left
                      · intro w' hSw; (try dsimp only at hSw); go_simp; (try with_reducible rfl)
                      try simp only [Act.put, List.setIfInBounds_toArray, List.set_cons_zero, List.set_cons_succ]
                      refine anyE_takeL 6 rfl (by kernel_rfl) (fun _ _ _ h => h) hS (by rfl) (v := ?_) ?_ ?_
                      rotate_left
                      · intro w' hSw; (try dsimp only at hSw); go_simp; (try with_reducible rfl)
                      try simp only [Act.put, List.setIfInBounds_toArray, List.set_cons_zero, List.set_cons_succ]
                      refine anyE_takeL 7 rfl (by kernel_rfl) (fun _ _ _ h => h) hS (by rfl) (v := ?_) ?_ ?_
                      rotate_left
                      · intro w' hSw; (try dsimp only at hSw); go_simp; (try with_reducible rfl)
                      try simp only [Act.put, List.setIfInBounds_toArray, List.set_cons_zero, List.set_cons_succ]
                      refine anyE_takeL 8 rfl (by kernel_rfl) (fun _ _ _ h => h) hS (by rfl) (v := ?_) ?_ ?_
                      rotate_left
                      · intro w' hSw; (try dsimp only at hSw); go_simp; (try with_reducible rfl)
                      try simp only [Act.put, List.setIfInBounds_toArray, List.set_cons_zero, List.set_cons_succ]
                      refine anyE_takeL 9 rfl (by kernel_rfl) (fun _ _ _ h => h) hS (by rfl) (v := ?_) ?_ ?_
                      rotate_left
                      · intro w' hSw; (try dsimp only at hSw); go_simp; (try with_reducible rfl)
                      try simp only [Act.put, List.setIfInBounds_toArray, List.set_cons_zero, List.set_cons_succ]
                      refine anyE_takeL 10 rfl (by kernel_rfl) (fun _ _ _ h => h) hS (by rfl) (v := ?_) ?_ ?_
                      rotate_left
                      · intro w' hSw; (try dsimp only at hSw); go_simp; (try with_reducible rfl)
                      try simp only [Act.put, List.setIfInBounds_toArray, List.set_cons_zero, List.set_cons_succ]
                      refine anyE_takeL 11 rfl (by kernel_rfl) (fun _ _ _ h => h) hS (by rfl) (v := ?_) ?_ ?_
                      rotate_left
                      · intro w' hSw; (try dsimp only at hSw); go_simp; (try with_reducible rfl)
                      try simp only [Act.put, List.setIfInBounds_toArray, List.set_cons_zero, List.set_cons_succ]
                      refine anyE_takeL 12 rfl (by kernel_rfl) (fun _ _ _ h => h) hS (by rfl) (v := ?_) ?_ ?_
                      rotate_left
                      · intro w' hSw; (try dsimp only at hSw); go_simp; (try with_reducible rfl)
                      try simp only [Act.put, List.setIfInBounds_toArray, List.set_cons_zero, List.set_cons_succ]
                      refine anyE_takeL 13 rfl (by kernel_rfl) (fun _ _ _ h => h) hS (by rfl) (v := ?_) ?_ ?_
                      rotate_left
                      · intro w' hSw; (try dsimp only at hSw); go_simp; (try with_reducible rfl)
                      try simp only [Act.put, List.setIfInBounds_toArray, List.set_cons_zero, List.set_cons_succ]
                      refine anyE_takeL 14 rfl (by kernel_rfl) (fun _ _ _ h => h) hS (by rfl) (v := ?_) ?_ ?_
                      rotate_left
                      · intro w' hSw; (try dsimp only at hSw); go_simp; (try with_reducible rfl)
                      try simp only [Act.put, List.setIfInBounds_toArray, List.set_cons_zero, List.set_cons_succ]
                      refine anyE_takeL 15 rfl (by kernel_rfl) (fun _ _ _ h => h) hS (by rfl) (v := ?_) ?_ ?_
                      rotate_left
                      · intro w' hSw; (try dsimp only at hSw); go_simp; (try with_reducible rfl)
                      try simp only [Act.put, List.setIfInBounds_toArray, List.set_cons_zero, List.set_cons_succ]
                      refine anyE_oneL 16 (by kernel_rfl) rfl (fun K' hK' => ?_)
                      go_simp
                      refine (l01Mod_any p (u - F * t) _ hp hp2 bb1 bb2).mono ?_
                      rintro e w6 ⟨rfl, rfl⟩
                      rw [HV.out]
                      dsimp only
                      refine hK'.out _ _ hS ?_
                      clear hK' K'
                      try simp only [Act.put, List.setIfInBounds_toArray, List.set_cons_zero, List.set_cons_succ]
                      refine anyE_oneL 17 (by kernel_rfl) rfl (fun K' hK' => ?_)
                      go_simp
                      have hba : Below wr.heap.size wr (wr.drew.alloc (.cells #[.int .i64 V] 2)) := hbd.alloc (Nat.le_refl _) _
                      have hOa := hide (hO.out.below hba)
                      have hcl : (wr.drew.alloc (.cells #[.int .i64 V] 2)).cell? ⟨wr.heap.size, 0, none⟩ = some (.int .i64 V) := by simp [go_sem]
                      have S1 := And.intro (cell_be hba e1) (And.intro (cell_be hba e2) (cell_be hba e3))
                      refine hK'.out _ _ S1 ?_
                      clear hK' K'
                      try simp only [Act.put, List.setIfInBounds_toArray, List.set_cons_zero, List.set_cons_succ]
                      refine anyE_oneL 18 (by kernel_rfl) rfl (fun K' hK' => ?_)
                      refine step_app1 (by rfl) _ _ (by rfl) wp.heap.size _ _ _ zs (by rfl) hzl.out.symm hOa.out _ _ V (by rfl) hcl (by omega) (by simp; omega) ?_
                      intro ad' cap' w6 hown hgr hloc
                      have hge := own_blk_ge hOa.out
                      have S2 := And.intro (cell_ne hgr S1.1 (fun e => by have := hge _ e; omega)) (And.intro (cell_ne hgr S1.2.1 (fun e => by have := hge _ e; omega)) (cell_ne hgr S1.2.2 (fun e => by have := hge _ e; omega)))
                      refine hK'.out _ _ S2 ?_
                      clear hK' K'
                      try simp only [Act.put, List.setIfInBounds_toArray, List.set_cons_zero, List.set_cons_succ]
                      clear S1 S2
                      refine anyE_lastL (by kernel_rfl) rfl (by kernel_rfl) (fun K' hK' => ?_)
                      go_simp
                      refine hK'.out _ _ ?_
                      clear hK' K' hS
                      try simp only [Act.put, List.setIfInBounds_toArray, List.set_cons_zero, List.set_cons_succ]
                      clear w1 w2 bb1 bb2
                      have hown' : Hid (Own wp.heap.size w6 ad' cap' (tab (j + 1) (elimH p ((swapR Y k b) k) ((swapR Y k b) i) F))) := hide (by rw [hst.out]; exact hown)
                      have hB6 : Below wp.heap.size wp w6 := (hbr.trans (hba.mono hbs)).grown hgr (by simp; omega) hge
                      clear hown hgr hloc hge hOa hba hcl hst hbd e1 e2 e3 hO
                      go_wp2
                      go_roundw
                      case rel => exact ⟨j + 1, ad', cap', by omega, by go_num, by rw [hzl.out], hown', hB6⟩
                      case measure => simp [intOf]; omega
                    · have hjn : j = n := by omega
                      have hge : ¬ (j : Int) < (n : Int) := by omega
                      have f2 := (hbr.frozen (World.block_lt_of_cell? _ _ c1)).trans f1
                      have gN : blk a' ≠ some g := fun e => by
                        have := own_blk_ge hO.out g e
                        have := World.block_lt_of_cell? _ _ c1
                        simp only at this
                        omega
                      have hR5 : Hid (RowsX B g n cap (wr.setCell ⟨g, i, none⟩ (.slice a' j c')) (us4.set i (.slice a' j c')) (stepR p n k (i + 1) (swapR Y k b)) n) := hide (by
                        rw [hjn]
                        refine (hR4.out.below hbr).put i hil ?_ gN (fun q hq hne => stepR_next p n k i (swapR Y k b) q hne)
                        have t := hO.out.sl
                        rw [tab_len, hjn] at t
                        have e : stepR p n k (i + 1) (swapR Y k b) i = tab n (elimH p ((swapR Y k b) k) ((swapR Y k b) i) F) := by
                          unfold stepR
                          rw [if_pos (by omega)]
                          unfold elimR elimH
                          rw [Hy.out, HXZ.out, HI.out, HF.out]
                        rw [e]
                        exact t)
                      have hT5 : Hid (Touch g (g + 1) ws (wr.setCell ⟨g, i, none⟩ (.slice a' j c'))) := hide ((hT4.out.trans (Touch.ofBelow hbr)).set (by simp) (by simp) _)
                      clear hO hjn hR4 hT4
                      go_wp2
                      go_roundw
                      case rel => exact ⟨i + 1, _, by omega, by omega, by go_num, hR5, hT5⟩
                      case measure => simp [intOf]; omega
                · have hin : i = n := by omega
                  have hge : ¬ (i : Int) < (n : Int) := by omega
                  have hR6 : Hid (RowsX B g n cap wr us4 (stepR p n k n (swapR Y k b)) n) := hide (by have t := hR4.out; rwa [hin] at t)
                  have hA6 : Hid (∀ i, i < n → areB p (stepR p n k n (swapR Y k b) i) = true) := hide (fun i hi => stepR_are hp n k n _ n hAS.out i hi)
                  have hT6 : Hid (Touch g (g + 1) w wr) := hide (hTS.out.trans hT4.out)
                  clear hin hR4 hT4
                  go_wp2
                  go_roundw
                  case rel => exact ⟨k + 1, us4, _, r', by omega, by go_num, rfl, rr.1, rr.2, hR6, hA6, hstep, hT6⟩
                  case measure => simp [intOf]; omega
        · have hbn' : b = n := by omega
          have hdet : Hid (detM p n X = 0) := hide (by
            rw [← hD.out, show n - k = (n - k - 1) + 1 by omega, detL, if_pos (by rw [pivF_skip Y k (n - k) k (fun i h1 h2 => hZ.out i h1 (by omega))]; omega)])
          have hge : ¬ (b : Int) < (n : Int) := by omega
          have hbe : ((b : Int) == (n : Int)) = true := by simp; omega
          clear hbn'
          go_wp2
          go_ret
          exact ⟨ret_int hdet.out.symm, hT.out⟩
    · have hkn : k = n := by omega
      have hge : ¬ (k : Int) < (n : Int) := by omega
      have hd : Hid (r = detM p n X) := hide (by have := hD.out; rw [hkn, Nat.sub_self] at this; exact this)
      clear hkn
      go_wp2
      go_ret
      exact ⟨ret_int hd.out, hT.out⟩
end Go.Proofs.YtdjifjlgllohmaaDoor
