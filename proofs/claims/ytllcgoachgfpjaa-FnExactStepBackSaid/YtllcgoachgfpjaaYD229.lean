/- Merged texts. -/
import Derived.Test.YtllcgoachgfpjaaProg
import Derived.WalkMore
import Derived.ScopeJumps
import Derived.Test.YtllcgoachgfpjaaYD228
/- A scope with two labels: what holds at a jump to the first, and what is left to be done at a jump to the second. -/
namespace Go.Proofs.Ytllcgoachgfpjaa
open Go
/-- By a goto to label l: J; to label q: K; by any other goto: no way out; else Q. -/
def jumpTwo (l q : Nat) (J K : Act → World → Prop) (Q : Exit → Act → World → Prop) : Exit → Act → World → Prop
  | .goto x, a, w => (x = l ∧ J a w) ∨ (x = q ∧ K a w)
  | e, a, w => Q e a w
section
variable {P : Program} {a : Act} {w : World} {Q : Exit → Act → World → Prop}
theorem wp_scope_two {c rl rq : Code} (l q : Nat) (J : Act → World → Prop) (μ : Act → World → Nat) (hl : findLabel c l = some rl) (hq : findLabel c q = some rq)
    (first : c.wp P (jumpTwo l q J (fun a' w' => rq.wp P (Exit.jump l J Q) a' w') Q) a w)
    (pass : ∀ a w, J a w → rl.wp P (jumpTwo l q (fun a' w' => J a' w' ∧ μ a' w' < μ a w) (fun a' w' => rq.wp P (Exit.jump l (fun a2 w2 => J a2 w2 ∧ μ a2 w2 < μ a w) Q) a' w') Q) a w) : (Code.scope c).wp P Q a w := by
  intro b k cs
  have gl : gotoIn l (.inScope c :: k) = some (.code rl :: .inScope c :: k) := by simp [gotoIn, hl]
  have gq : gotoIn q (.inScope c :: k) = some (.code rq :: .inScope c :: k) := by simp [gotoIn, hq]
  -- a way that ends otherwise than by a jump is the scope's own
  have out : ∀ {s : Nat → Prop} {J' : Act → World → Prop} (a w), rq.wp P (Exit.jump l J' Q) a w →
      (∀ a' w', J' a' w' → ∃ e a'' w'', Q e a'' w'' ∧ Arrives P (lone (b.at a' (.code rl :: .inScope c :: k)) cs w') b k cs e a'' w'') →
      ∃ e a' w', Q e a' w' ∧ Arrives P (lone (b.at a (.code rq :: .inScope c :: k)) cs w) b k cs e a' w' := by
    intro _ J' a w h hJ
    obtain ⟨e, a1, w1, h1, h2⟩ := h b (.inScope c :: k) cs
    cases e with
    | normal => exact ⟨.normal, a1, w1, h1, Steps.trans h2 (.one step_inScope)⟩
    | exit id => exact ⟨.exit id, a1, w1, h1, fun k' hk => h2 k' (by simp [exitTo, hk])⟩
    | goto x =>
      obtain ⟨rfl, hj⟩ := h1
      obtain ⟨e2, a2, w2, h3, h4⟩ := hJ _ _ hj
      exact ⟨e2, a2, w2, h3, .of_steps (h2 _ gl) h4⟩
    | ret => exact ⟨_, a1, w1, h1, h2⟩
    | panic ch => exact ⟨_, a1, w1, h1, h2⟩
    | outgrown => exact ⟨_, a1, w1, h1, h2⟩
  have key : ∀ n a w, μ a w = n → J a w → ∃ e a' w', Q e a' w' ∧ Arrives P (lone (b.at a (.code rl :: .inScope c :: k)) cs w) b k cs e a' w' := by
    intro n
    induction n using Nat.strongRecOn with
    | _ n ih =>
      intro a w hn hJ
      obtain ⟨e, a1, w1, h1, h2⟩ := pass a w hJ b (.inScope c :: k) cs
      cases e with
      | normal => exact ⟨.normal, a1, w1, h1, Steps.trans h2 (.one step_inScope)⟩
      | exit id => exact ⟨.exit id, a1, w1, h1, fun k' hk => h2 k' (by simp [exitTo, hk])⟩
      | goto x =>
        rcases h1 with ⟨rfl, hj, hlt⟩ | ⟨rfl, hk⟩
        · obtain ⟨e2, a2, w2, h3, h4⟩ := ih _ (by omega) a1 w1 rfl hj
          exact ⟨e2, a2, w2, h3, .of_steps (h2 _ gl) h4⟩
        · obtain ⟨e2, a2, w2, h3, h4⟩ := out (s := fun _ => True) _ _ hk (fun a' w' hj => ih _ (by omega) a' w' rfl hj.1)
          exact ⟨e2, a2, w2, h3, .of_steps (h2 _ gq) h4⟩
      | ret => exact ⟨_, a1, w1, h1, h2⟩
      | panic ch => exact ⟨_, a1, w1, h1, h2⟩
      | outgrown => exact ⟨_, a1, w1, h1, h2⟩
  obtain ⟨e, a1, w1, h1, h2⟩ := first b (.inScope c :: k) cs
  cases e with
  | normal => exact ⟨.normal, a1, w1, h1, .head step_scope (Steps.trans h2 (.one step_inScope))⟩
  | exit id => exact ⟨.exit id, a1, w1, h1, fun k' hk => .head step_scope (h2 k' (by simp [exitTo, hk]))⟩
  | goto x =>
    rcases h1 with ⟨rfl, hj⟩ | ⟨rfl, hk⟩
    · obtain ⟨e2, a2, w2, h3, h4⟩ := key _ a1 w1 rfl hj
      exact ⟨e2, a2, w2, h3, .of_steps (.head step_scope (h2 _ gl)) h4⟩
    · obtain ⟨e2, a2, w2, h3, h4⟩ := out (s := fun _ => True) _ _ hk (fun a' w' hj => key _ a' w' rfl hj)
      exact ⟨e2, a2, w2, h3, .of_steps (.head step_scope (h2 _ gq)) h4⟩
  | ret => exact ⟨_, a1, w1, h1, .of_steps (.one step_scope) h2⟩
  | panic ch => exact ⟨_, a1, w1, h1, .of_steps (.one step_scope) h2⟩
  | outgrown => exact ⟨_, a1, w1, h1, .of_steps (.one step_scope) h2⟩
/-- The same, told once: the way to the first label leads to J, whatever is asked behind it. -/
theorem wp_scope_lab {c x rq : Code} (l q : Nat) (J : Act → World → Prop) (μ : Act → World → Nat) (hl : findLabel c l = some (Code.skip.seq x)) (hq : findLabel c q = some rq)
    (first : ∀ Q', (∀ a w, J a w → x.wp P Q' a w) → c.wp P Q' a w)
    (pass : ∀ a w, J a w → x.wp P (jumpTwo l q (fun a' w' => J a' w' ∧ μ a' w' < μ a w) (fun a' w' => rq.wp P (Exit.jump l (fun a2 w2 => J a2 w2 ∧ μ a2 w2 < μ a w) Q) a' w') Q) a w) : (Code.scope c).wp P Q a w := by
  refine wp_scope_two l q J μ hl hq (first _ fun a w hJ => wp_mono (pass a w hJ) ?_) fun a w hJ => wp_seq (wp_skip (pass a w hJ))
  intro e a' w' h
  cases e with
  | goto y =>
    rcases h with ⟨rfl, h1, _⟩ | ⟨rfl, h1⟩
    · exact .inl ⟨rfl, h1⟩
    · refine .inr ⟨rfl, wp_mono h1 ?_⟩
      intro e a2 w2 h2
      cases e with
      | goto z => exact ⟨h2.1, h2.2.1⟩
      | normal => exact h2
      | exit id => exact h2
      | ret => exact h2
      | panic ch => exact h2
      | outgrown => exact h2
  | normal => exact h
  | exit id => exact h
  | ret => exact h
  | panic ch => exact h
  | outgrown => exact h
end
end Go.Proofs.Ytllcgoachgfpjaa
/- Contract: differencesAndQuotients (program; goto). -/
namespace Go.Proofs.Ytllcgoachgfpjaa
open Go.RowKit
set_option linter.unusedVariables false
set_option linter.unusedSimpArgs false

/-- What holds at the label of the differences. -/
def DqJ (p : Int) (a : Option Addr) (n c : Nat) (xs : List Int) (b : Option Addr) (d : Nat) (ys : List Int) (l0 : Int) (w w1 : World) (a' : Act) (w' : World) : Prop :=
  ∃ (k cap : Nat) (q : Option Addr) (u3 u9 u10 u11 u12 u13 u14 u15 u16 u17 u18 u19 u20 u21 u22 u23 u24 u25 u26 u27 u28 u29 u30 u31 u32 u33 u34 u35 u36 u37 u38 u39 u40 u41 u42 u43 u44 u45 u46 u47 u48 u49 u50 : Value), a' = { tmps := #[jac p a n c b n d, .int .i64 (dfL p xs ys 0 l0 k), .pointer (some ⟨w.heap.size, 0, none⟩), u3, .slice none 0 0, .bool false, .slice q (dqV p xs ys 0 l0 k).length cap, .int .i64 p, .int .i64 ((k : Int)), u9, u10, u11, u12, u13, u14, u15, u16, u17, u18, u19, u20, u21, u22, u23, u24, u25, u26, u27, u28, u29, u30, u31, u32, u33, u34, u35, u36, u37, u38, u39, u40, u41, u42, u43, u44, u45, u46, u47, u48, u49, u50], defers := [] } ∧ k ≤ n - 1 ∧ Hid (Own w1.heap.size w' q cap (dqV p xs ys 0 l0 k)) ∧ Hid (Below w1.heap.size w1 w') ∧ Hid (∀ j, j < k → dfD p xs ys 0 l0 j ≠ 0)
theorem DqJ.mk {p : Int} {a : Option Addr} {n c : Nat} {xs : List Int} {b : Option Addr} {d : Nat} {ys : List Int} {l0 : Int} {w w1 : World} {w' : World} {k cap len : Nat} {q : Option Addr} {last kk : Int} {u3 u9 u10 u11 u12 u13 u14 u15 u16 u17 u18 u19 u20 u21 u22 u23 u24 u25 u26 u27 u28 u29 u30 u31 u32 u33 u34 u35 u36 u37 u38 u39 u40 u41 u42 u43 u44 u45 u46 u47 u48 u49 u50 : Value} (e1 : last = dfL p xs ys 0 l0 k) (e2 : len = (dqV p xs ys 0 l0 k).length) (e3 : kk = k)
    (hk : k ≤ n - 1) (hO : Own w1.heap.size w' q cap (dqV p xs ys 0 l0 k)) (hB : Below w1.heap.size w1 w') (hD : ∀ j, j < k → dfD p xs ys 0 l0 j ≠ 0) : DqJ p a n c xs b d ys l0 w w1 { tmps := #[jac p a n c b n d, .int .i64 (last), .pointer (some ⟨w.heap.size, 0, none⟩), u3, .slice none 0 0, .bool false, .slice q len cap, .int .i64 p, .int .i64 (kk), u9, u10, u11, u12, u13, u14, u15, u16, u17, u18, u19, u20, u21, u22, u23, u24, u25, u26, u27, u28, u29, u30, u31, u32, u33, u34, u35, u36, u37, u38, u39, u40, u41, u42, u43, u44, u45, u46, u47, u48, u49, u50], defers := [] } w' := by
  subst e1; subst e2; subst e3
  exact ⟨k, cap, q, u3, u9, u10, u11, u12, u13, u14, u15, u16, u17, u18, u19, u20, u21, u22, u23, u24, u25, u26, u27, u28, u29, u30, u31, u32, u33, u34, u35, u36, u37, u38, u39, u40, u41, u42, u43, u44, u45, u46, u47, u48, u49, u50, rfl, hk, hide hO, hide hB, hide hD⟩
def DqM (n : Nat) (a' : Act) (_ : World) : Nat := n - (intOf (a'.tmps.getD 8 undef)).toNat
set_option maxRecDepth 100000 in
set_option maxHeartbeats 6400000 in
theorem diff_any (p : Int) (a : Option Addr) (n c : Nat) (xs : List Int) (b : Option Addr) (d : Nat) (ys : List Int) (l0 : Int) (w : World) (hs : SL w a n c xs) (ht : SL w b n d ys) (hp : 2 ≤ p) (hp2 : p ≤ 10007) (hx : areB p xs = true) (hy : areB p ys = true) (hn1 : 1 ≤ n) (hn2 : n ≤ 12) (l1 : 0 ≤ l0) (l2 : l0 < p) :
    Calls Try.prog 72 #[jac p a n c b n d, .int .i64 l0] w fun e w' => Below w.heap.size w w' ∧ ((dqB p xs ys 0 l0 (n - 1) = true ∧ ∃ a' c', e = .returned (.tuple #[.slice a' (2 * (n - 1)) c', .bool true]) ∧ Own w.heap.size w' a' c' (dqV p xs ys 0 l0 (n - 1))) ∨ (dqB p xs ys 0 l0 (n - 1) = false ∧ e = .returned (.tuple #[.slice none 0 0, .bool false]))) := by
  have hl := hide hs.len
  have hl2 := hide ht.len
  have hb0 := bl1 w (.cells #[.int .i64 p, .slice a n c, .slice b n d] 38)
  obtain ⟨w1, hw1⟩ : ∃ w1, w1 = w.alloc (.cells #[.int .i64 p, .slice a n c, .slice b n d] 38) := ⟨_, rfl⟩
  have f0 : w1.cell? ⟨w.heap.size, 0, none⟩ = some (.int .i64 p) := by rw [hw1]; simp [go_sem]
  have f1 : w1.cell? ⟨w.heap.size, 1, none⟩ = some (.slice a n c) := by rw [hw1]; simp [go_sem]
  have f2 : w1.cell? ⟨w.heap.size, 2, none⟩ = some (.slice b n d) := by rw [hw1]; simp [go_sem]
  have z1 : w.heap.size + 1 ≤ w1.heap.size := by rw [hw1]; simp
  rw [← hw1] at hb0
  have g1 := hs.below hb0
  have g2 := ht.below hb0
  have Hx := hide hx
  have Hy := hide hy
  have ML := hide (fun k => dfL_rng hp xs ys 0 l1 l2 k)
  have MD := hide (fun k => dfD_rng hp xs ys 0 l0 k)
  have vp : IntKind.i64.wrap (p - 1) = p - 1 := IntWalk.i64_in _ (by omega)
  have vn : IntKind.i64.wrap ((n : Int) - 1) = (n : Int) - 1 := IntWalk.i64_in _ (by omega)
  obtain ⟨aa, ao, rfl, haw, hca⟩ := g1.at (show 0 < n by omega)
  obtain ⟨bb, bo, rfl, hbw, hcb⟩ := g2.at (show 0 < n by omega)
  have Hca := hide hca
  have Hcb := hide hcb
  clear hs ht g1 g2 hx hy hca hcb
  go_enter Try.func72, Try.ntmps72
  go_wp2
  rw [← hw1]
  clear hw1
  refine wp_scope_lab 0 1 (DqJ p (some ⟨aa, ao, none⟩) n c xs (some ⟨bb, bo, none⟩) d ys l0 w w1) (DqM n) rfl rfl ?first ?pass
  case first =>
    intro Q' h
    go_wp2
    go_step3
    rename_i K1 h1
    exact h1 _ _ (h _ _ ⟨0, 0, none, _, _, _, _, _, _, _, _, _, _, _, _, _, _, _, _, _, _, _, _, _, _, _, _, _, _, _, _, _, _, _, _, _, _, _, _, _, _, _, _, _, _, _, rfl, by omega, hide (Own.nil _ _), hide (Below.refl _ _), hide (fun j hj => by omega)⟩)
  case pass =>
    rintro a' w' ⟨k, cap, q, u3, u9, u10, u11, u12, u13, u14, u15, u16, u17, u18, u19, u20, u21, u22, u23, u24, u25, u26, u27, u28, u29, u30, u31, u32, u33, u34, u35, u36, u37, u38, u39, u40, u41, u42, u43, u44, u45, u46, u47, u48, u49, u50, rfl, hk, hO, hB, hD⟩
    have F0 := f0
    have F2 := f2
    replace f0 := cell_be hB.out f0
    replace f1 := cell_be hB.out f1
    replace f2 := cell_be hB.out f2
    have hBw := hb0.trans (hB.out.mono (by omega))
    have zw := hB.out.size
    by_cases hkn : k = n - 1
    · have Hkn := hide hkn
      have ob : ((k : Int) == (n : Int) - 1) = true := by simp; omega
      have hok := hide (show dqB p xs ys 0 l0 (n - 1) = true from dqB_t (fun j hj => hD.out j (by omega)))
      have hlen := hide (show (dqV p xs ys 0 l0 k).length = 2 * (n - 1) by rw [dqV_len, hkn])
      clear hkn
      go_wp2
      simp only [jumpTwo]
      go_ret2
      refine ⟨hBw, .inl ⟨hok.out, q, cap, by rw [hlen.out]; rfl, by rw [← Hkn.out]; exact hO.out.mono (by omega)⟩⟩
    · have hlt : k < n - 1 := by omega
      have ob : ((k : Int) == (n : Int) - 1) = false := by simp; omega
      have e1 := cell_be hB.out (Hca.out k (by omega))
      have e2 := Hcb.out (k + 1) (by omega)
      have r1 := getD_rng Hx.out hp k
      have r2 := getD_rng Hy.out hp (k + 1)
      have r3 := ML.out k
      have r4 := MD.out k
      have hDk := hide (show (xs.getD k 0 + (p - 1) * dfL p xs ys 0 l0 k) % p = dfD p xs ys 0 l0 k by
        unfold dfD
        rw [show xs.getD k 0 + (p - 1) * dfL p xs ys 0 l0 k = xs.getD k 0 - 0 - dfL p xs ys 0 l0 k + p * dfL p xs ys 0 l0 k by rw [Int.sub_mul]; omega, Int.add_mul_emod_self_left])
      have hLk := hide (show dfL p xs ys 0 l0 (k + 1) = ys.getD (k + 1) 0 * invM p (dfD p xs ys 0 l0 k) % p from rfl)
      have hVk := hide (show dqV p xs ys 0 l0 (k + 1) = dqV p xs ys 0 l0 k ++ [dfD p xs ys 0 l0 k] ++ [dfL p xs ys 0 l0 (k + 1)] from rfl)
      have hzl := hide (dqV_len p xs ys 0 l0 k)
      have hDd := hide (fun (h : dfD p xs ys 0 l0 k = 0) => dqB_f (n := n - 1) k hlt h)
      obtain ⟨x, hxx⟩ : ∃ x, xs.getD k 0 = x := ⟨_, rfl⟩
      obtain ⟨y, hyy⟩ : ∃ y, ys.getD (k + 1) 0 = y := ⟨_, rfl⟩
      obtain ⟨L, hL⟩ : ∃ L, dfL p xs ys 0 l0 k = L := ⟨_, rfl⟩
      obtain ⟨D, hDD⟩ : ∃ D, dfD p xs ys 0 l0 k = D := ⟨_, rfl⟩
      have HDD := hide hDD
      rw [hxx] at e1 r1 hDk
      rw [hyy] at e2 r2 hLk
      rw [hL] at r3 hDk ⊢
      rw [hDD] at r4 hDk hLk hVk hDd
      obtain ⟨zs, hzs⟩ : ∃ zs, dqV p xs ys 0 l0 k = zs := ⟨_, rfl⟩
      rw [hzs] at hO hVk hzl ⊢
      clear hxx hyy hL hDD hzs hkn
      have k0 : (0 : Int) ≤ (k : Int) := by omega
      have k1 : (k : Int) < (n : Int) := by omega
      have k2 : (k : Int) + 1 < (n : Int) := by omega
      have k3 : (0 : Int) ≤ (k : Int) + 1 := by omega
      have k4 : ((k : Int) + 1).toNat = k + 1 := by omega
      have vk : IntKind.i64.wrap ((k : Int) + 1) = (k : Int) + 1 := IntWalk.i64_in _ (by omega)
      have rI := invM_rng D hp
      obtain ⟨I, hI⟩ : ∃ I, invM p D = I := ⟨_, rfl⟩
      have HI := hide hI
      rw [hI] at rI hLk
      obtain ⟨m1, m2⟩ := mulb r2.1 r2.2 rI.1 rI.2 hp2
      have v1 : IntKind.i64.wrap (y * I) = y * I := IntWalk.i64_in _ (by omega)
      have v2 : (y * I).tmod p = y * I % p := Int.tmod_eq_emod_of_nonneg m1
      have rN := modb (x := y * I) hp
      obtain ⟨N, hN⟩ : ∃ N, y * I % p = N := ⟨_, rfl⟩
      rw [hN] at v2 rN hLk
      have v3 : IntKind.i64.wrap N = N := IntWalk.i64_in _ (by omega)
      have hp0 : ¬ p = 0 := by omega
      have hlz : zs.length ≤ 24 := by have := hzl.out; omega
      clear hI hN
      have hOa := hide (hO.out.below (bl1 w' (.cells #[.int .i64 D] 2)))
      by_cases hz : D = 0
      · have ob2 : (D != 0) = false := by simp [hz]
        have HZ := hide (hDd.out hz)
        clear hz
        go_wp2_with (first
          | (go_at_call 66; refine (addNumber_any p x (p - 1) L _ hp hp2 r1.1 r1.2 (by omega) (by omega) r3.1 r3.2).mono ?_; rintro e v ⟨rfl, rfl⟩; rw [hDk.out])
          | (at_builtin; refine wp_append rfl _ _ rfl w1.heap.size _ zs.length _ zs rfl rfl hOa.out _ 1 1 [D] rfl (litSL w' D) (by omega) (by simp; omega) ?_; intro ad' cap' w2 hown hb))
        have hB2 := (hB.out.alloc hB.out.size (.cells #[.int .i64 D] 2)).trans (hb.mono (by first | omega | (simp; omega) | simp))
        try go_wp2
        simp only [jumpTwo]
        go_ret2
        exact ⟨hb0.trans (hB2.mono (by omega)), .inr ⟨HZ.out, rfl⟩⟩
      · have ob2 : (D != 0) = true := by simp [hz]
        have HZ := hide hz
        clear hz
        go_wp2_with (first
          | (go_at_call 66; refine (addNumber_any p x (p - 1) L _ hp hp2 r1.1 r1.2 (by omega) (by omega) r3.1 r3.2).mono ?_; rintro e v ⟨rfl, rfl⟩; rw [hDk.out])
          | (at_builtin; refine wp_append rfl _ _ rfl w1.heap.size _ zs.length _ zs rfl rfl hOa.out _ 1 1 [D] rfl (litSL w' D) (by omega) (by simp; omega) ?_; intro ad' cap' w2 hown hb))
        have hB2 := (hB.out.alloc hB.out.size (.cells #[.int .i64 D] 2)).trans (hb.mono (by first | omega | (simp; omega) | simp))
        have hown2 := hide hown
        clear f0 f1 f2
        have f2 := cell_be hB2 F2
        replace e2 := cell_be hB2 e2
        clear hown hb hOa F0 F2
        go_step3
        refine Or.inr ⟨rfl, ?_⟩
        have hbd := (Below.refl w2.heap.size w2).drew
        have F : ∀ v, Below w2.heap.size w2 v → v.cell? ⟨w.heap.size, 2, none⟩ = some (.slice (some ⟨bb, bo, none⟩) n d) ∧ v.cell? ⟨bb, bo + (k + 1), none⟩ = some (.int .i64 y) := fun v h => ⟨cell_be h f2, cell_be h e2⟩
        go_upto_region 10 with fail
        go_region_held3 (fun v => v.cell? ⟨w.heap.size, 2, none⟩ = some (.slice (some ⟨bb, bo, none⟩) n d) ∧ v.cell? ⟨bb, bo + (k + 1), none⟩ = some (.int .i64 y))
          (exact F _ (by assumption))
          (first
          | (go_at_call 77; refine (inverse_any p D _ hp hp2 r4.1 r4.2).mono ?_; rintro e w3 ⟨rfl, t3⟩; rw [HI.out]; have m3 := bnext hbd t3))
        have hO3 := hide ((hown2.out.below m3).below (bl1 w3 (.cells #[.int .i64 N] 2)))
        have hzl3 := hide (show (zs ++ [D]).length = zs.length + 1 by simp)
        go_wp2_with (at_builtin; refine wp_append rfl _ _ rfl w1.heap.size _ (zs.length + 1) _ (zs ++ [D]) rfl hzl3.out.symm hO3.out _ 1 1 [N] rfl (litSL w3 N) (by omega) (by have := hB2.size; have := m3.size; simp; omega) ?_; intro ad2 cap2 w4 hown4 hb4)
        have hB3 := hB2.trans (m3.mono hB2.size)
        have hB4 := (hB3.alloc hB3.size (.cells #[.int .i64 N] 2)).trans (hb4.mono (by first | exact Nat.le_refl _ | omega | (simp; omega) | simp))
        try go_step3
        refine ⟨rfl, DqJ.mk (k := k + 1) (by rw [hLk.out]) ?_ (by omega) (by omega) (by rw [hVk.out, hLk.out]; exact hown4) hB4 (fun j hj => by
          by_cases e : j = k
          · subst e; rw [HDD.out]; exact HZ.out
          · exact hD.out j (by omega)), ?_⟩
        · rw [hVk.out, hLk.out]
          simp
        · simp [DqM, intOf]
          omega
end Go.Proofs.Ytllcgoachgfpjaa
