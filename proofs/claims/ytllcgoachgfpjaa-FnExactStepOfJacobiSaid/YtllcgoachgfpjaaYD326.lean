/- Merged texts. -/
import Derived.Test.YtllcgoachgfpjaaYD325
import Derived.Test.YtllcgoachgfpjaaYD324
/- Contract: differencesAndQuotients (program; goto). -/
namespace Go.Proofs.Ytllcgoachgfpjaa
open Go.RowKit
set_option linter.unusedVariables false
set_option linter.unusedSimpArgs false

/-- What holds at the label of the differences. -/
def DqJ (p : Int) (a : Option Addr) (n c : Nat) (xs : List Int) (b : Option Addr) (d : Nat) (ys : List Int) (l0 : Int) (w w1 : World) (a' : Act) (w' : World) : Prop :=
  ∃ (k cap : Nat) (q : Option Addr) (u3 u9 u10 u11 u12 u13 u14 u15 u16 u17 u18 u19 u20 u21 u22 u23 u24 u25 u26 u27 u28 u29 u30 u31 u32 u33 u34 u35 u36 u37 u38 u39 u40 u41 u42 u43 u44 u45 u46 u47 u48 u49 u50 : Value), a' = { tmps := #[jac p a n c b n d, .int .i64 (dfL p xs ys 0 l0 k), .pointer (some ⟨w.heap.size, 0, none⟩), u3, .slice none 0 0, .bool false, .slice q (dqV p xs ys 0 l0 k).length cap, .int .i64 p, .int .i64 ((k : Int)), u9, u10, u11, u12, u13, u14, u15, u16, u17, u18, u19, u20, u21, u22, u23, u24, u25, u26, u27, u28, u29, u30, u31, u32, u33, u34, u35, u36, u37, u38, u39, u40, u41, u42, u43, u44, u45, u46, u47, u48, u49, u50], defers := [] } ∧ k ≤ n - 1 ∧ Hid (Own w1.heap.size w' q cap (dqV p xs ys 0 l0 k)) ∧ Hid (Below w1.heap.size w1 w') ∧ Hid (∀ j, j < k → dfD p xs ys 0 l0 j ≠ 0)
theorem DqJ.mk {p : Int} {a : Option Addr} {n c : Nat} {xs : List Int} {b : Option Addr} {d : Nat} {ys : List Int} {l0 : Int} {w w1 : World} {w' : World} {k cap len : Nat} {q : Option Addr} {last kk : Int} {u3 u9 u10 u11 u12 u13 u14 u15 u16 u17 u18 u19 u20 u21 u22 u23 u24 u25 u26 u27 u28 u29 u30 u31 u32 u33 u34 u35 u36 u37 u38 u39 u40 u41 u42 u43 u44 u45 u46 u47 u48 u49 u50 : Value} (e1 : last = dfL p xs ys 0 l0 k) (e2 : len = (dqV p xs ys 0 l0 k).length) (e3 : kk = k)
    (hk : k ≤ n - 1) (hO : Own w1.heap.size w' q cap (dqV p xs ys 0 l0 k)) (hB : Below w1.heap.size w1 w') (hD : ∀ j, j < k → dfD p xs ys 0 l0 j ≠ 0) : DqJ p a n c xs b d ys l0 w w1 { tmps := #[jac p a n c b n d, .int .i64 (last), .pointer (some ⟨w.heap.size, 0, none⟩), u3, .slice none 0 0, .bool false, .slice q len cap, .int .i64 p, .int .i64 (kk), u9, u10, u11, u12, u13, u14, u15, u16, u17, u18, u19, u20, u21, u22, u23, u24, u25, u26, u27, u28, u29, u30, u31, u32, u33, u34, u35, u36, u37, u38, u39, u40, u41, u42, u43, u44, u45, u46, u47, u48, u49, u50], defers := [] } w' := by
  subst e1; subst e2; subst e3
  exact ⟨k, cap, q, u3, u9, u10, u11, u12, u13, u14, u15, u16, u17, u18, u19, u20, u21, u22, u23, u24, u25, u26, u27, u28, u29, u30, u31, u32, u33, u34, u35, u36, u37, u38, u39, u40, u41, u42, u43, u44, u45, u46, u47, u48, u49, u50, rfl, hk, hide hO, hide hB, hide hD⟩
def DqM (n : Nat) (a' : Act) (_ : World) : Nat := n - (intOf (a'.tmps.getD 8 undef)).toNat
set_option maxRecDepth 100000 in
set_option maxHeartbeats 6400000 in
theorem diff_any (p : Int) (a : Option Addr) (n c : Nat) (xs : List Int) (b : Option Addr) (d : Nat) (ys : List Int) (l0 : Int) (w : World) (hs : SL w a n c xs) (ht : SL w b n d ys) (hp : 2 ≤ p) (hp2 : p ≤ 10007) (hx : areB p xs = true) (hy : areB p ys = true) (hn1 : 1 ≤ n) (hn2 : n ≤ 12) (l1 : 0 ≤ l0) (l2 : l0 < p) :
    Calls Try.prog 72 #[jac p a n c b n d, .int .i64 l0] w fun e w' => Below w.heap.size w w' ∧ ((dqB p xs ys 0 l0 (n - 1) = true ∧ ∃ a' c', e = .returned (.tuple #[.slice a' (2 * (n - 1)) c', .bool true]) ∧ Own w.heap.size w' a' c' (dqV p xs ys 0 l0 (n - 1))) ∨ (dqB p xs ys 0 l0 (n - 1) = false ∧ e = .returned (.tuple #[.slice none 0 0, .bool false]))) := by
  have hl := hide hs.len
  have hl2 := hide ht.len
  have hb0 := bl1 w (.cells #[.int .i64 p, .slice a n c, .slice b n d] 38)
  obtain ⟨w1, hw1⟩ : ∃ w1, w1 = w.alloc (.cells #[.int .i64 p, .slice a n c, .slice b n d] 38) := ⟨_, rfl⟩
  have f0 : w1.cell? ⟨w.heap.size, 0, none⟩ = some (.int .i64 p) := by rw [hw1]; simp [go_sem]
  have f1 : w1.cell? ⟨w.heap.size, 1, none⟩ = some (.slice a n c) := by rw [hw1]; simp [go_sem]
  have f2 : w1.cell? ⟨w.heap.size, 2, none⟩ = some (.slice b n d) := by rw [hw1]; simp [go_sem]
  have z1 : w.heap.size + 1 ≤ w1.heap.size := by rw [hw1]; simp
  rw [← hw1] at hb0
  have g1 := hs.below hb0
  have g2 := ht.below hb0
  have Hx := hide hx
  have Hy := hide hy
  have ML := hide (fun k => dfL_rng hp xs ys 0 l1 l2 k)
  have MD := hide (fun k => dfD_rng hp xs ys 0 l0 k)
  have vp : IntKind.i64.wrap (p - 1) = p - 1 := IntWalk.i64_in _ (by omega)
  have vn : IntKind.i64.wrap ((n : Int) - 1) = (n : Int) - 1 := IntWalk.i64_in _ (by omega)
  obtain ⟨aa, ao, rfl, haw, hca⟩ := g1.at (show 0 < n by omega)
  obtain ⟨bb, bo, rfl, hbw, hcb⟩ := g2.at (show 0 < n by omega)
  have Hca := hide hca
  have Hcb := hide hcb
  clear hs ht g1 g2 hx hy hca hcb
  go_enter Try.func72, Try.ntmps72
  go_wp2
  rw [← hw1]
  clear hw1
  refine wp_scope_lab 0 1 (DqJ p (some ⟨aa, ao, none⟩) n c xs (some ⟨bb, bo, none⟩) d ys l0 w w1) (DqM n) rfl rfl ?first ?pass
  case first =>
    intro Q' h
    go_wp2
    go_step3
    rename_i K1 h1
    exact h1 _ _ (h _ _ ⟨0, 0, none, _, _, _, _, _, _, _, _, _, _, _, _, _, _, _, _, _, _, _, _, _, _, _, _, _, _, _, _, _, _, _, _, _, _, _, _, _, _, _, _, _, _, _, rfl, by omega, hide (Own.nil _ _), hide (Below.refl _ _), hide (fun j hj => by omega)⟩)
  case pass =>
    rintro a' w' ⟨k, cap, q, u3, u9, u10, u11, u12, u13, u14, u15, u16, u17, u18, u19, u20, u21, u22, u23, u24, u25, u26, u27, u28, u29, u30, u31, u32, u33, u34, u35, u36, u37, u38, u39, u40, u41, u42, u43, u44, u45, u46, u47, u48, u49, u50, rfl, hk, hO, hB, hD⟩
    have F0 := f0
    have F2 := f2
    replace f0 := cell_be hB.out f0
    replace f1 := cell_be hB.out f1
    replace f2 := cell_be hB.out f2
    have hBw := hb0.trans (hB.out.mono (by omega))
    have zw := hB.out.size
    by_cases hkn : k = n - 1
    · have Hkn := hide hkn
      have ob : ((k : Int) == (n : Int) - 1) = true := by simp; omega
      have hok := hide (show dqB p xs ys 0 l0 (n - 1) = true from dqB_t (fun j hj => hD.out j (by omega)))
      have hlen := hide (show (dqV p xs ys 0 l0 k).length = 2 * (n - 1) by rw [dqV_len, hkn])
      clear hkn
      go_wp2
      simp only [jumpTwo]
      go_ret2
      refine ⟨hBw, .inl ⟨hok.out, q, cap, by rw [hlen.out]; rfl, by rw [← Hkn.out]; exact hO.out.mono (by omega)⟩⟩
    · have hlt : k < n - 1 := by omega
      have ob : ((k : Int) == (n : Int) - 1) = false := by simp; omega
      have e1 := cell_be hB.out (Hca.out k (by omega))
      have e2 := Hcb.out (k + 1) (by omega)
      have r1 := getD_rng Hx.out hp k
      have r2 := getD_rng Hy.out hp (k + 1)
      have r3 := ML.out k
      have r4 := MD.out k
      have hDk := hide (show (xs.getD k 0 + (p - 1) * dfL p xs ys 0 l0 k) % p = dfD p xs ys 0 l0 k by
        unfold dfD
        rw [show xs.getD k 0 + (p - 1) * dfL p xs ys 0 l0 k = xs.getD k 0 - 0 - dfL p xs ys 0 l0 k + p * dfL p xs ys 0 l0 k by rw [Int.sub_mul]; omega, Int.add_mul_emod_self_left])
      have hLk := hide (show dfL p xs ys 0 l0 (k + 1) = ys.getD (k + 1) 0 * invM p (dfD p xs ys 0 l0 k) % p from rfl)
      have hVk := hide (show dqV p xs ys 0 l0 (k + 1) = dqV p xs ys 0 l0 k ++ [dfD p xs ys 0 l0 k] ++ [dfL p xs ys 0 l0 (k + 1)] from rfl)
      have hzl := hide (dqV_len p xs ys 0 l0 k)
      have hDd := hide (fun (h : dfD p xs ys 0 l0 k = 0) => dqB_f (n := n - 1) k hlt h)
      obtain ⟨x, hxx⟩ : ∃ x, xs.getD k 0 = x := ⟨_, rfl⟩
      obtain ⟨y, hyy⟩ : ∃ y, ys.getD (k + 1) 0 = y := ⟨_, rfl⟩
      obtain ⟨L, hL⟩ : ∃ L, dfL p xs ys 0 l0 k = L := ⟨_, rfl⟩
      obtain ⟨D, hDD⟩ : ∃ D, dfD p xs ys 0 l0 k = D := ⟨_, rfl⟩
      have HDD := hide hDD
      rw [hxx] at e1 r1 hDk
      rw [hyy] at e2 r2 hLk
      rw [hL] at r3 hDk ⊢
      rw [hDD] at r4 hDk hLk hVk hDd
      obtain ⟨zs, hzs⟩ : ∃ zs, dqV p xs ys 0 l0 k = zs := ⟨_, rfl⟩
      rw [hzs] at hO hVk hzl ⊢
      clear hxx hyy hL hDD hzs hkn
      have k0 : (0 : Int) ≤ (k : Int) := by omega
      have k1 : (k : Int) < (n : Int) := by omega
      have k2 : (k : Int) + 1 < (n : Int) := by omega
      have k3 : (0 : Int) ≤ (k : Int) + 1 := by omega
      have k4 : ((k : Int) + 1).toNat = k + 1 := by omega
      have vk : IntKind.i64.wrap ((k : Int) + 1) = (k : Int) + 1 := IntWalk.i64_in _ (by omega)
      have rI := invM_rng D hp
      obtain ⟨I, hI⟩ : ∃ I, invM p D = I := ⟨_, rfl⟩
      have HI := hide hI
      rw [hI] at rI hLk
      obtain ⟨m1, m2⟩ := mulb r2.1 r2.2 rI.1 rI.2 hp2
      have v1 : IntKind.i64.wrap (y * I) = y * I := IntWalk.i64_in _ (by omega)
      have v2 : (y * I).tmod p = y * I % p := Int.tmod_eq_emod_of_nonneg m1
      have rN := modb (x := y * I) hp
      obtain ⟨N, hN⟩ : ∃ N, y * I % p = N := ⟨_, rfl⟩
      rw [hN] at v2 rN hLk
      have v3 : IntKind.i64.wrap N = N := IntWalk.i64_in _ (by omega)
      have hp0 : ¬ p = 0 := by omega
      have hlz : zs.length ≤ 24 := by have := hzl.out; omega
      clear hI hN
      have hOa := hide (hO.out.below (bl1 w' (.cells #[.int .i64 D] 2)))
      by_cases hz : D = 0
      · have ob2 : (D != 0) = false := by simp [hz]
        have HZ := hide (hDd.out hz)
        clear hz
        go_wp2_with (first
          | (go_at_call 66; refine (addNumber_any p x (p - 1) L _ hp hp2 r1.1 r1.2 (by omega) (by omega) r3.1 r3.2).mono ?_; rintro e v ⟨rfl, rfl⟩; rw [hDk.out])
          | (at_builtin; refine wp_append rfl _ _ rfl w1.heap.size _ zs.length _ zs rfl rfl hOa.out _ 1 1 [D] rfl (litSL w' D) (by omega) (by simp; omega) ?_; intro ad' cap' w2 hown hb))
        have hB2 := (hB.out.alloc hB.out.size (.cells #[.int .i64 D] 2)).trans (hb.mono (by first | omega | (simp; omega) | simp))
        try go_wp2
        simp only [jumpTwo]
        go_ret2
        exact ⟨hb0.trans (hB2.mono (by omega)), .inr ⟨HZ.out, rfl⟩⟩
      · have ob2 : (D != 0) = true := by simp [hz]
        have HZ := hide hz
        clear hz
        go_wp2_with (first
          | (go_at_call 66; refine (addNumber_any p x (p - 1) L _ hp hp2 r1.1 r1.2 (by omega) (by omega) r3.1 r3.2).mono ?_; rintro e v ⟨rfl, rfl⟩; rw [hDk.out])
          | (at_builtin; refine wp_append rfl _ _ rfl w1.heap.size _ zs.length _ zs rfl rfl hOa.out _ 1 1 [D] rfl (litSL w' D) (by omega) (by simp; omega) ?_; intro ad' cap' w2 hown hb))
        have hB2 := (hB.out.alloc hB.out.size (.cells #[.int .i64 D] 2)).trans (hb.mono (by first | omega | (simp; omega) | simp))
        have hown2 := hide hown
        clear f0 f1 f2
        have f2 := cell_be hB2 F2
        replace e2 := cell_be hB2 e2
        clear hown hb hOa F0 F2
        go_step3
        refine Or.inr ⟨rfl, ?_⟩
        have hbd := (Below.refl w2.heap.size w2).drew
        have F : ∀ v, Below w2.heap.size w2 v → v.cell? ⟨w.heap.size, 2, none⟩ = some (.slice (some ⟨bb, bo, none⟩) n d) ∧ v.cell? ⟨bb, bo + (k + 1), none⟩ = some (.int .i64 y) := fun v h => ⟨cell_be h f2, cell_be h e2⟩
        go_upto_region 10 with fail
        go_region_held3 (fun v => v.cell? ⟨w.heap.size, 2, none⟩ = some (.slice (some ⟨bb, bo, none⟩) n d) ∧ v.cell? ⟨bb, bo + (k + 1), none⟩ = some (.int .i64 y))
          (exact F _ (by assumption))
          (first
          | (go_at_call 77; refine (inverse_any p D _ hp hp2 r4.1 r4.2).mono ?_; rintro e w3 ⟨rfl, t3⟩; rw [HI.out]; have m3 := bnext hbd t3))
        have hO3 := hide ((hown2.out.below m3).below (bl1 w3 (.cells #[.int .i64 N] 2)))
        have hzl3 := hide (show (zs ++ [D]).length = zs.length + 1 by simp)
        go_wp2_with (at_builtin; refine wp_append rfl _ _ rfl w1.heap.size _ (zs.length + 1) _ (zs ++ [D]) rfl hzl3.out.symm hO3.out _ 1 1 [N] rfl (litSL w3 N) (by omega) (by have := hB2.size; have := m3.size; simp; omega) ?_; intro ad2 cap2 w4 hown4 hb4)
        have hB3 := hB2.trans (m3.mono hB2.size)
        have hB4 := (hB3.alloc hB3.size (.cells #[.int .i64 N] 2)).trans (hb4.mono (by first | exact Nat.le_refl _ | omega | (simp; omega) | simp))
        try go_step3
        refine ⟨rfl, DqJ.mk (k := k + 1) (by rw [hLk.out]) ?_ (by omega) (by omega) (by rw [hVk.out, hLk.out]; exact hown4) hB4 (fun j hj => by
          by_cases e : j = k
          · subst e; rw [HDD.out]; exact HZ.out
          · exact hD.out j (by omega)), ?_⟩
        · rw [hVk.out, hLk.out]
          simp
        · simp [DqM, intOf]
          omega
end Go.Proofs.Ytllcgoachgfpjaa
/- Jacobi data of the call's own in a variable, whose two lists grow by appends. -/
namespace Go.Proofs.Ytllcgoachgfpjaa
open Go.RowKit
set_option linter.unusedVariables false
set_option linter.unusedSimpArgs false

def JS (B q : Nat) (w : World) (p : Int) (a : Option Addr) (ca : Nat) (us : List Int) (b : Option Addr) (cb : Nat) (vs : List Int) : Prop :=
  Own B w a ca us ∧ Own B w b cb vs ∧ (blk a ≠ some q ∧ blk b ≠ some q ∧ ∀ g, blk a = some g → blk b ≠ some g) ∧
    (w.cell? ⟨q, 0, none⟩ = some (.int .i64 p) ∧ w.cell? ⟨q, 1, none⟩ = some (.slice a us.length ca) ∧ w.cell? ⟨q, 2, none⟩ = some (.slice b vs.length cb)) ∧ (w.frozen? ⟨q, 1, none⟩ = false ∧ w.frozen? ⟨q, 2, none⟩ = false) ∧ B ≤ q
section
variable {B q : Nat} {w w' : World} {p : Int} {a : Option Addr} {ca : Nat} {us : List Int} {b : Option Addr} {cb : Nat} {vs : List Int}
theorem JS.oA (h : JS B q w p a ca us b cb vs) : Own B w a ca us := h.1
theorem JS.oB (h : JS B q w p a ca us b cb vs) : Own B w b cb vs := h.2.1
theorem JS.c0 (h : JS B q w p a ca us b cb vs) : w.cell? ⟨q, 0, none⟩ = some (.int .i64 p) := h.2.2.2.1.1
theorem JS.c1 (h : JS B q w p a ca us b cb vs) : w.cell? ⟨q, 1, none⟩ = some (.slice a us.length ca) := h.2.2.2.1.2.1
theorem JS.c2 (h : JS B q w p a ca us b cb vs) : w.cell? ⟨q, 2, none⟩ = some (.slice b vs.length cb) := h.2.2.2.1.2.2
theorem JS.z1 (h : JS B q w p a ca us b cb vs) : w.frozen? ⟨q, 1, none⟩ = false := h.2.2.2.2.1.1
theorem JS.z2 (h : JS B q w p a ca us b cb vs) : w.frozen? ⟨q, 2, none⟩ = false := h.2.2.2.2.1.2
theorem JS.lo (h : JS B q w p a ca us b cb vs) : B ≤ q := h.2.2.2.2.2
theorem JS.hi (h : JS B q w p a ca us b cb vs) : q < w.heap.size := World.block_lt_of_cell? _ _ h.c0
theorem JS.below (h : JS B q w p a ca us b cb vs) (hb : Below w.heap.size w w') : JS B q w' p a ca us b cb vs :=
  ⟨h.oA.below hb, h.oB.below hb, h.2.2.1, ⟨cell_be hb h.c0, cell_be hb h.c1, cell_be hb h.c2⟩, ⟨(hb.frozen (World.block_lt_of_cell? _ _ h.c1)).trans h.z1, (hb.frozen (World.block_lt_of_cell? _ _ h.c2)).trans h.z2⟩, h.lo⟩
theorem JS.jz (h : JS B q w p a ca us b cb vs) (h0 : us.length ≠ 0) : JZ B w.heap.size w a us.length ca us b vs.length cb vs :=
  ⟨OZ.of h.oA rfl, OZ.of h.oB rfl, .inr (.inr (fun e => by
    obtain ⟨g, rfl, _⟩ := Own.blkG h.oA h0
    exact h.2.2.1.2.2 g rfl e.symm))⟩
theorem JS.pushA (h : JS B q w p a ca us b cb vs) {z : Int} {ad : Option Addr} {cap : Nat} (hown : Own B w' ad cap (us ++ [z])) (hgr : ((w.alloc (.cells #[.int .i64 z] 2)).drew).grownBy w' (blk a))
    (hloc : blk ad = blk a ∨ blk ad = some ((w.alloc (.cells #[.int .i64 z] 2)).drew).heap.size) : JS B q (w'.setCell ⟨q, 1, none⟩ (.slice ad (us.length + 1) cap)) p ad cap (us ++ [z]) b cb vs := by
  have hq := h.hi
  obtain ⟨n1, n2, n3⟩ := h.2.2.1
  have hba : Below w.heap.size w ((w.alloc (.cells #[.int .i64 z] 2)).drew) := (bl1 w _).drew
  have k := h.below hba
  have hnew : blk ad ≠ some q := by
    rcases hloc with e | e <;> rw [e]
    · exact n1
    · simp; omega
  have s1 := cell_ne hgr k.c1 n1
  refine ⟨hown.otherG hnew _, (Own.keep k.oB hgr (fun g h1 h2 => n3 g h2 h1)).otherG n2 _, ⟨hnew, n2, fun g h1 h2 => ?_⟩, ⟨cell_set2' (cell_ne hgr k.c0 n1) (by simp) _, ?_, cell_set2' (cell_ne hgr k.c2 n1) (by simp) _⟩, ⟨by simpa using frz_ne hgr k.c1 k.z1 n1, by simpa using frz_ne hgr k.c2 k.z2 n1⟩, h.lo⟩
  · rcases hloc with e | e
    · rw [e] at h1; exact n3 g h1 h2
    · rw [e] at h1
      have := own_blk_lt h.oB g h2
      simp at h1
      omega
  · rw [List.length_append]
    exact World.cell?_setCell_same _ _ _ s1
theorem JS.pushB (h : JS B q w p a ca us b cb vs) {z : Int} {bd : Option Addr} {cap : Nat} (hown : Own B w' bd cap (vs ++ [z])) (hgr : ((w.alloc (.cells #[.int .i64 z] 2)).drew).grownBy w' (blk b))
    (hloc : blk bd = blk b ∨ blk bd = some ((w.alloc (.cells #[.int .i64 z] 2)).drew).heap.size) : JS B q (w'.setCell ⟨q, 2, none⟩ (.slice bd (vs.length + 1) cap)) p a ca us bd cap (vs ++ [z]) := by
  have hq := h.hi
  obtain ⟨n1, n2, n3⟩ := h.2.2.1
  have hba : Below w.heap.size w ((w.alloc (.cells #[.int .i64 z] 2)).drew) := (bl1 w _).drew
  have k := h.below hba
  have hnew : blk bd ≠ some q := by
    rcases hloc with e | e <;> rw [e]
    · exact n2
    · simp; omega
  have s2 := cell_ne hgr k.c2 n2
  refine ⟨(Own.keep k.oA hgr (fun g h1 h2 => n3 g h1 h2)).otherG n1 _, hown.otherG hnew _, ⟨n1, hnew, fun g h1 h2 => ?_⟩, ⟨cell_set2' (cell_ne hgr k.c0 n2) (by simp) _, cell_set2' (cell_ne hgr k.c1 n2) (by simp) _, ?_⟩, ⟨by simpa using frz_ne hgr k.c1 k.z1 n2, by simpa using frz_ne hgr k.c2 k.z2 n2⟩, h.lo⟩
  · rcases hloc with e | e
    · rw [e] at h2; exact n3 g h1 h2
    · rw [e] at h2
      have := own_blk_lt h.oA g h1
      simp at h2
      omega
  · rw [List.length_append]
    exact World.cell?_setCell_same _ _ _ s2
theorem below_push {w0 : World} (hW : Below B w0 w) (hw : B ≤ w.heap.size) {z : Int} {row : Option Nat} (hgr : ((w.alloc (.cells #[.int .i64 z] 2)).drew).grownBy w' row) (hr : ∀ g, row = some g → B ≤ g) {q k : Nat} (hq : B ≤ q) (u : Value) : Below B w0 (w'.setCell ⟨q, k, none⟩ u) :=
  ((hW.trans ((bl1 w (.cells #[.int .i64 z] 2)).drew.mono hw)).grown hgr (by simp; omega) hr).setCell (by simpa using hq) _
end
end Go.Proofs.Ytllcgoachgfpjaa
