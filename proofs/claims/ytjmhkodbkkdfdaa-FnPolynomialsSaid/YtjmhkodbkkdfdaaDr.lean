/- Contracts of the draws: l01From, l01Next, l01Pick, l01Near, l01DrawPrime, l01Any: they return, and only the source turns. -/
import Derived.Test.YtjmhkodbkkdfdaaOz
import Derived.Test.YtjmhkodbkkdfdaaPn
import Derived.Deep.QuietTactic
import Derived.BigQuiet
import Derived.StillTailTactics
import Derived.IntWalk
import Derived.Laws.Bits64b
namespace Go.Proofs.Ytjmhkodbkkdfdaa
open Go.RowKit
set_option linter.unusedVariables false
set_option linter.unusedSimpArgs false

/-- Bytes that came in. -/
def SB (w : World) (a : Option Addr) (n : Nat) : Prop :=
  n = 0 ∨ ∃ b off, a = some ⟨b, off, none⟩ ∧ ∀ j, j < n → ∃ x : Int, (0 ≤ x ∧ x ≤ 255) ∧ w.cell? ⟨b, off + j, none⟩ = some (.int .u8 x)
theorem SB.below {w w' : World} {a : Option Addr} {n : Nat} (h : SB w a n) (hb : Below w.heap.size w w') : SB w' a n := by
  rcases h with h | ⟨b, off, rfl, hc⟩
  · exact .inl h
  · exact .inr ⟨b, off, rfl, fun j hj => by obtain ⟨x, hx, h⟩ := hc j hj; exact ⟨x, hx, cell_be hb h⟩⟩
theorem SB.drewN {w : World} {a : Option Addr} {n : Nat} (h : SB w a n) (k : Nat) : SB (w.drewN k) a n := h.below (below_drewN (Below.refl _ _) k)
/-- The source of a draw: block g holds the code, a place in it and a number. -/
structure Src (w : World) (g : Nat) (a : Option Addr) (n c : Nat) : Prop where
  c0 : w.cell? ⟨g, 0, none⟩ = some (.slice a n c)
  c1 : ∃ k : Nat, k ≤ n ∧ w.cell? ⟨g, 1, none⟩ = some (.int .i64 k)
  c2 : ∃ h : Int, w.cell? ⟨g, 2, none⟩ = some (.int .u64 h)
  f1 : w.frozen? ⟨g, 1, none⟩ = false
  f2 : w.frozen? ⟨g, 2, none⟩ = false
  by' : SB w a n
  ne : 0 < n → ∀ b, blk a = some b → b ≠ g
  len : n ≤ 4096
theorem sb_of_row {w : World} {a : Option Addr} {len cap : Nat} {zs : List Int} (h : (a = none ∧ len = 0 ∧ cap = 0 ∧ zs = []) ∨
    ∃ x, a = some x ∧ len ≤ cap ∧ cap ≤ maxLen ∧ zs.length = cap ∧ (∀ i, i < zs.length → w.cell? (x.add i) = some (.int .u8 (zs.getD i 0))) ∧ ∀ n ∈ zs, (Lit.int .u8 n).wf = true) : SB w a len := by
  rcases h with ⟨rfl, rfl, rfl, rfl⟩ | ⟨x, rfl, h1, _, h3, h4, h5⟩
  · exact .inl rfl
  · by_cases h0 : len = 0
    · exact .inl h0
    · obtain ⟨b, off, spot⟩ := x
      have hc := h4 0 (by omega)
      have hs : spot = none := by simpa [Addr.add] using World.cell?_spot hc
      subst hs
      refine .inr ⟨b, off, rfl, fun j hj => ⟨zs.getD j 0, ?_, ?_⟩⟩
      · have hj2 : j < zs.length := by omega
        have hm : zs.getD j 0 ∈ zs := by
          have : zs.getD j 0 = zs[j] := by simp [hj2]
          rw [this]; exact List.getElem_mem hj2
        generalize zs.getD j 0 = y at *
        have := h5 _ hm
        simp [Lit.wf, IntKind.min, IntKind.max, IntKind.signed, IntKind.bits] at this
        omega
      · have := h4 j (by omega)
        rwa [Addr.add_lit] at this
theorem modm {m : Int} (hm : 1 ≤ m) (x : Int) : 0 ≤ x % m ∧ x % m < m := ⟨Int.emod_nonneg _ (by omega), Int.emod_lt_of_pos _ (by omega)⟩
theorem u64_rng (Z : Int) : 0 ≤ IntKind.u64.wrap Z ∧ IntKind.u64.wrap Z < 18446744073709551616 := by
  unfold IntKind.wrap IntKind.signed IntKind.bits
  simp
  omega
theorem low24 (Z : Int) : 0 ≤ wrap64 (bits BinOp.and IntKind.u64 (IntKind.u64.wrap Z / 8589934592) 16777215) ∧ wrap64 (bits BinOp.and IntKind.u64 (IntKind.u64.wrap Z / 8589934592) 16777215) ≤ 16777215 := by
  obtain ⟨h0, h1⟩ := u64_rng Z
  generalize IntKind.u64.wrap Z = Y at *
  have e := bits_and_u64_nat (Y / 8589934592).toNat 16777215 (by omega) (by omega)
  rw [show (((Y / 8589934592).toNat : Nat) : Int) = Y / 8589934592 by omega] at e
  have hle : (Y / 8589934592).toNat &&& 16777215 ≤ 16777215 := Nat.and_le_right
  have e2 : bits BinOp.and IntKind.u64 (Y / 8589934592) 16777215 = (((Y / 8589934592).toNat &&& 16777215 : Nat) : Int) := e
  rw [e2]
  unfold wrap64
  omega
theorem grown_set (w : World) (g o : Nat) (u : Value) : w.grownBy (w.setCell ⟨g, o, none⟩ u) (some g) :=
  ⟨rfl, rfl, rfl, by simp, fun k _ hk => Below.heap_setCell _ _ _ _ (fun e => hk (by rw [e]))⟩
theorem grown_drewN {w w' : World} {row : Option Nat} (h : w.grownBy w' row) (n : Nat) : w.grownBy (w'.drewN n) row := ⟨h.os, h.tape, h.output, h.size, h.block⟩
theorem cell_set2' {w : World} {b o o' : Nat} {v : Value} (h : w.cell? ⟨b, o, none⟩ = some v) (hne : o' ≠ o) (u : Value) : (w.setCell ⟨b, o', none⟩ u).cell? ⟨b, o, none⟩ = some v :=
  (World.cell?_setCell_other _ _ _ _ (fun e => hne (by simpa using congrArg Addr.off e))).trans h
theorem cell_set2 {w : World} {a b : Addr} {v : Value} (h : w.cell? b = some v) (hne : a.block ≠ b.block) (u : Value) : (w.setCell a u).cell? b = some v :=
  (World.cell?_setCell_other _ _ _ _ (fun e => hne (by rw [← e]))).trans h
theorem SB.set {w : World} {a : Option Addr} {n g o : Nat} (h : SB w a n) (hne : 0 < n → ∀ b, blk a = some b → b ≠ g) (u : Value) : SB (w.setCell ⟨g, o, none⟩ u) a n := by
  rcases h with h | ⟨b, off, rfl, hc⟩
  · exact .inl h
  · exact .inr ⟨b, off, rfl, fun j hj => by obtain ⟨x, hx, h⟩ := hc j hj; exact ⟨x, hx, cell_set2 h (fun e => hne (by omega) b rfl e.symm) u⟩⟩
set_option maxRecDepth 100000 in
set_option maxHeartbeats 3200000 in
theorem next_any (g : Nat) (a : Option Addr) (n c : Nat) (m : Int) (w : World) (h : Src w g a n c) (hm : 1 ≤ m) :
    Calls Try.prog 103 #[.pointer (some ⟨g, 0, none⟩), .int .i64 m] w fun e w' => ∃ r : Int, e = .returned (.int .i64 r) ∧ (0 ≤ r ∧ r < m) ∧ Src w' g a n c ∧ w.grownBy w' (some g) := by
  obtain ⟨c0, ⟨k, hk, c1⟩, ⟨hh, c2⟩, f1, f2, hby, hne, hlen⟩ := h
  by_cases hlt : k < n
  · obtain ⟨b, off, rfl, hc⟩ : ∃ b off, a = some ⟨b, off, none⟩ ∧ ∀ j, j < n → ∃ x : Int, (0 ≤ x ∧ x ≤ 255) ∧ w.cell? ⟨b, off + j, none⟩ = some (.int .u8 x) := by
      rcases hby with h0 | h
      · omega
      · exact h
    obtain ⟨x, ⟨x0, x1⟩, hx⟩ := hc k hlt
    have hbg := hne (by omega) b rfl
    obtain ⟨Z, hZ⟩ : ∃ Z, IntKind.u64.wrap (hh * 6364136223846793005) + 1442695040888963407 = Z := ⟨_, rfl⟩
    obtain ⟨l0, l1⟩ := low24 Z
    obtain ⟨y, hy⟩ : ∃ y, wrap64 (bits BinOp.and IntKind.u64 (IntKind.u64.wrap Z / 8589934592) 16777215) = y := ⟨_, rfl⟩
    rw [hy] at l0 l1
    have HZ := hide hZ
    have HY := hide hy
    clear hy hZ hc
    obtain ⟨W, hW⟩ : ∃ W, w.setCell ⟨g, 2, none⟩ (.int .u64 (IntKind.u64.wrap Z)) = W := ⟨_, rfl⟩
    have C0 : W.cell? ⟨g, 0, none⟩ = some (.slice (some ⟨b, off, none⟩) n c) := by rw [← hW]; exact cell_set2' c0 (by simp) _
    have C1 : W.cell? ⟨g, 1, none⟩ = some (.int .i64 k) := by rw [← hW]; exact cell_set2' c1 (by simp) _
    have C2 : W.cell? ⟨g, 2, none⟩ = some (.int .u64 (IntKind.u64.wrap Z)) := by rw [← hW]; exact World.cell?_setCell_same _ _ _ c2
    have F1 : W.frozen? ⟨g, 1, none⟩ = false := by rw [← hW]; simpa using f1
    have F2 : W.frozen? ⟨g, 2, none⟩ = false := by rw [← hW]; simpa using f2
    have X1 : W.cell? ⟨b, off + k, none⟩ = some (.int .u8 x) := by rw [← hW]; exact cell_set2 hx (fun e => hbg e.symm) _
    have BY : SB W (some ⟨b, off, none⟩) n := by rw [← hW]; exact hby.set hne _
    have G1 : w.grownBy W (some g) := by rw [← hW]; exact grown_set _ _ _ _
    have HW := hide hW
    clear hW
    have hlt' : (k : Int) < (n : Int) := by omega
    have hm0 : ¬ m = 0 := by omega
    have hrm := modb (p := m + 1) (x := 0) (by omega)
    go_enter Try.func103, Try.ntmps103
    go_wp2_with fail
    rw [HZ.out, HY.out, HW.out]
    go_quiet (fail)
    go_wp2
    go_quiet (fail)
    go_wp2
    go_ret
    refine ⟨(y + x) % m, rfl, modm (by omega) _, ⟨cell_set2' C0 (by simp) _, ⟨k + 1, by omega, ?_⟩, ⟨_, cell_set2' C2 (by simp) _⟩, by simpa using F1, by simpa using F2, ?_, hne, hlen⟩, ?_⟩
    · exact World.cell?_setCell_same _ _ _ C1
    · exact (BY.drewN _).set hne _
    · exact grown_trans (grown_drewN G1 _) (grown_set _ _ _ _)
  · obtain ⟨Z, hZ⟩ : ∃ Z, IntKind.u64.wrap (hh * 6364136223846793005) + 1442695040888963407 = Z := ⟨_, rfl⟩
    obtain ⟨l0, l1⟩ := low24 Z
    obtain ⟨y, hy⟩ : ∃ y, wrap64 (bits BinOp.and IntKind.u64 (IntKind.u64.wrap Z / 8589934592) 16777215) = y := ⟨_, rfl⟩
    rw [hy] at l0 l1
    have HZ := hide hZ
    have HY := hide hy
    clear hy hZ
    obtain ⟨W, hW⟩ : ∃ W, w.setCell ⟨g, 2, none⟩ (.int .u64 (IntKind.u64.wrap Z)) = W := ⟨_, rfl⟩
    have C0 : W.cell? ⟨g, 0, none⟩ = some (.slice a n c) := by rw [← hW]; exact cell_set2' c0 (by simp) _
    have C1 : W.cell? ⟨g, 1, none⟩ = some (.int .i64 k) := by rw [← hW]; exact cell_set2' c1 (by simp) _
    have C2 : W.cell? ⟨g, 2, none⟩ = some (.int .u64 (IntKind.u64.wrap Z)) := by rw [← hW]; exact World.cell?_setCell_same _ _ _ c2
    have F1 : W.frozen? ⟨g, 1, none⟩ = false := by rw [← hW]; simpa using f1
    have F2 : W.frozen? ⟨g, 2, none⟩ = false := by rw [← hW]; simpa using f2
    have BY : SB W a n := by rw [← hW]; exact hby.set hne _
    have G1 : w.grownBy W (some g) := by rw [← hW]; exact grown_set _ _ _ _
    have HW := hide hW
    clear hW
    have hlt' : ¬ (k : Int) < (n : Int) := by omega
    have hm0 : ¬ m = 0 := by omega
    go_enter Try.func103, Try.ntmps103
    go_wp2_with fail
    rw [HZ.out, HY.out, HW.out]
    go_quiet (fail)
    go_wp2
    go_ret
    exact ⟨y % m, rfl, modm (by omega) _, ⟨C0, ⟨k, hk, C1⟩, ⟨_, C2⟩, F1, F2, SB.below BY (below_drewN (Below.refl _ _) _), hne, hlen⟩, grown_drewN G1 _⟩
theorem Src.below {w w' : World} {g n c : Nat} {a : Option Addr} (h : Src w g a n c) (hb : Below w.heap.size w w') : Src w' g a n c := by
  obtain ⟨c0, ⟨k, hk, c1⟩, ⟨hh, c2⟩, f1, f2, hby, hne, hlen⟩ := h
  exact ⟨cell_be hb c0, ⟨k, hk, cell_be hb c1⟩, ⟨hh, cell_be hb c2⟩, (hb.frozen (World.block_lt_of_cell? _ _ c1)).trans f1, (hb.frozen (World.block_lt_of_cell? _ _ c2)).trans f2, hby.below hb, hne, hlen⟩
theorem Src.lt {w : World} {g n c : Nat} {a : Option Addr} (h : Src w g a n c) : g < w.heap.size := World.block_lt_of_cell? _ _ h.c0
theorem cell_ne {w w' : World} {row : Option Nat} {b o : Nat} {v : Value} (hg : w.grownBy w' row) (h : w.cell? ⟨b, o, none⟩ = some v) (hne : row ≠ some b) : w'.cell? ⟨b, o, none⟩ = some v :=
  (World.cell?_of_block (w := w) (hg.block b (World.block_lt_of_cell? w _ h) (fun e => hne e.symm))).trans h
theorem SB.grow {w w' : World} {a : Option Addr} {n : Nat} {row : Option Nat} (h : SB w a n) (hg : w.grownBy w' row) (hne : 0 < n → ∀ b, blk a = some b → row ≠ some b) : SB w' a n := by
  rcases h with h | ⟨b, off, rfl, hc⟩
  · exact .inl h
  · exact .inr ⟨b, off, rfl, fun j hj => by obtain ⟨x, hx, h⟩ := hc j hj; exact ⟨x, hx, cell_ne hg h (hne (by omega) b rfl)⟩⟩
theorem frz_ne {w w' : World} {row : Option Nat} {b o : Nat} {v : Value} {x : Bool} (hg : w.grownBy w' row) (h : w.cell? ⟨b, o, none⟩ = some v) (hf : w.frozen? ⟨b, o, none⟩ = x) (hne : row ≠ some b) : w'.frozen? ⟨b, o, none⟩ = x :=
  (World.frozen?_of_block (w := w) (hg.block b (World.block_lt_of_cell? w _ h) (fun e => hne e.symm))).trans hf
theorem Src.grow {w w' : World} {g n c : Nat} {a : Option Addr} {row : Option Nat} (h : Src w g a n c) (hg : w.grownBy w' row) (hne : row ≠ some g) (hne2 : 0 < n → ∀ b, blk a = some b → row ≠ some b) : Src w' g a n c := by
  obtain ⟨c0, ⟨k, hk, c1⟩, ⟨hh, c2⟩, f1, f2, hby, hne', hlen⟩ := h
  exact ⟨cell_ne hg c0 hne, ⟨k, hk, cell_ne hg c1 hne⟩, ⟨hh, cell_ne hg c2 hne⟩, frz_ne hg c1 f1 hne, frz_ne hg c2 f2 hne, hby.grow hg hne2, hne', hlen⟩
theorem Src.code_lt {w : World} {g n c : Nat} {a : Option Addr} (h : Src w g a n c) : 0 < n → ∀ b, blk a = some b → b < w.heap.size := fun h0 b hb => by
  rcases h.by' with hz | ⟨b', off, rfl, hc⟩
  · omega
  · obtain ⟨x, _, hx⟩ := hc 0 h0
    have : b' < w.heap.size := World.block_lt_of_cell? w _ hx
    simp only [blk, Option.some.injEq] at hb
    omega
/-- What a draw leaves: the source, and all else as it was. -/
def Drawn (g : Nat) (a : Option Addr) (n c : Nat) (P : Int → Prop) (w : World) (e : Ending) (w' : World) : Prop := ∃ r : Int, e = .returned (.int .i64 r) ∧ P r ∧ Src w' g a n c ∧ w.grownBy w' (some g)
theorem next_d (g : Nat) (a : Option Addr) (n c : Nat) (m : Int) (w : World) (h : Src w g a n c) (hm : 1 ≤ m) :
    Calls Try.prog 103 #[.pointer (some ⟨g, 0, none⟩), .int .i64 m] w (Drawn g a n c (fun r => 0 ≤ r ∧ r < m) w) := next_any g a n c m w h hm
set_option maxRecDepth 100000 in
set_option maxHeartbeats 1600000 in
theorem pick_any (g : Nat) (a : Option Addr) (n c : Nat) (al : Option Addr) (L cl : Nat) (xs : List Int) (w : World) (h : Src w g a n c) (hl : SL w al L cl xs) (hL : 1 ≤ L) (hL2 : L ≤ 1000) (hne : blk al ≠ some g) :
    Calls Try.prog 108 #[.pointer (some ⟨g, 0, none⟩), .slice al L cl] w (Drawn g a n c (fun v => v ∈ xs) w) := by
  have hlen := hide hl.len
  obtain ⟨b, off, rfl, hb, hcell⟩ := hl.at (by omega)
  have hbg : (some g : Option Nat) ≠ some b := fun e => hne (by simpa [blk] using e.symm)
  have hLi : (1 : Int) ≤ (L : Int) := by omega
  go_enter Try.func108, Try.ntmps108
  go_wp2_with fail
  refine (next_any g a n c (L : Int) _ h hLi).mono ?_
  rintro e w1 ⟨r, rfl, ⟨r0, r1⟩, hs, hg⟩
  obtain ⟨j, rfl⟩ := Int.eq_ofNat_of_zero_le r0
  have hj : j < L := by omega
  have e1 := cell_ne hg (hcell j hj) hbg
  have hmem : Hid (xs.getD j 0 ∈ xs) := hide (by
    have h1 : j < xs.length := by rw [hlen.out]; exact hj
    have : xs.getD j 0 = xs[j] := by simp [h1]
    rw [this]; exact List.getElem_mem h1)
  obtain ⟨v, hv⟩ : ∃ v, xs.getD j 0 = v := ⟨_, rfl⟩
  rw [hv] at e1 hmem
  clear hv hcell
  go_wp2
  go_ret
  exact ⟨v, rfl, hmem.out, hs, hg⟩
theorem lit_sl (w : World) (xs : List Int) (h : xs.length ≤ 1000) : SL (w.alloc (.cells (xs.map (Value.int .i64)).toArray 2)) (some ⟨w.heap.size, 0, none⟩) xs.length xs.length xs := by
  have h1 : RowI (w.alloc (.cells (xs.map (Value.int .i64)).toArray 2)) w.heap.size xs := heap_alloc_new w _
  exact h1.sl'
theorem primes_ok : ∀ v ∈ [(2 : Int), 3, 5, 7, 7, 11, 13, 17, 31, 101, 997, 10007], primeB v = true := by decide +kernel
set_option maxRecDepth 100000 in
set_option maxHeartbeats 1600000 in
theorem drawPrime_any (g : Nat) (a : Option Addr) (n c : Nat) (w : World) (h : Src w g a n c) :
    Calls Try.prog 104 #[.pointer (some ⟨g, 0, none⟩)] w (Drawn g a n c (fun v => primeB v = true) w) := by
  have hlt := h.lt
  have hs := lit_sl w [2, 3, 5, 7, 7, 11, 13, 17, 31, 101, 997, 10007] (by simp)
  simp only [List.map_cons, List.map_nil, List.length_cons, List.length_nil] at hs
  have h2 := h.below (bl1 w (.cells [Value.int .i64 2, Value.int .i64 3, Value.int .i64 5, Value.int .i64 7, Value.int .i64 7, Value.int .i64 11, Value.int .i64 13, Value.int .i64 17, Value.int .i64 31, Value.int .i64 101, Value.int .i64 997, Value.int .i64 10007].toArray 2))
  go_enter Try.func104, Try.ntmps104
  go_wp2_with fail
  refine (pick_any g a n c _ _ _ [2, 3, 5, 7, 7, 11, 13, 17, 31, 101, 997, 10007] _ h2 hs (by omega) (by omega) (by simp [blk]; omega)).mono ?_
  rintro e w1 ⟨v, rfl, hv, hs1, hg⟩
  have hP := hide (primes_ok v hv)
  clear hv
  go_wp2
  go_ret
  exact ⟨v, rfl, hP.out, hs1, grown_trans (World.grownBy_alloc _ _ _) hg⟩
end Go.Proofs.Ytjmhkodbkkdfdaa
