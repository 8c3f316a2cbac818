/- Merged texts. -/
import Derived.Test.YthahcnmfaghohaaYTC25
import Derived.Lib.Bytealg
import Derived.Laws.RangeString
import Derived.Laws.Runes
import Derived.Laws.RangeAny
import Derived.Laws.Externs
import Derived.Laws.Strings2
import Derived.Laws.Strings3
import Derived.Scope
import Derived.Deep.QuietTactic
import Derived.Test.YthahcnmfaghohaaYTC27
import Derived.Lib.OthersKept
/- Contracts: strings.IndexRune in the letters of the steps (program). -/
namespace Go.Proofs.Ythahcnmfaghohaa
open Go.RowKit
set_option linter.unusedVariables false
set_option linter.unusedSimpArgs false

abbrev dlu : ByteArray := ⟨#[68, 76, 85]⟩
/-- the place of a letter -/
def ixR (r : Int) : Int := if r = 68 then 0 else if r = 76 then 1 else if r = 85 then 2 else -1
theorem ixR_ascii (r : Int) (h0 : 0 ≤ r) (h1 : r < 128) : Lib.indexByte [68, 76, 85] r.toNat.toUInt8 = ixR r := by
  obtain ⟨n, rfl⟩ : ∃ n : Nat, r = n := ⟨r.toNat, by omega⟩
  have : ∀ m : Fin 128, Lib.indexByte [68, 76, 85] ((m.val : Int).toNat.toUInt8) = ixR (m.val : Int) := by decide
  exact this ⟨n, by omega⟩
set_option maxHeartbeats 1000000 in
theorem liteIndexByte_any (s : ByteArray) (c : Int) (w : World) :
    Calls Try.prog 66 #[.string s, .int .u8 c] w fun e w' => e = .returned (.int .i64 (Lib.indexByte s.data.toList c.toNat.toUInt8)) ∧ w = w' := by
  go_enter Try.func66, Try.ntmps66
  go_wp2
  rw [run_callFunc_extern Try.func70 (by kernel_rfl) (by kernel_rfl) (by kernel_rfl) (e := Extern.BytealgIndexByte.indexByte) (by kernel_rfl), Lib.run_indexByteString]
  simp only [Result.andThen]
  rw [Oper.upon_value]
  go_wp2
  go_ret
  exact ⟨rfl, rfl⟩
set_option maxHeartbeats 1000000 in
theorem strIndexByte_any (s : ByteArray) (c : Int) (w : World) :
    Calls Try.prog 57 #[.string s, .int .u8 c] w fun e w' => e = .returned (.int .i64 (Lib.indexByte s.data.toList c.toNat.toUInt8)) ∧ w = w' := by
  go_enter Try.func57, Try.ntmps57
  go_wp2_with fail
  refine (liteIndexByte_any s c _).mono ?_
  rintro e w1 ⟨rfl, rfl⟩
  go_wp2
  go_ret
  exact ⟨rfl, rfl⟩
set_option maxHeartbeats 1000000 in
theorem validRune_any (r : Int) (w : World) (h0 : 0 ≤ r) (h1 : r ≤ 1114111) :
    Calls Try.prog 58 #[.int .i32 r] w fun e w' => e = .returned (.bool (decide (r < 55296 ∨ 57343 < r))) ∧ w = w' := by
  by_cases h2 : r < 55296
  · have h : Hid (decide (r < 55296 ∨ 57343 < r) = true) := hide (by simp [h2])
    go_enter Try.func58, Try.ntmps58
    go_wp2
    go_ret
    exact ⟨ret_bool h.out.symm, rfl⟩
  by_cases h3 : 57343 < r
  · have h : Hid ((decide (r < 55296) || decide (57343 < r)) = true) := hide (by simp [h3])
    go_enter Try.func58, Try.ntmps58
    go_wp2
    go_ret
    exact ⟨ret_bool (by simp [h3]), rfl⟩
  · have h : Hid (decide (r < 55296 ∨ 57343 < r) = false) := hide (by simp; omega)
    go_enter Try.func58, Try.ntmps58
    go_wp2
    go_ret
    exact ⟨ret_bool (by simp; omega), rfl⟩
set_option maxHeartbeats 2000000 in
set_option maxRecDepth 100000 in
theorem indexRune_ascii (r : Int) (w : World) (h0 : 0 ≤ r) (h1 : r < 128) :
    Calls Try.prog 47 #[.string dlu, .int .i32 r] w fun e w' => e = .returned (.int .i64 (ixR r)) ∧ Below w.heap.size w w' := by
  have hv := hide (ixR_ascii r h0 h1)
  go_enter Try.func47, Try.ntmps47
  go_wp2_with fail
  refine (strIndexByte_any _ _ _).mono ?_
  rintro e w1 ⟨rfl, rfl⟩
  rw [show (dlu.data.toList) = [68, 76, 85] from rfl, hv.out]
  go_wp2
  go_ret
  exact ⟨rfl, Below.refl _ _⟩
set_option maxHeartbeats 2000000 in
set_option maxRecDepth 100000 in
theorem indexRune_error (w : World) :
    Calls Try.prog 47 #[.string dlu, .int .i32 65533] w fun e w' => e = .returned (.int .i64 (-1)) ∧ Below w.heap.size w w' := by
  have d0 : Utf8.decode dlu 0 = (68, 1) := by decide
  have d1 : Utf8.decode dlu 1 = (76, 1) := by decide
  have d2 : Utf8.decode dlu 2 = (85, 1) := by decide
  go_enter Try.func47, Try.ntmps47
  go_wp2
  go_loopw [] (fun wr => ∃ k : Nat, k ≤ 3 ∧ wr = w.iter dlu k) (fun wr => 3 - wr.iterPos w.heap.size)
  case atStart => exact ⟨0, by omega, rfl⟩
  case round =>
    obtain ⟨k, hk, rfl⟩ := hrel
    by_cases h3 : k = 3
    · subst h3
      have hnx : ∀ ty, (Instr.next (.pointer (some ⟨w.heap.size, 0, none⟩)) true ty).run Try.prog (w.iter dlu 3) = _ := fun ty => run_next_end w dlu 3 ty (by decide)
      go_wp2
      go_ret
      exact ⟨rfl, bl1 _ _⟩
    · have hp : k < dlu.size := by show k < 3; omega
      have hd : Utf8.decode dlu k = (([68, 76, 85] : List Nat).getD k 0, 1) := by
        rcases (show k = 0 ∨ k = 1 ∨ k = 2 by omega) with rfl | rfl | rfl
        · exact d0
        · exact d1
        · exact d2
      have hne : ¬ (((([68, 76, 85] : List Nat).getD k 0 : Nat) : Int) = 65533) := by
        rcases (show k = 0 ∨ k = 1 ∨ k = 2 by omega) with rfl | rfl | rfl <;> decide
      obtain ⟨v, hv⟩ : ∃ v : Nat, ([68, 76, 85] : List Nat).getD k 0 = v := ⟨_, rfl⟩
      rw [hv] at hd hne
      have hnx : ∀ ty, (Instr.next (.pointer (some ⟨w.heap.size, 0, none⟩)) true ty).run Try.prog (w.iter dlu k) = .ok (.tuple #[.bool true, .int .i64 k, .int .i32 v]) (w.iter dlu (k + 1)) := fun ty => by
        rw [run_next_any w dlu k ty hp, hd]
      clear hv hd d0 d1 d2
      go_wp2
      go_roundw
      case rel => exact ⟨k + 1, by omega, rfl⟩
      case measure => simp; omega
set_option maxHeartbeats 2000000 in
set_option maxRecDepth 100000 in
theorem indexRune_bad (r : Int) (w : World) (h0 : 55296 ≤ r) (h1 : r ≤ 57343) :
    Calls Try.prog 47 #[.string dlu, .int .i32 r] w fun e w' => e = .returned (.int .i64 (-1)) ∧ Below w.heap.size w w' := by
  have hv : Hid (decide (r < 55296 ∨ 57343 < r) = false) := hide (by simp; omega)
  go_enter Try.func47, Try.ntmps47
  go_wp2_with fail
  refine (validRune_any r _ (by omega) (by omega)).mono ?_
  rintro e w1 ⟨rfl, rfl⟩
  rw [hv.out]
  go_wp2
  go_ret
  exact ⟨rfl, Below.refl _ _⟩
theorem enc_two (r : Int) (h0 : 128 ≤ r) (h1 : r < 2048) : ∃ x y : UInt8, Utf8.encode r = ⟨#[x, y]⟩ ∧ 128 ≤ y.toNat := by
  obtain ⟨n, rfl⟩ : ∃ n : Nat, r = n := ⟨r.toNat, by omega⟩
  refine ⟨UInt8.ofNat (192 + n / 64), UInt8.ofNat (128 + n % 64), ?_, ?_⟩
  · have hv : Utf8.valid (n : Int) = true := by simp [Utf8.valid]; omega
    unfold Utf8.encode
    rw [hv]
    simp only [if_true, Int.toNat_natCast]
    rw [if_neg (by omega), if_pos (by omega)]
  · simp; omega
theorem enc_three (r : Int) (h0 : 2048 ≤ r) (h1 : r < 65536) (hv : r < 55296 ∨ 57343 < r) : ∃ x y z : UInt8, Utf8.encode r = ⟨#[x, y, z]⟩ ∧ 128 ≤ z.toNat := by
  obtain ⟨n, rfl⟩ : ∃ n : Nat, r = n := ⟨r.toNat, by omega⟩
  refine ⟨UInt8.ofNat (224 + n / 4096), UInt8.ofNat (128 + n / 64 % 64), UInt8.ofNat (128 + n % 64), ?_, ?_⟩
  · have hv : Utf8.valid (n : Int) = true := by simp [Utf8.valid]; omega
    unfold Utf8.encode
    rw [hv]
    simp only [if_true, Int.toNat_natCast]
    rw [if_neg (by omega), if_neg (by omega), if_pos (by omega)]
  · simp; omega
theorem enc_four (r : Int) (h0 : 65536 ≤ r) (h1 : r ≤ 1114111) : ∃ x y z u : UInt8, Utf8.encode r = ⟨#[x, y, z, u]⟩ := by
  obtain ⟨n, rfl⟩ : ∃ n : Nat, r = n := ⟨r.toNat, by omega⟩
  refine ⟨UInt8.ofNat (240 + n / 262144), UInt8.ofNat (128 + n / 4096 % 64), UInt8.ofNat (128 + n / 64 % 64), UInt8.ofNat (128 + n % 64), ?_⟩
  have hv : Utf8.valid (n : Int) = true := by simp [Utf8.valid]; omega
  unfold Utf8.encode
  rw [hv]
  simp only [if_true, Int.toNat_natCast]
  rw [if_neg (by omega), if_neg (by omega), if_neg (by omega)]
set_option maxHeartbeats 2000000 in
set_option maxRecDepth 100000 in
theorem indexRune_two (r : Int) (w : World) (h0 : 128 ≤ r) (h1 : r < 2048) :
    Calls Try.prog 47 #[.string dlu, .int .i32 r] w fun e w' => e = .returned (.int .i64 (-1)) ∧ Below w.heap.size w w' := by
  have hv : Hid (decide (r < 55296 ∨ 57343 < r) = true) := hide (by simp; omega)
  have n1 : ¬ r = 65533 := by omega
  have n2 : ¬ r < 128 := by omega
  go_enter Try.func47, Try.ntmps47
  go_wp2_with fail
  refine (validRune_any r _ (by omega) (by omega)).mono ?_
  rintro e w1 ⟨rfl, rfl⟩
  rw [hv.out]
  obtain ⟨x, y, hrs, hy⟩ := enc_two r h0 h1
  go_wp2
  refine wp_scope_straight ?_
  go_wp2
  refine wp_loop_rounds 1 ?_
  rw [rounds_succ]
  go_wp2
  refine wp_scope_straight ?_
  have hy76 : ¬ (76 : Int) = (y.toNat : Int) := by omega
  have hy85 : Hid (Lib.indexByte [85] ((y.toNat : Int).toNat.toUInt8) = -1) := hide (by
    have e : ((y.toNat : Int).toNat.toUInt8) = y := by simp
    rw [e]
    have : ¬ (85 : UInt8) = y := fun q => by rw [← q] at hy; simp at hy
    simp [Lib.indexByte, this])
  have hne : (((dlu[1]'(show 1 < 3 by omega)).toNat : Int) != ((({ data := #[x, y] } : ByteArray)[1]'(show 1 < 2 by omega)).toNat : Int)) = true := by
    show ((76 : Int) != (y.toNat : Int)) = true
    simp; omega
  go_upto_region 6 with fail
  go_quiet (fail)
  have hBq : Below w.heap.size w (w.drewN nq) := below_drewN (Below.refl _ _) nq
  obtain ⟨wq, hwq⟩ : ∃ wq, wq = w.drewN nq := ⟨_, rfl⟩
  rw [← hwq] at hBq ⊢
  clear hwq
  have w2 : IntKind.i64.wrap 2 = 2 := by decide
  have hib : ∀ w : World, Calls Try.prog 57 #[.string (dlu.extract 2 3), .int .u8 (({ data := #[x, y] } : ByteArray)[1]'(show 1 < 2 by omega)).toNat] w fun e w' => e = .returned (.int .i64 (-1)) ∧ w = w' := fun w =>
    (strIndexByte_any _ _ w).mono fun e w' h => ⟨by
      rw [h.1, show (dlu.extract 2 3).data.toList = [85] from by decide, show ((({ data := #[x, y] } : ByteArray)[1]'(show 1 < 2 by omega)).toNat : Int) = (y.toNat : Int) from rfl, hy85.out], h.2⟩
  go_upto_region 7 with fail
  go_quiet (go_loud (go_at_call 57; refine Calls.quiet_of_same (still_of (hib _))))
  go_wp2
  simp only [Exit.noGoto, Exit.inBlock, Exit.then]
  go_ret
  exact ⟨rfl, below_drewN hBq _⟩
set_option maxHeartbeats 2000000 in
set_option maxRecDepth 100000 in
theorem indexRune_three (r : Int) (w : World) (h0 : 2048 ≤ r) (h1 : r < 65536) (hv0 : r < 55296 ∨ 57343 < r) (n1 : ¬ r = 65533) :
    Calls Try.prog 47 #[.string dlu, .int .i32 r] w fun e w' => e = .returned (.int .i64 (-1)) ∧ Below w.heap.size w w' := by
  have hv : Hid (decide (r < 55296 ∨ 57343 < r) = true) := hide (by simpa using hv0)
  have n2 : ¬ r < 128 := by omega
  go_enter Try.func47, Try.ntmps47
  go_wp2_with fail
  refine (validRune_any r _ (by omega) (by omega)).mono ?_
  rintro e w1 ⟨rfl, rfl⟩
  rw [hv.out]
  obtain ⟨x, z, y, hrs, hy⟩ := enc_three r h0 h1 hv0
  go_wp2
  refine wp_scope_straight ?_
  go_wp2
  refine wp_loop_rounds 1 ?_
  rw [rounds_succ]
  go_wp2
  refine wp_scope_straight ?_
  have hy85 : Hid (Lib.indexByte [] ((y.toNat : Int).toNat.toUInt8) = -1) := hide (by
    simp [Lib.indexByte])
  have hne : (((dlu[2]'(show 2 < 3 by omega)).toNat : Int) != ((({ data := #[x, z, y] } : ByteArray)[2]'(show 2 < 3 by omega)).toNat : Int)) = true := by
    show ((85 : Int) != (y.toNat : Int)) = true
    simp; omega
  go_upto_region 6 with fail
  go_quiet (fail)
  have hBq : Below w.heap.size w (w.drewN nq) := below_drewN (Below.refl _ _) nq
  obtain ⟨wq, hwq⟩ : ∃ wq, wq = w.drewN nq := ⟨_, rfl⟩
  rw [← hwq] at hBq ⊢
  clear hwq
  have w2 : IntKind.i64.wrap 3 = 3 := by decide
  have hib : ∀ w : World, Calls Try.prog 57 #[.string (dlu.extract 3 3), .int .u8 (({ data := #[x, z, y] } : ByteArray)[2]'(show 2 < 3 by omega)).toNat] w fun e w' => e = .returned (.int .i64 (-1)) ∧ w = w' := fun w =>
    (strIndexByte_any _ _ w).mono fun e w' h => ⟨by
      rw [h.1, show (dlu.extract 3 3).data.toList = [] from by decide, show ((({ data := #[x, z, y] } : ByteArray)[2]'(show 2 < 3 by omega)).toNat : Int) = (y.toNat : Int) from rfl, hy85.out], h.2⟩
  go_upto_region 7 with fail
  go_quiet (go_loud (go_at_call 57; refine Calls.quiet_of_same (still_of (hib _))))
  go_wp2
  simp only [Exit.noGoto, Exit.inBlock, Exit.then]
  go_ret
  exact ⟨rfl, below_drewN hBq _⟩
set_option maxHeartbeats 2000000 in
set_option maxRecDepth 100000 in
theorem indexRune_four (r : Int) (w : World) (h0 : 65536 ≤ r) (h1 : r ≤ 1114111) :
    Calls Try.prog 47 #[.string dlu, .int .i32 r] w fun e w' => e = .returned (.int .i64 (-1)) ∧ Below w.heap.size w w' := by
  have hv : Hid (decide (r < 55296 ∨ 57343 < r) = true) := hide (by simp; omega)
  have n1 : ¬ r = 65533 := by omega
  have n2 : ¬ r < 128 := by omega
  go_enter Try.func47, Try.ntmps47
  go_wp2_with fail
  refine (validRune_any r _ (by omega) (by omega)).mono ?_
  rintro e w1 ⟨rfl, rfl⟩
  rw [hv.out]
  obtain ⟨x, y, z, u, hrs⟩ := enc_four r h0 h1
  go_wp2
  refine wp_scope_straight ?_
  go_wp2
  refine wp_loop_rounds 1 ?_
  rw [rounds_succ]
  go_wp2
  simp only [Exit.noGoto, Exit.inBlock, Exit.then]
  go_ret
  exact ⟨rfl, Below.refl _ _⟩
theorem ixR_far {r : Int} (h : 128 ≤ r) : ixR r = -1 := by
  unfold ixR
  rw [if_neg (by omega), if_neg (by omega), if_neg (by omega)]
theorem indexRune_any (r : Int) (w : World) (h0 : 0 ≤ r) (h1 : r ≤ 1114111) :
    Calls Try.prog 47 #[.string dlu, .int .i32 r] w fun e w' => e = .returned (.int .i64 (ixR r)) ∧ Below w.heap.size w w' := by
  by_cases a1 : r < 128
  · exact indexRune_ascii r w h0 a1
  rw [ixR_far (by omega)]
  by_cases a2 : r < 2048
  · exact indexRune_two r w (by omega) a2
  by_cases a3 : 65536 ≤ r
  · exact indexRune_four r w a3 h1
  by_cases a4 : r = 65533
  · subst a4; exact indexRune_error w
  by_cases a5 : r < 55296 ∨ 57343 < r
  · exact indexRune_three r w (by omega) (by omega) a5 a4
  · exact indexRune_bad r w (by omega) (by omega)
end Go.Proofs.Ythahcnmfaghohaa
/- Contracts: goOn, read, WeightOfPath (program). -/
namespace Go.Proofs.Ythahcnmfaghohaa
open Go.RowKit
set_option linter.unusedVariables false
set_option linter.unusedSimpArgs false

/-- a node: the one before, the step, the height and the weight behind it -/
structure Node (w : World) (q : Nat) (bf : Option Addr) (st H W : Int) : Prop where
  c0 : w.cell? ⟨q, 0, none⟩ = some (.pointer bf)
  c1 : w.cell? ⟨q, 1, none⟩ = some (.int .i64 st)
  c2 : w.cell? ⟨q, 2, none⟩ = some (.int .i64 H)
  c3 : w.cell? ⟨q, 3, none⟩ = some (.int .i64 W)
theorem Node.below {w w' : World} {q : Nat} {bf : Option Addr} {st H W : Int} (h : Node w q bf st H W) (t : Below w.heap.size w w') : Node w' q bf st H W :=
  ⟨cell_be t h.c0, cell_be t h.c1, cell_be t h.c2, cell_be t h.c3⟩
def dst (k : Nat) : Int := if k = 0 then -1 else if k = 1 then 0 else 1
def fst' (A B : List Int) (k : Nat) (h : Nat) : Int := if k = 0 then B.getD h 0 else if k = 1 then A.getD h 0 else 1
set_option maxRecDepth 100000 in
set_option maxHeartbeats 3200000 in
theorem goOn_g (p : Int) (a : Option Addr) (n c : Nat) (A : List Int) (b : Option Addr) (d : Nat) (B : List Int) (q : Nat) (bf : Option Addr) (st W : Int) (h k : Nat) (w : World)
    (hA : SL w a n c A) (hB : SL w b n d B) (hn : n ≤ 1000) (hG : GW p A B) (hN : Node w q bf st h W) (hh : h < n) (hW : 0 ≤ W ∧ W < p) (hk : k ≤ 2) :
    Calls Try.prog 48 #[jac p a n c b n d, .pointer (some ⟨q, 0, none⟩), .int .i64 k] w fun e w' =>
      ((¬ (0 ≤ (h : Int) + dst k ∧ (h : Int) + dst k < (n : Int)) → e = .returned (.pointer none)) ∧
       ((0 ≤ (h : Int) + dst k ∧ (h : Int) + dst k < (n : Int)) → ∃ qn, e = .returned (.pointer (some ⟨qn, 0, none⟩)) ∧ w.heap.size ≤ qn ∧ Node w' qn (some ⟨q, 0, none⟩) k ((h : Int) + dst k) (W * fst' A B k h % p))) ∧ Below w.heap.size w w' := by
  have hb0 := bl1 w (.cells #[.int .i64 p, .slice a n c, .slice b n d] 52)
  have f0 : (w.alloc (.cells #[.int .i64 p, .slice a n c, .slice b n d] 52)).cell? ⟨w.heap.size, 0, none⟩ = some (.int .i64 p) := by simp [go_sem]
  have f1 : (w.alloc (.cells #[.int .i64 p, .slice a n c, .slice b n d] 52)).cell? ⟨w.heap.size, 1, none⟩ = some (.slice a n c) := by simp [go_sem]
  have f2 : (w.alloc (.cells #[.int .i64 p, .slice a n c, .slice b n d] 52)).cell? ⟨w.heap.size, 2, none⟩ = some (.slice b n d) := by simp [go_sem]
  have hN2 := hN.below hb0
  rcases (show k = 0 ∨ k = 1 ∨ k = 2 by omega) with rfl | rfl | rfl
  · have hr := gwM (p := p) (y := W) (x := (B.getD h 0)) (hG.b0 h) hW.1 hW.2
    have hd := hide (show (h : Int) + dst 0 = ((h : Int) - 1) by simp [dst]; omega)
    have hf := hide (show fst' A B 0 h = (B.getD h 0) from rfl)
    obtain ⟨X, hX⟩ : ∃ X, (B.getD h 0) = X := ⟨_, rfl⟩
    rw [hX] at hr hf
    have HX := hide hX
    clear hX
    have ri := run_idx0 (.func (.func 63) #[] #[]) (.func (.func 64) #[] #[]) (.func (.func 65) #[] #[])
    go_enter Try.func48, Try.ntmps48
    go_upto_region 1 with fail
    obtain ⟨wx, hwx⟩ : ∃ wx, wx = w.alloc (.cells #[.int .i64 p, .slice a n c, .slice b n d] 52) := ⟨_, rfl⟩
    rw [← hwx] at hb0 f0 f1 f2 hN2 ⊢
    clear hwx
    have hbd := (Below.refl wx.heap.size wx).drew
    refine region_E (fun w' => w'.cell? ⟨w.heap.size, 0, none⟩ = some (.int .i64 p) ∧ w'.cell? ⟨w.heap.size, 1, none⟩ = some (.slice a n c) ∧ w'.cell? ⟨w.heap.size, 2, none⟩ = some (.slice b n d) ∧ w'.cell? ⟨q, 2, none⟩ = some (.int .i64 h)) 100 (by kernel_rfl) ⟨cell_be hbd f0, cell_be hbd f1, cell_be hbd f2, cell_be hbd hN2.c2⟩ ?_
    intro hS
    refine anyE_takeH 1 rfl (by kernel_rfl) (fun _ _ _ h => h) hS (by rfl) (v := ?_) ?_ ?_
    rotate_left
    · intro w' hSw; (try dsimp only at hSw); go_simp; (try with_reducible rfl)
    try simp only [Act.put, List.setIfInBounds_toArray, List.set_cons_zero, List.set_cons_succ]
    refine anyE_takeH 3 rfl (by kernel_rfl) (fun _ _ _ h => h) hS (by rfl) (v := ?_) ?_ ?_
    rotate_left
    · intro w' hSw; (try dsimp only at hSw); go_simp; (try with_reducible rfl)
    try simp only [Act.put, List.setIfInBounds_toArray, List.set_cons_zero, List.set_cons_succ]
    refine anyE_takeH 4 rfl (by kernel_rfl) (fun _ _ _ h => h) hS (by rfl) (v := ?_) ?_ ?_
    rotate_left
    · intro w' hSw; (try dsimp only at hSw); go_simp; (try with_reducible rfl)
    try simp only [Act.put, List.setIfInBounds_toArray, List.set_cons_zero, List.set_cons_succ]
    refine anyE_takeH 5 rfl (by kernel_rfl) (fun _ _ _ h => h) hS (by rfl) (v := ?_) ?_ ?_
    rotate_left
    · intro w' hSw; (try dsimp only at hSw); go_simp; (try with_reducible rfl)
    try simp only [Act.put, List.setIfInBounds_toArray, List.set_cons_zero, List.set_cons_succ]
    refine anyE_takeH 6 rfl (by kernel_rfl) (fun _ _ _ h => h) hS (by rfl) (v := ?_) ?_ ?_
    rotate_left
    · intro w' hSw; (try dsimp only at hSw); go_simp; (try with_reducible rfl)
    try simp only [Act.put, List.setIfInBounds_toArray, List.set_cons_zero, List.set_cons_succ]
    refine anyE_takeH 7 rfl (by kernel_rfl) (fun _ _ _ h => h) hS (by rfl) (v := ?_) ?_ ?_
    rotate_left
    · intro w' hSw; (try dsimp only at hSw); go_simp; (try with_reducible rfl)
    try simp only [Act.put, List.setIfInBounds_toArray, List.set_cons_zero, List.set_cons_succ]
    clear hS
    have SF : ∀ w', Below wx.heap.size wx w' → w'.cell? ⟨w.heap.size, 0, none⟩ = some (.int .i64 p) ∧ w'.cell? ⟨w.heap.size, 1, none⟩ = some (.slice a n c) ∧ w'.cell? ⟨w.heap.size, 2, none⟩ = some (.slice b n d) ∧ w'.cell? ⟨q, 2, none⟩ = some (.int .i64 h) := fun w' hb => ⟨cell_be hb f0, cell_be hb f1, cell_be hb f2, cell_be hb hN2.c2⟩
    refine anyE_oneL 0 (by kernel_rfl) rfl (fun K' hK' => ?_)
    go_simp
    refine (moves_any _).mono ?_
    rintro e w2 ⟨rfl, t2⟩
    dsimp only
    have hm1 := bnext hbd t2
    have hm2 := bnext hb0 hm1
    refine hK'.out _ _ (SF _ hm1) ?_
    clear hK' K'
    try simp only [Act.put, List.setIfInBounds_toArray, List.set_cons_zero, List.set_cons_succ]
    refine anyE_oneL 2 (by kernel_rfl) rfl (fun K' hK' => ?_)
    go_simp
    refine hK'.out _ _ (SF _ hm1) ?_
    clear hK' K'
    try simp only [Act.put, List.setIfInBounds_toArray, List.set_cons_zero, List.set_cons_succ]
    refine anyE_oneL 8 (by kernel_rfl) rfl (fun K' hK' => ?_)
    go_simp
    refine (goDown_any p a n c B b n d h _ (hB.below hm2) hh (by omega)).mono ?_
    rintro e w3 ⟨rfl, t3⟩
    rw [HX.out]
    dsimp only
    have hm3 := bnext hm1 t3
    refine hK'.out _ _ (SF _ hm3) ?_
    clear hK' K'
    try simp only [Act.put, List.setIfInBounds_toArray, List.set_cons_zero, List.set_cons_succ]
    refine anyE_oneL 9 (by kernel_rfl) rfl (fun K' hK' => ?_)
    go_simp
    refine hK'.out _ _ (SF _ hm3) ?_
    clear hK' K'
    try simp only [Act.put, List.setIfInBounds_toArray, List.set_cons_zero, List.set_cons_succ]
    have hS := SF _ hm3
    refine anyE_takeH 10 rfl (by kernel_rfl) (fun _ _ _ h => h) hS (by rfl) (v := ?_) ?_ ?_
    rotate_left
    · intro w' hSw; (try dsimp only at hSw); go_simp; (try with_reducible rfl)
    try simp only [Act.put, List.setIfInBounds_toArray, List.set_cons_zero, List.set_cons_succ]
    refine anyE_takeH 11 rfl (by kernel_rfl) (fun _ _ _ h => h) hS (by rfl) (v := ?_) ?_ ?_
    rotate_left
    · intro w' hSw; (try dsimp only at hSw); go_simp; (try with_reducible rfl)
    try simp only [Act.put, List.setIfInBounds_toArray, List.set_cons_zero, List.set_cons_succ]
    clear hS
    refine anyE_oneL 12 (by kernel_rfl) rfl (fun K' hK' => ?_)
    go_simp
    refine hK'.out _ _ (SF _ hm3) ?_
    clear hK' K'
    try simp only [Act.put, List.setIfInBounds_toArray, List.set_cons_zero, List.set_cons_succ]
    refine anyE_oneL 13 (by kernel_rfl) rfl (fun K' hK' => ?_)
    go_simp
    refine hK'.out _ _ (SF _ hm3) (anyE_doneL (by kernel_rfl) ?_)
    clear hK' K'
    try simp only [Act.put, List.setIfInBounds_toArray, List.set_cons_zero, List.set_cons_succ]
    have g0 := cell_be hm3 f0
    have g1 := cell_be hm3 f1
    have g2 := cell_be hm3 f2
    have hN3 := hide (hN2.below hm3)
    have hB3 := bnext hb0 hm3
    clear SF hbd t2 t3 hm1 hm2 hm3 f0 f1 f2 hN2 hb0 ri
    by_cases hyes : 0 ≤ ((h : Int) - 1) ∧ ((h : Int) - 1) < (n : Int)
    · have Hy := hide hyes
      clear hyes
      go_wp2_with fail
      refine (has_t p a n c b n d ((h : Int) - 1) _ (by omega) Hy.out.1 Hy.out.2).mono ?_
      rintro e w4 ⟨rfl, t4⟩
      have g0' := cell_be t4 g0
      have hN4 := hN3.out.below t4
      have hB4 := bnext hB3 t4
      have hp0 : ¬ p = 0 := by have := hG.lo; omega
      have w1 : IntKind.i64.wrap (W * X) = W * X := IntWalk.i64_in _ (by have := Int.mul_comm W X; omega)
      have w2 : (W * X).tmod p = W * X % p := Int.tmod_eq_emod_of_nonneg (by have := Int.mul_comm W X; omega)
      have hval := hide (show W * fst' A B 0 h % p = W * X % p by rw [hf.out])
      have n3 := hN4.c3
      go_upto_region 4 with fail
      have hbd := (Below.refl w4.heap.size w4).drew
      refine region_E (fun w' => w'.cell? ⟨w.heap.size, 0, none⟩ = some (.int .i64 p) ∧ w'.cell? ⟨q, 3, none⟩ = some (.int .i64 W)) 100 (by kernel_rfl) ⟨cell_be hbd g0', cell_be hbd n3⟩ ?_
      intro hS
      refine anyE_takeH 0 rfl (by kernel_rfl) (fun _ _ _ h => h) hS (by rfl) (v := ?_) ?_ ?_
      rotate_left
      · intro w' hSw; (try dsimp only at hSw); go_simp; (try with_reducible rfl)
      try simp only [Act.put, List.setIfInBounds_toArray, List.set_cons_zero, List.set_cons_succ]
      refine anyE_takeH 1 rfl (by kernel_rfl) (fun _ _ _ h => h) hS (by rfl) (v := ?_) ?_ ?_
      rotate_left
      · intro w' hSw; (try dsimp only at hSw); go_simp; (try with_reducible rfl)
      try simp only [Act.put, List.setIfInBounds_toArray, List.set_cons_zero, List.set_cons_succ]
      refine anyE_takeH 2 rfl (by kernel_rfl) (fun _ _ _ h => h) hS (by rfl) (v := ?_) ?_ ?_
      rotate_left
      · intro w' hSw; (try dsimp only at hSw); go_simp; (try with_reducible rfl)
      try simp only [Act.put, List.setIfInBounds_toArray, List.set_cons_zero, List.set_cons_succ]
      refine anyE_takeH 3 rfl (by kernel_rfl) (fun _ _ _ h => h) hS (by rfl) (v := ?_) ?_ ?_
      rotate_left
      · intro w' hSw; (try dsimp only at hSw); go_simp; (try with_reducible rfl)
      try simp only [Act.put, List.setIfInBounds_toArray, List.set_cons_zero, List.set_cons_succ]
      refine anyE_takeH 4 rfl (by kernel_rfl) (fun _ _ _ h => h) hS (by rfl) (v := ?_) ?_ ?_
      rotate_left
      · intro w' hSw; (try dsimp only at hSw); go_simp; (try with_reducible rfl)
      try simp only [Act.put, List.setIfInBounds_toArray, List.set_cons_zero, List.set_cons_succ]
      refine anyE_takeH 5 rfl (by kernel_rfl) (fun _ _ _ h => h) hS (by rfl) (v := ?_) ?_ ?_
      rotate_left
      · intro w' hSw; (try dsimp only at hSw); go_simp; (try with_reducible rfl)
      try simp only [Act.put, List.setIfInBounds_toArray, List.set_cons_zero, List.set_cons_succ]
      refine anyE_takeH 6 rfl (by kernel_rfl) (fun _ _ _ h => h) hS (by rfl) (v := ?_) ?_ ?_
      rotate_left
      · intro w' hSw; (try dsimp only at hSw); go_simp; (try with_reducible rfl)
      try simp only [Act.put, List.setIfInBounds_toArray, List.set_cons_zero, List.set_cons_succ]
      refine anyE_takeH 7 rfl (by kernel_rfl) (fun _ _ _ h => h) hS (by rfl) (v := ?_) ?_ ?_
      rotate_left
      · intro w' hSw; (try dsimp only at hSw); go_simp; (try with_reducible rfl)
      try simp only [Act.put, List.setIfInBounds_toArray, List.set_cons_zero, List.set_cons_succ]
      refine anyE_takeH 8 rfl (by kernel_rfl) (fun _ _ _ h => h) hS (by rfl) (v := ?_) ?_ ?_
      rotate_left
      · intro w' hSw; (try dsimp only at hSw); go_simp; (try with_reducible rfl)
      try simp only [Act.put, List.setIfInBounds_toArray, List.set_cons_zero, List.set_cons_succ]
      refine anyE_takeH 9 rfl (by kernel_rfl) (fun _ _ _ h => h) hS (by rfl) (v := ?_) ?_ ?_
      rotate_left
      · intro w' hSw; (try dsimp only at hSw); go_simp; (try with_reducible rfl)
      try simp only [Act.put, List.setIfInBounds_toArray, List.set_cons_zero, List.set_cons_succ]
      refine anyE_takeH 10 rfl (by kernel_rfl) (fun _ _ _ h => h) hS (by rfl) (v := ?_) ?_ ?_
      rotate_left
      · intro w' hSw; (try dsimp only at hSw); go_simp; (try with_reducible rfl)
      try simp only [Act.put, List.setIfInBounds_toArray, List.set_cons_zero, List.set_cons_succ]
      refine anyE_takeH 11 rfl (by kernel_rfl) (fun _ _ _ h => h) hS (by rfl) (v := ?_) ?_ ?_
      rotate_left
      · intro w' hSw; (try dsimp only at hSw); go_simp; (try with_reducible rfl)
      try simp only [Act.put, List.setIfInBounds_toArray, List.set_cons_zero, List.set_cons_succ]
      refine anyE_takeH 12 rfl (by kernel_rfl) (fun _ _ _ h => h) hS (by rfl) (v := ?_) ?_ ?_
      rotate_left
      · intro w' hSw; (try dsimp only at hSw); go_simp; (try with_reducible rfl)
      try simp only [Act.put, List.setIfInBounds_toArray, List.set_cons_zero, List.set_cons_succ]
      clear hS
      obtain ⟨wd, hwd⟩ : ∃ wd, wd = w4.drew := ⟨_, rfl⟩
      rw [← hwd] at hbd ⊢
      clear hwd
      have ba := bl1 wd (.cells #[.pointer (some ⟨q, 0, none⟩), .int .i64 0, .int .i64 ((h : Int) - 1), .int .i64 (W * X % p)] 56)
      have hm4 := bnext hbd ba
      have hNn := hide (show Node (wd.alloc (.cells #[.pointer (some ⟨q, 0, none⟩), .int .i64 0, .int .i64 ((h : Int) - 1), .int .i64 (W * X % p)] 56)) wd.heap.size (some ⟨q, 0, none⟩) 0 ((h : Int) - 1) (W * X % p) from ⟨by simp [go_sem], by simp [go_sem], by simp [go_sem], by simp [go_sem]⟩)
      have hzz : w.heap.size ≤ wd.heap.size := Nat.le_trans hB4.size hbd.size
      refine anyE_oneL 13 (by kernel_rfl) rfl (fun K' hK' => ?_)
      go_simp
      refine hK'.out _ _ ⟨cell_be hm4 g0', cell_be hm4 n3⟩ ?_
      clear hK' K'
      try simp only [Act.put, List.setIfInBounds_toArray, List.set_cons_zero, List.set_cons_succ]
      refine anyE_oneL 14 (by kernel_rfl) rfl (fun K' hK' => ?_)
      go_simp
      refine hK'.out _ _ ⟨cell_be hm4 g0', cell_be hm4 n3⟩ (anyE_doneL (by kernel_rfl) ?_)
      clear hK' K'
      try simp only [Act.put, List.setIfInBounds_toArray, List.set_cons_zero, List.set_cons_succ]
      have hB5 := bnext hB4 hm4
      clear g0 g1 g2 g0' n3 hN4 w2 w1
      go_wp2
      go_ret
      refine ⟨⟨fun hno => absurd (by rw [hd.out]; exact Hy.out) hno, fun _ => ⟨wd.heap.size, rfl, hzz, ?_⟩⟩, hB5⟩
      rw [hd.out, hval.out]
      exact hNn.out
    · have Hy := hide hyes
      clear hyes
      go_wp2_with fail
      refine (has_f p a n c b n d ((h : Int) - 1) _ (by omega) Hy.out).mono ?_
      rintro e w4 ⟨rfl, t4⟩
      have hB4 := bnext hB3 t4
      go_wp2
      go_ret
      exact ⟨⟨fun _ => rfl, fun hyes => absurd (by rw [← hd.out]; exact hyes) Hy.out⟩, hB4⟩
  · have hr := gwM (p := p) (y := W) (x := (A.getD h 0)) (hG.a0 h) hW.1 hW.2
    have hd := hide (show (h : Int) + dst 1 = (h : Int) by simp [dst])
    have hf := hide (show fst' A B 1 h = (A.getD h 0) from rfl)
    obtain ⟨X, hX⟩ : ∃ X, (A.getD h 0) = X := ⟨_, rfl⟩
    rw [hX] at hr hf
    have HX := hide hX
    clear hX
    have ri := run_idx1 (.func (.func 63) #[] #[]) (.func (.func 64) #[] #[]) (.func (.func 65) #[] #[])
    go_enter Try.func48, Try.ntmps48
    go_upto_region 1 with fail
    obtain ⟨wx, hwx⟩ : ∃ wx, wx = w.alloc (.cells #[.int .i64 p, .slice a n c, .slice b n d] 52) := ⟨_, rfl⟩
    rw [← hwx] at hb0 f0 f1 f2 hN2 ⊢
    clear hwx
    have hbd := (Below.refl wx.heap.size wx).drew
    refine region_E (fun w' => w'.cell? ⟨w.heap.size, 0, none⟩ = some (.int .i64 p) ∧ w'.cell? ⟨w.heap.size, 1, none⟩ = some (.slice a n c) ∧ w'.cell? ⟨w.heap.size, 2, none⟩ = some (.slice b n d) ∧ w'.cell? ⟨q, 2, none⟩ = some (.int .i64 h)) 100 (by kernel_rfl) ⟨cell_be hbd f0, cell_be hbd f1, cell_be hbd f2, cell_be hbd hN2.c2⟩ ?_
    intro hS
    refine anyE_takeH 1 rfl (by kernel_rfl) (fun _ _ _ h => h) hS (by rfl) (v := ?_) ?_ ?_
    rotate_left
    · intro w' hSw; (try dsimp only at hSw); go_simp; (try with_reducible rfl)
    try simp only [Act.put, List.setIfInBounds_toArray, List.set_cons_zero, List.set_cons_succ]
    refine anyE_takeH 3 rfl (by kernel_rfl) (fun _ _ _ h => h) hS (by rfl) (v := ?_) ?_ ?_
    rotate_left
    · intro w' hSw; (try dsimp only at hSw); go_simp; (try with_reducible rfl)
    try simp only [Act.put, List.setIfInBounds_toArray, List.set_cons_zero, List.set_cons_succ]
    refine anyE_takeH 4 rfl (by kernel_rfl) (fun _ _ _ h => h) hS (by rfl) (v := ?_) ?_ ?_
    rotate_left
    · intro w' hSw; (try dsimp only at hSw); go_simp; (try with_reducible rfl)
    try simp only [Act.put, List.setIfInBounds_toArray, List.set_cons_zero, List.set_cons_succ]
    refine anyE_takeH 5 rfl (by kernel_rfl) (fun _ _ _ h => h) hS (by rfl) (v := ?_) ?_ ?_
    rotate_left
    · intro w' hSw; (try dsimp only at hSw); go_simp; (try with_reducible rfl)
    try simp only [Act.put, List.setIfInBounds_toArray, List.set_cons_zero, List.set_cons_succ]
    refine anyE_takeH 6 rfl (by kernel_rfl) (fun _ _ _ h => h) hS (by rfl) (v := ?_) ?_ ?_
    rotate_left
    · intro w' hSw; (try dsimp only at hSw); go_simp; (try with_reducible rfl)
    try simp only [Act.put, List.setIfInBounds_toArray, List.set_cons_zero, List.set_cons_succ]
    refine anyE_takeH 7 rfl (by kernel_rfl) (fun _ _ _ h => h) hS (by rfl) (v := ?_) ?_ ?_
    rotate_left
    · intro w' hSw; (try dsimp only at hSw); go_simp; (try with_reducible rfl)
    try simp only [Act.put, List.setIfInBounds_toArray, List.set_cons_zero, List.set_cons_succ]
    clear hS
    have SF : ∀ w', Below wx.heap.size wx w' → w'.cell? ⟨w.heap.size, 0, none⟩ = some (.int .i64 p) ∧ w'.cell? ⟨w.heap.size, 1, none⟩ = some (.slice a n c) ∧ w'.cell? ⟨w.heap.size, 2, none⟩ = some (.slice b n d) ∧ w'.cell? ⟨q, 2, none⟩ = some (.int .i64 h) := fun w' hb => ⟨cell_be hb f0, cell_be hb f1, cell_be hb f2, cell_be hb hN2.c2⟩
    refine anyE_oneL 0 (by kernel_rfl) rfl (fun K' hK' => ?_)
    go_simp
    refine (moves_any _).mono ?_
    rintro e w2 ⟨rfl, t2⟩
    dsimp only
    have hm1 := bnext hbd t2
    have hm2 := bnext hb0 hm1
    refine hK'.out _ _ (SF _ hm1) ?_
    clear hK' K'
    try simp only [Act.put, List.setIfInBounds_toArray, List.set_cons_zero, List.set_cons_succ]
    refine anyE_oneL 2 (by kernel_rfl) rfl (fun K' hK' => ?_)
    go_simp
    refine hK'.out _ _ (SF _ hm1) ?_
    clear hK' K'
    try simp only [Act.put, List.setIfInBounds_toArray, List.set_cons_zero, List.set_cons_succ]
    refine anyE_oneL 8 (by kernel_rfl) rfl (fun K' hK' => ?_)
    go_simp
    refine (goLevel_any p a n c A b n d h _ (hA.below hm2) hh (by omega)).mono ?_
    rintro e w3 ⟨rfl, t3⟩
    rw [HX.out]
    dsimp only
    have hm3 := bnext hm1 t3
    refine hK'.out _ _ (SF _ hm3) ?_
    clear hK' K'
    try simp only [Act.put, List.setIfInBounds_toArray, List.set_cons_zero, List.set_cons_succ]
    refine anyE_oneL 9 (by kernel_rfl) rfl (fun K' hK' => ?_)
    go_simp
    refine hK'.out _ _ (SF _ hm3) ?_
    clear hK' K'
    try simp only [Act.put, List.setIfInBounds_toArray, List.set_cons_zero, List.set_cons_succ]
    have hS := SF _ hm3
    refine anyE_takeH 10 rfl (by kernel_rfl) (fun _ _ _ h => h) hS (by rfl) (v := ?_) ?_ ?_
    rotate_left
    · intro w' hSw; (try dsimp only at hSw); go_simp; (try with_reducible rfl)
    try simp only [Act.put, List.setIfInBounds_toArray, List.set_cons_zero, List.set_cons_succ]
    refine anyE_takeH 11 rfl (by kernel_rfl) (fun _ _ _ h => h) hS (by rfl) (v := ?_) ?_ ?_
    rotate_left
    · intro w' hSw; (try dsimp only at hSw); go_simp; (try with_reducible rfl)
    try simp only [Act.put, List.setIfInBounds_toArray, List.set_cons_zero, List.set_cons_succ]
    clear hS
    refine anyE_oneL 12 (by kernel_rfl) rfl (fun K' hK' => ?_)
    go_simp
    refine hK'.out _ _ (SF _ hm3) ?_
    clear hK' K'
    try simp only [Act.put, List.setIfInBounds_toArray, List.set_cons_zero, List.set_cons_succ]
    refine anyE_oneL 13 (by kernel_rfl) rfl (fun K' hK' => ?_)
    go_simp
    refine hK'.out _ _ (SF _ hm3) (anyE_doneL (by kernel_rfl) ?_)
    clear hK' K'
    try simp only [Act.put, List.setIfInBounds_toArray, List.set_cons_zero, List.set_cons_succ]
    have g0 := cell_be hm3 f0
    have g1 := cell_be hm3 f1
    have g2 := cell_be hm3 f2
    have hN3 := hide (hN2.below hm3)
    have hB3 := bnext hb0 hm3
    clear SF hbd t2 t3 hm1 hm2 hm3 f0 f1 f2 hN2 hb0 ri
    by_cases hyes : 0 ≤ (h : Int) ∧ (h : Int) < (n : Int)
    · have Hy := hide hyes
      clear hyes
      go_wp2_with fail
      refine (has_t p a n c b n d (h : Int) _ (by omega) Hy.out.1 Hy.out.2).mono ?_
      rintro e w4 ⟨rfl, t4⟩
      have g0' := cell_be t4 g0
      have hN4 := hN3.out.below t4
      have hB4 := bnext hB3 t4
      have hp0 : ¬ p = 0 := by have := hG.lo; omega
      have w1 : IntKind.i64.wrap (W * X) = W * X := IntWalk.i64_in _ (by have := Int.mul_comm W X; omega)
      have w2 : (W * X).tmod p = W * X % p := Int.tmod_eq_emod_of_nonneg (by have := Int.mul_comm W X; omega)
      have hval := hide (show W * fst' A B 1 h % p = W * X % p by rw [hf.out])
      have n3 := hN4.c3
      go_upto_region 4 with fail
      have hbd := (Below.refl w4.heap.size w4).drew
      refine region_E (fun w' => w'.cell? ⟨w.heap.size, 0, none⟩ = some (.int .i64 p) ∧ w'.cell? ⟨q, 3, none⟩ = some (.int .i64 W)) 100 (by kernel_rfl) ⟨cell_be hbd g0', cell_be hbd n3⟩ ?_
      intro hS
      refine anyE_takeH 0 rfl (by kernel_rfl) (fun _ _ _ h => h) hS (by rfl) (v := ?_) ?_ ?_
      rotate_left
      · intro w' hSw; (try dsimp only at hSw); go_simp; (try with_reducible rfl)
      try simp only [Act.put, List.setIfInBounds_toArray, List.set_cons_zero, List.set_cons_succ]
      refine anyE_takeH 1 rfl (by kernel_rfl) (fun _ _ _ h => h) hS (by rfl) (v := ?_) ?_ ?_
      rotate_left
      · intro w' hSw; (try dsimp only at hSw); go_simp; (try with_reducible rfl)
      try simp only [Act.put, List.setIfInBounds_toArray, List.set_cons_zero, List.set_cons_succ]
      refine anyE_takeH 2 rfl (by kernel_rfl) (fun _ _ _ h => h) hS (by rfl) (v := ?_) ?_ ?_
      rotate_left
      · intro w' hSw; (try dsimp only at hSw); go_simp; (try with_reducible rfl)
      try simp only [Act.put, List.setIfInBounds_toArray, List.set_cons_zero, List.set_cons_succ]
      refine anyE_takeH 3 rfl (by kernel_rfl) (fun _ _ _ h => h) hS (by rfl) (v := ?_) ?_ ?_
      rotate_left
      · intro w' hSw; (try dsimp only at hSw); go_simp; (try with_reducible rfl)
      try simp only [Act.put, List.setIfInBounds_toArray, List.set_cons_zero, List.set_cons_succ]
      refine anyE_takeH 4 rfl (by kernel_rfl) (fun _ _ _ h => h) hS (by rfl) (v := ?_) ?_ ?_
      rotate_left
      · intro w' hSw; (try dsimp only at hSw); go_simp; (try with_reducible rfl)
      try simp only [Act.put, List.setIfInBounds_toArray, List.set_cons_zero, List.set_cons_succ]
      refine anyE_takeH 5 rfl (by kernel_rfl) (fun _ _ _ h => h) hS (by rfl) (v := ?_) ?_ ?_
      rotate_left
      · intro w' hSw; (try dsimp only at hSw); go_simp; (try with_reducible rfl)
      try simp only [Act.put, List.setIfInBounds_toArray, List.set_cons_zero, List.set_cons_succ]
      refine anyE_takeH 6 rfl (by kernel_rfl) (fun _ _ _ h => h) hS (by rfl) (v := ?_) ?_ ?_
      rotate_left
      · intro w' hSw; (try dsimp only at hSw); go_simp; (try with_reducible rfl)
      try simp only [Act.put, List.setIfInBounds_toArray, List.set_cons_zero, List.set_cons_succ]
      refine anyE_takeH 7 rfl (by kernel_rfl) (fun _ _ _ h => h) hS (by rfl) (v := ?_) ?_ ?_
      rotate_left
      · intro w' hSw; (try dsimp only at hSw); go_simp; (try with_reducible rfl)
      try simp only [Act.put, List.setIfInBounds_toArray, List.set_cons_zero, List.set_cons_succ]
      refine anyE_takeH 8 rfl (by kernel_rfl) (fun _ _ _ h => h) hS (by rfl) (v := ?_) ?_ ?_
      rotate_left
      · intro w' hSw; (try dsimp only at hSw); go_simp; (try with_reducible rfl)
      try simp only [Act.put, List.setIfInBounds_toArray, List.set_cons_zero, List.set_cons_succ]
      refine anyE_takeH 9 rfl (by kernel_rfl) (fun _ _ _ h => h) hS (by rfl) (v := ?_) ?_ ?_
      rotate_left
      · intro w' hSw; (try dsimp only at hSw); go_simp; (try with_reducible rfl)
      try simp only [Act.put, List.setIfInBounds_toArray, List.set_cons_zero, List.set_cons_succ]
      refine anyE_takeH 10 rfl (by kernel_rfl) (fun _ _ _ h => h) hS (by rfl) (v := ?_) ?_ ?_
      rotate_left
      · intro w' hSw; (try dsimp only at hSw); go_simp; (try with_reducible rfl)
      try simp only [Act.put, List.setIfInBounds_toArray, List.set_cons_zero, List.set_cons_succ]
      refine anyE_takeH 11 rfl (by kernel_rfl) (fun _ _ _ h => h) hS (by rfl) (v := ?_) ?_ ?_
      rotate_left
      · intro w' hSw; (try dsimp only at hSw); go_simp; (try with_reducible rfl)
      try simp only [Act.put, List.setIfInBounds_toArray, List.set_cons_zero, List.set_cons_succ]
      refine anyE_takeH 12 rfl (by kernel_rfl) (fun _ _ _ h => h) hS (by rfl) (v := ?_) ?_ ?_
      rotate_left
      · intro w' hSw; (try dsimp only at hSw); go_simp; (try with_reducible rfl)
      try simp only [Act.put, List.setIfInBounds_toArray, List.set_cons_zero, List.set_cons_succ]
      clear hS
      obtain ⟨wd, hwd⟩ : ∃ wd, wd = w4.drew := ⟨_, rfl⟩
      rw [← hwd] at hbd ⊢
      clear hwd
      have ba := bl1 wd (.cells #[.pointer (some ⟨q, 0, none⟩), .int .i64 1, .int .i64 (h : Int), .int .i64 (W * X % p)] 56)
      have hm4 := bnext hbd ba
      have hNn := hide (show Node (wd.alloc (.cells #[.pointer (some ⟨q, 0, none⟩), .int .i64 1, .int .i64 (h : Int), .int .i64 (W * X % p)] 56)) wd.heap.size (some ⟨q, 0, none⟩) 1 (h : Int) (W * X % p) from ⟨by simp [go_sem], by simp [go_sem], by simp [go_sem], by simp [go_sem]⟩)
      have hzz : w.heap.size ≤ wd.heap.size := Nat.le_trans hB4.size hbd.size
      refine anyE_oneL 13 (by kernel_rfl) rfl (fun K' hK' => ?_)
      go_simp
      refine hK'.out _ _ ⟨cell_be hm4 g0', cell_be hm4 n3⟩ ?_
      clear hK' K'
      try simp only [Act.put, List.setIfInBounds_toArray, List.set_cons_zero, List.set_cons_succ]
      refine anyE_oneL 14 (by kernel_rfl) rfl (fun K' hK' => ?_)
      go_simp
      refine hK'.out _ _ ⟨cell_be hm4 g0', cell_be hm4 n3⟩ (anyE_doneL (by kernel_rfl) ?_)
      clear hK' K'
      try simp only [Act.put, List.setIfInBounds_toArray, List.set_cons_zero, List.set_cons_succ]
      have hB5 := bnext hB4 hm4
      clear g0 g1 g2 g0' n3 hN4 w2 w1
      go_wp2
      go_ret
      refine ⟨⟨fun hno => absurd (by rw [hd.out]; exact Hy.out) hno, fun _ => ⟨wd.heap.size, rfl, hzz, ?_⟩⟩, hB5⟩
      rw [hd.out, hval.out]
      exact hNn.out
    · have Hy := hide hyes
      clear hyes
      go_wp2_with fail
      refine (has_f p a n c b n d (h : Int) _ (by omega) Hy.out).mono ?_
      rintro e w4 ⟨rfl, t4⟩
      have hB4 := bnext hB3 t4
      go_wp2
      go_ret
      exact ⟨⟨fun _ => rfl, fun hyes => absurd (by rw [← hd.out]; exact hyes) Hy.out⟩, hB4⟩
  · have hr := gwM (p := p) (y := W) (x := 1) ⟨by omega, by have := hG.hi; omega⟩ hW.1 hW.2
    have hd := hide (show (h : Int) + dst 2 = ((h : Int) + 1) by simp [dst])
    have hf := hide (show fst' A B 2 h = 1 from rfl)
    have ri := run_idx2 (.func (.func 63) #[] #[]) (.func (.func 64) #[] #[]) (.func (.func 65) #[] #[])
    go_enter Try.func48, Try.ntmps48
    go_upto_region 1 with fail
    obtain ⟨wx, hwx⟩ : ∃ wx, wx = w.alloc (.cells #[.int .i64 p, .slice a n c, .slice b n d] 52) := ⟨_, rfl⟩
    rw [← hwx] at hb0 f0 f1 f2 hN2 ⊢
    clear hwx
    have hbd := (Below.refl wx.heap.size wx).drew
    refine region_E (fun w' => w'.cell? ⟨w.heap.size, 0, none⟩ = some (.int .i64 p) ∧ w'.cell? ⟨w.heap.size, 1, none⟩ = some (.slice a n c) ∧ w'.cell? ⟨w.heap.size, 2, none⟩ = some (.slice b n d) ∧ w'.cell? ⟨q, 2, none⟩ = some (.int .i64 h)) 100 (by kernel_rfl) ⟨cell_be hbd f0, cell_be hbd f1, cell_be hbd f2, cell_be hbd hN2.c2⟩ ?_
    intro hS
    refine anyE_takeH 1 rfl (by kernel_rfl) (fun _ _ _ h => h) hS (by rfl) (v := ?_) ?_ ?_
    rotate_left
    · intro w' hSw; (try dsimp only at hSw); go_simp; (try with_reducible rfl)
    try simp only [Act.put, List.setIfInBounds_toArray, List.set_cons_zero, List.set_cons_succ]
    refine anyE_takeH 3 rfl (by kernel_rfl) (fun _ _ _ h => h) hS (by rfl) (v := ?_) ?_ ?_
    rotate_left
    · intro w' hSw; (try dsimp only at hSw); go_simp; (try with_reducible rfl)
    try simp only [Act.put, List.setIfInBounds_toArray, List.set_cons_zero, List.set_cons_succ]
    refine anyE_takeH 4 rfl (by kernel_rfl) (fun _ _ _ h => h) hS (by rfl) (v := ?_) ?_ ?_
    rotate_left
    · intro w' hSw; (try dsimp only at hSw); go_simp; (try with_reducible rfl)
    try simp only [Act.put, List.setIfInBounds_toArray, List.set_cons_zero, List.set_cons_succ]
    refine anyE_takeH 5 rfl (by kernel_rfl) (fun _ _ _ h => h) hS (by rfl) (v := ?_) ?_ ?_
    rotate_left
    · intro w' hSw; (try dsimp only at hSw); go_simp; (try with_reducible rfl)
    try simp only [Act.put, List.setIfInBounds_toArray, List.set_cons_zero, List.set_cons_succ]
    refine anyE_takeH 6 rfl (by kernel_rfl) (fun _ _ _ h => h) hS (by rfl) (v := ?_) ?_ ?_
    rotate_left
    · intro w' hSw; (try dsimp only at hSw); go_simp; (try with_reducible rfl)
    try simp only [Act.put, List.setIfInBounds_toArray, List.set_cons_zero, List.set_cons_succ]
    refine anyE_takeH 7 rfl (by kernel_rfl) (fun _ _ _ h => h) hS (by rfl) (v := ?_) ?_ ?_
    rotate_left
    · intro w' hSw; (try dsimp only at hSw); go_simp; (try with_reducible rfl)
    try simp only [Act.put, List.setIfInBounds_toArray, List.set_cons_zero, List.set_cons_succ]
    clear hS
    have SF : ∀ w', Below wx.heap.size wx w' → w'.cell? ⟨w.heap.size, 0, none⟩ = some (.int .i64 p) ∧ w'.cell? ⟨w.heap.size, 1, none⟩ = some (.slice a n c) ∧ w'.cell? ⟨w.heap.size, 2, none⟩ = some (.slice b n d) ∧ w'.cell? ⟨q, 2, none⟩ = some (.int .i64 h) := fun w' hb => ⟨cell_be hb f0, cell_be hb f1, cell_be hb f2, cell_be hb hN2.c2⟩
    refine anyE_oneL 0 (by kernel_rfl) rfl (fun K' hK' => ?_)
    go_simp
    refine (moves_any _).mono ?_
    rintro e w2 ⟨rfl, t2⟩
    dsimp only
    have hm1 := bnext hbd t2
    have hm2 := bnext hb0 hm1
    refine hK'.out _ _ (SF _ hm1) ?_
    clear hK' K'
    try simp only [Act.put, List.setIfInBounds_toArray, List.set_cons_zero, List.set_cons_succ]
    refine anyE_oneL 2 (by kernel_rfl) rfl (fun K' hK' => ?_)
    go_simp
    refine hK'.out _ _ (SF _ hm1) ?_
    clear hK' K'
    try simp only [Act.put, List.setIfInBounds_toArray, List.set_cons_zero, List.set_cons_succ]
    refine anyE_oneL 8 (by kernel_rfl) rfl (fun K' hK' => ?_)
    go_simp
    refine (goUp_any p a n c b n d h _ (by omega) (by omega)).mono ?_
    rintro e w3 ⟨rfl, t3⟩
    dsimp only
    have hm3 := bnext hm1 t3
    refine hK'.out _ _ (SF _ hm3) ?_
    clear hK' K'
    try simp only [Act.put, List.setIfInBounds_toArray, List.set_cons_zero, List.set_cons_succ]
    refine anyE_oneL 9 (by kernel_rfl) rfl (fun K' hK' => ?_)
    go_simp
    refine hK'.out _ _ (SF _ hm3) ?_
    clear hK' K'
    try simp only [Act.put, List.setIfInBounds_toArray, List.set_cons_zero, List.set_cons_succ]
    have hS := SF _ hm3
    refine anyE_takeH 10 rfl (by kernel_rfl) (fun _ _ _ h => h) hS (by rfl) (v := ?_) ?_ ?_
    rotate_left
    · intro w' hSw; (try dsimp only at hSw); go_simp; (try with_reducible rfl)
    try simp only [Act.put, List.setIfInBounds_toArray, List.set_cons_zero, List.set_cons_succ]
    refine anyE_takeH 11 rfl (by kernel_rfl) (fun _ _ _ h => h) hS (by rfl) (v := ?_) ?_ ?_
    rotate_left
    · intro w' hSw; (try dsimp only at hSw); go_simp; (try with_reducible rfl)
    try simp only [Act.put, List.setIfInBounds_toArray, List.set_cons_zero, List.set_cons_succ]
    clear hS
    refine anyE_oneL 12 (by kernel_rfl) rfl (fun K' hK' => ?_)
    go_simp
    refine hK'.out _ _ (SF _ hm3) ?_
    clear hK' K'
    try simp only [Act.put, List.setIfInBounds_toArray, List.set_cons_zero, List.set_cons_succ]
    refine anyE_oneL 13 (by kernel_rfl) rfl (fun K' hK' => ?_)
    go_simp
    refine hK'.out _ _ (SF _ hm3) (anyE_doneL (by kernel_rfl) ?_)
    clear hK' K'
    try simp only [Act.put, List.setIfInBounds_toArray, List.set_cons_zero, List.set_cons_succ]
    have g0 := cell_be hm3 f0
    have g1 := cell_be hm3 f1
    have g2 := cell_be hm3 f2
    have hN3 := hide (hN2.below hm3)
    have hB3 := bnext hb0 hm3
    clear SF hbd t2 t3 hm1 hm2 hm3 f0 f1 f2 hN2 hb0 ri
    by_cases hyes : 0 ≤ ((h : Int) + 1) ∧ ((h : Int) + 1) < (n : Int)
    · have Hy := hide hyes
      clear hyes
      go_wp2_with fail
      refine (has_t p a n c b n d ((h : Int) + 1) _ (by omega) Hy.out.1 Hy.out.2).mono ?_
      rintro e w4 ⟨rfl, t4⟩
      have g0' := cell_be t4 g0
      have hN4 := hN3.out.below t4
      have hB4 := bnext hB3 t4
      have hp0 : ¬ p = 0 := by have := hG.lo; omega
      have w1 : IntKind.i64.wrap W = W := IntWalk.i64_in _ (by have := hG.hi; omega)
      have w2 : (W).tmod p = W % p := Int.tmod_eq_emod_of_nonneg (hW.1)
      have hval := hide (show W * fst' A B 2 h % p = W % p by rw [hf.out]; rw [Int.mul_one])
      have n3 := hN4.c3
      go_upto_region 4 with fail
      have hbd := (Below.refl w4.heap.size w4).drew
      refine region_E (fun w' => w'.cell? ⟨w.heap.size, 0, none⟩ = some (.int .i64 p) ∧ w'.cell? ⟨q, 3, none⟩ = some (.int .i64 W)) 100 (by kernel_rfl) ⟨cell_be hbd g0', cell_be hbd n3⟩ ?_
      intro hS
      refine anyE_takeH 0 rfl (by kernel_rfl) (fun _ _ _ h => h) hS (by rfl) (v := ?_) ?_ ?_
      rotate_left
      · intro w' hSw; (try dsimp only at hSw); go_simp; (try with_reducible rfl)
      try simp only [Act.put, List.setIfInBounds_toArray, List.set_cons_zero, List.set_cons_succ]
      refine anyE_takeH 1 rfl (by kernel_rfl) (fun _ _ _ h => h) hS (by rfl) (v := ?_) ?_ ?_
      rotate_left
      · intro w' hSw; (try dsimp only at hSw); go_simp; (try with_reducible rfl)
      try simp only [Act.put, List.setIfInBounds_toArray, List.set_cons_zero, List.set_cons_succ]
      refine anyE_takeH 2 rfl (by kernel_rfl) (fun _ _ _ h => h) hS (by rfl) (v := ?_) ?_ ?_
      rotate_left
      · intro w' hSw; (try dsimp only at hSw); go_simp; (try with_reducible rfl)
      try simp only [Act.put, List.setIfInBounds_toArray, List.set_cons_zero, List.set_cons_succ]
      refine anyE_takeH 3 rfl (by kernel_rfl) (fun _ _ _ h => h) hS (by rfl) (v := ?_) ?_ ?_
      rotate_left
      · intro w' hSw; (try dsimp only at hSw); go_simp; (try with_reducible rfl)
      try simp only [Act.put, List.setIfInBounds_toArray, List.set_cons_zero, List.set_cons_succ]
      refine anyE_takeH 4 rfl (by kernel_rfl) (fun _ _ _ h => h) hS (by rfl) (v := ?_) ?_ ?_
      rotate_left
      · intro w' hSw; (try dsimp only at hSw); go_simp; (try with_reducible rfl)
      try simp only [Act.put, List.setIfInBounds_toArray, List.set_cons_zero, List.set_cons_succ]
      refine anyE_takeH 5 rfl (by kernel_rfl) (fun _ _ _ h => h) hS (by rfl) (v := ?_) ?_ ?_
      rotate_left
      · intro w' hSw; (try dsimp only at hSw); go_simp; (try with_reducible rfl)
      try simp only [Act.put, List.setIfInBounds_toArray, List.set_cons_zero, List.set_cons_succ]
      refine anyE_takeH 6 rfl (by kernel_rfl) (fun _ _ _ h => h) hS (by rfl) (v := ?_) ?_ ?_
      rotate_left
      · intro w' hSw; (try dsimp only at hSw); go_simp; (try with_reducible rfl)
      try simp only [Act.put, List.setIfInBounds_toArray, List.set_cons_zero, List.set_cons_succ]
      refine anyE_takeH 7 rfl (by kernel_rfl) (fun _ _ _ h => h) hS (by rfl) (v := ?_) ?_ ?_
      rotate_left
      · intro w' hSw; (try dsimp only at hSw); go_simp; (try with_reducible rfl)
      try simp only [Act.put, List.setIfInBounds_toArray, List.set_cons_zero, List.set_cons_succ]
      refine anyE_takeH 8 rfl (by kernel_rfl) (fun _ _ _ h => h) hS (by rfl) (v := ?_) ?_ ?_
      rotate_left
      · intro w' hSw; (try dsimp only at hSw); go_simp; (try with_reducible rfl)
      try simp only [Act.put, List.setIfInBounds_toArray, List.set_cons_zero, List.set_cons_succ]
      refine anyE_takeH 9 rfl (by kernel_rfl) (fun _ _ _ h => h) hS (by rfl) (v := ?_) ?_ ?_
      rotate_left
      · intro w' hSw; (try dsimp only at hSw); go_simp; (try with_reducible rfl)
      try simp only [Act.put, List.setIfInBounds_toArray, List.set_cons_zero, List.set_cons_succ]
      refine anyE_takeH 10 rfl (by kernel_rfl) (fun _ _ _ h => h) hS (by rfl) (v := ?_) ?_ ?_
      rotate_left
      · intro w' hSw; (try dsimp only at hSw); go_simp; (try with_reducible rfl)
      try simp only [Act.put, List.setIfInBounds_toArray, List.set_cons_zero, List.set_cons_succ]
      refine anyE_takeH 11 rfl (by kernel_rfl) (fun _ _ _ h => h) hS (by rfl) (v := ?_) ?_ ?_
      rotate_left
      · intro w' hSw; (try dsimp only at hSw); go_simp; (try with_reducible rfl)
      try simp only [Act.put, List.setIfInBounds_toArray, List.set_cons_zero, List.set_cons_succ]
      refine anyE_takeH 12 rfl (by kernel_rfl) (fun _ _ _ h => h) hS (by rfl) (v := ?_) ?_ ?_
      rotate_left
      · intro w' hSw; (try dsimp only at hSw); go_simp; (try with_reducible rfl)
      try simp only [Act.put, List.setIfInBounds_toArray, List.set_cons_zero, List.set_cons_succ]
      clear hS
      obtain ⟨wd, hwd⟩ : ∃ wd, wd = w4.drew := ⟨_, rfl⟩
      rw [← hwd] at hbd ⊢
      clear hwd
      have ba := bl1 wd (.cells #[.pointer (some ⟨q, 0, none⟩), .int .i64 2, .int .i64 ((h : Int) + 1), .int .i64 (W % p)] 56)
      have hm4 := bnext hbd ba
      have hNn := hide (show Node (wd.alloc (.cells #[.pointer (some ⟨q, 0, none⟩), .int .i64 2, .int .i64 ((h : Int) + 1), .int .i64 (W % p)] 56)) wd.heap.size (some ⟨q, 0, none⟩) 2 ((h : Int) + 1) (W % p) from ⟨by simp [go_sem], by simp [go_sem], by simp [go_sem], by simp [go_sem]⟩)
      have hzz : w.heap.size ≤ wd.heap.size := Nat.le_trans hB4.size hbd.size
      refine anyE_oneL 13 (by kernel_rfl) rfl (fun K' hK' => ?_)
      go_simp
      refine hK'.out _ _ ⟨cell_be hm4 g0', cell_be hm4 n3⟩ ?_
      clear hK' K'
      try simp only [Act.put, List.setIfInBounds_toArray, List.set_cons_zero, List.set_cons_succ]
      refine anyE_oneL 14 (by kernel_rfl) rfl (fun K' hK' => ?_)
      go_simp
      refine hK'.out _ _ ⟨cell_be hm4 g0', cell_be hm4 n3⟩ (anyE_doneL (by kernel_rfl) ?_)
      clear hK' K'
      try simp only [Act.put, List.setIfInBounds_toArray, List.set_cons_zero, List.set_cons_succ]
      have hB5 := bnext hB4 hm4
      clear g0 g1 g2 g0' n3 hN4 w2 w1
      go_wp2
      go_ret
      refine ⟨⟨fun hno => absurd (by rw [hd.out]; exact Hy.out) hno, fun _ => ⟨wd.heap.size, rfl, hzz, ?_⟩⟩, hB5⟩
      rw [hd.out, hval.out]
      exact hNn.out
    · have Hy := hide hyes
      clear hyes
      go_wp2_with fail
      refine (has_f p a n c b n d ((h : Int) + 1) _ (by omega) Hy.out).mono ?_
      rintro e w4 ⟨rfl, t4⟩
      have hB4 := bnext hB3 t4
      go_wp2
      go_ret
      exact ⟨⟨fun _ => rfl, fun hyes => absurd (by rw [← hd.out]; exact hyes) Hy.out⟩, hB4⟩
theorem decode_max (s : ByteArray) (pos : Nat) : (Utf8.decode s pos).1 ≤ 1114111 := by
  have hb : ∀ k, (s.get! (pos + k)).toNat < 256 := fun k => (s.get! (pos + k)).toNat_lt
  have h0 := hb 0; have h1 := hb 1; have h2 := hb 2; have h3 := hb 3
  simp only [Utf8.decode]
  repeat' split
  all_goals simp_all [Utf8.runeError, Utf8.valid]
  all_goals omega
theorem touch_iter (w : World) (K : Nat) (s : ByteArray) (pos : Nat) : Touch K (K + 1) w (w.iterAt K s pos) :=
  ⟨rfl, rfl, rfl, by rw [Lib.iterAt_size]; exact Nat.le_refl _, fun k hk hd => Lib.iterAt_other w K k s pos (by omega)⟩
theorem Node.touch {lo hi : Nat} {w w' : World} {q : Nat} {bf : Option Addr} {st H W : Int} (h : Node w q bf st H W) (t : Touch lo hi w w') (hd : q < lo ∨ hi ≤ q) : Node w' q bf st H W :=
  ⟨t.cell h.c0 hd, t.cell h.c1 hd, t.cell h.c2 hd, t.cell h.c3 hd⟩
/-- the nodes of the first k steps of a path -/
def Chain (lo : Nat) (w : World) (p : Int) (A B : List Int) (s : ByteArray) (i : Int) (Q : Nat → Nat) (k : Nat) : Prop :=
  ∀ j, j ≤ k → lo ≤ Q j ∧ Node w (Q j) (if j = 0 then none else some ⟨Q (j - 1), 0, none⟩) (if j = 0 then 0 else ixR (bt s (j - 1))) (hg s i j) (wg p A B s i j)
theorem Chain.below {lo : Nat} {w w' : World} {p : Int} {A B : List Int} {s : ByteArray} {i : Int} {Q : Nat → Nat} {k : Nat} (h : Chain lo w p A B s i Q k) (t : Below w.heap.size w w') : Chain lo w' p A B s i Q k :=
  fun j hj => ⟨(h j hj).1, (h j hj).2.below t⟩
theorem Chain.lt {lo : Nat} {w : World} {p : Int} {A B : List Int} {s : ByteArray} {i : Int} {Q : Nat → Nat} {k : Nat} (h : Chain lo w p A B s i Q k) (j : Nat) (hj : j ≤ k) : Q j < w.heap.size := World.block_lt_of_cell? _ _ (h j hj).2.c0
theorem Chain.push {lo : Nat} {w : World} {p : Int} {A B : List Int} {s : ByteArray} {i : Int} {Q : Nat → Nat} {k q : Nat} (h : Chain lo w p A B s i Q k) (hq : lo ≤ q) (hN : Node w q (some ⟨Q k, 0, none⟩) (ixR (bt s k)) (hg s i (k + 1)) (wg p A B s i (k + 1))) :
    Chain lo w p A B s i (fun j => if j = k + 1 then q else Q j) (k + 1) := by
  intro j hj
  by_cases e : j = k + 1
  · subst e
    have n1 : ¬ k + 1 = 0 := by omega
    have n2 : ¬ k = k + 1 := by omega
    simp only [if_true, if_neg n1, Nat.add_sub_cancel, if_neg n2]
    exact ⟨hq, hN⟩
  · have n3 : ¬ j - 1 = k + 1 := by omega
    simp only [if_neg e, if_neg n3]
    exact h j (by omega)
theorem wg_one {p : Int} (A B : List Int) (s : ByteArray) (i : Int) (k : Nat) (x : Nat) (h : Nat) (hh : hg s i k = h) (hx : ixR (bt s k) = x) (hx2 : x ≤ 2) : wg p A B s i (k + 1) = wg p A B s i k * fst' A B x h % p ∧ hg s i (k + 1) = h + dst x ∧ lvB (bt s k) = true := by
  have e : (bt s k = 68 ∧ x = 0) ∨ (bt s k = 76 ∧ x = 1) ∨ (bt s k = 85 ∧ x = 2) := by
    unfold ixR at hx
    split at hx
    · left; omega
    · split at hx
      · right; left; omega
      · split at hx
        · right; right; omega
        · omega
  rw [wg, hg, hh]
  rcases e with ⟨e, rfl⟩ | ⟨e, rfl⟩ | ⟨e, rfl⟩ <;> rw [e] <;> simp [fcW, fst', dl, dst, lvB]
theorem ixR_none {c : Int} (h : ixR c < 0) : lvB c = false := by
  unfold ixR at h
  split at h
  · omega
  · split at h
    · omega
    · split at h
      · omega
      · simp [lvB]; omega
theorem ixR_nat {c : Int} (h : ¬ ixR c < 0) : ∃ x : Nat, ixR c = x ∧ x ≤ 2 := by
  unfold ixR at h ⊢
  split
  · exact ⟨0, rfl, by omega⟩
  · split
    · exact ⟨1, rfl, by omega⟩
    · split
      · exact ⟨2, rfl, by omega⟩
      · rename_i a b c; simp [a, b, c] at h
theorem loS_false {s : ByteArray} {i m : Int} {k n : Nat} (hk : k < n) (h : ¬ hg s i k < m) : loS s i m n = false := by
  rw [Bool.eq_false_iff]
  intro e
  exact h (loS_at n e hk)
set_option maxRecDepth 100000 in
set_option maxHeartbeats 6400000 in
theorem read_g (p : Int) (a : Option Addr) (n c : Nat) (A : List Int) (b : Option Addr) (d : Nat) (B : List Int) (s : ByteArray) (i : Int) (w : World)
    (hA : SL w a n c A) (hB : SL w b n d B) (hn : n ≤ 1000) (hG : GW p A B) (hz : s.size ≤ 1048576) :
    Calls Try.prog 30 #[jac p a n c b n d, .string s, .int .i64 i] w fun e w' =>
      ((0 ≤ i ∧ pthB s i n = true) ∧ (∃ Q, e = .returned (.pointer (some ⟨Q s.size, 0, none⟩)) ∧ Chain w.heap.size w' p A B s i Q s.size) ∧ Below w.heap.size w w') ∨
      (¬ (0 ≤ i ∧ pthB s i n = true) ∧ e = .returned (.pointer none) ∧ Below w.heap.size w w') := by
  have HG := hide hG
  have hb0 := bl1 w (.cells #[.int .i64 p, .slice a n c, .slice b n d] 52)
  have f0 : (w.alloc (.cells #[.int .i64 p, .slice a n c, .slice b n d] 52)).cell? ⟨w.heap.size, 0, none⟩ = some (.int .i64 p) := by simp [go_sem]
  have f1 : (w.alloc (.cells #[.int .i64 p, .slice a n c, .slice b n d] 52)).cell? ⟨w.heap.size, 1, none⟩ = some (.slice a n c) := by simp [go_sem]
  have f2 : (w.alloc (.cells #[.int .i64 p, .slice a n c, .slice b n d] 52)).cell? ⟨w.heap.size, 2, none⟩ = some (.slice b n d) := by simp [go_sem]
  by_cases h24 : s.size ≤ 24
  rotate_left
  · have h24' : (24 : Int) < (s.size : Int) := by omega
    have HF := hide (show ¬ (0 ≤ i ∧ pthB s i n = true) from fun e => by
      have := e.2
      simp [pthB] at this
      omega)
    go_enter Try.func30, Try.ntmps30
    go_wp2
    go_ret
    exact .inr ⟨HF.out, rfl, hb0⟩
  have h24' : ¬ (24 : Int) < (s.size : Int) := by omega
  by_cases hin : 0 ≤ i ∧ i < (n : Int)
  rotate_left
  · have HF := hide (show ¬ (0 ≤ i ∧ pthB s i n = true) from fun e => hin ⟨e.1, by
      have := e.2
      unfold pthB at this
      rw [Bool.and_eq_true] at this
      exact loS_at (k := 0) _ this.2 (by omega)⟩)
    have Hin := hide hin
    clear hin
    go_enter Try.func30, Try.ntmps30
    go_wp2_with fail
    refine (has_f p a n c b n d i _ (by omega) Hin.out).mono ?_
    rintro e w1 ⟨rfl, t1⟩
    go_wp2
    go_ret
    exact .inr ⟨HF.out, rfl, bnext hb0 t1⟩
  obtain ⟨i0, i1⟩ := hin
  have D24 := hide (show decide (s.size ≤ 24) = true by simp [h24])
  go_enter Try.func30, Try.ntmps30
  go_wp2_with fail
  refine (has_t p a n c b n d i _ (by omega) i0 i1).mono ?_
  rintro e w1 ⟨rfl, t1⟩
  have B1 := bnext hb0 t1
  replace f0 := cell_be t1 f0
  replace f1 := cell_be t1 f1
  replace f2 := cell_be t1 f2
  have ba := bl1 w1 (.cells #[.pointer none, .int .i64 0, .int .i64 i, .int .i64 1] 56)
  have hN0 : Node (w1.alloc (.cells #[.pointer none, .int .i64 0, .int .i64 i, .int .i64 1] 56)) w1.heap.size none 0 i 1 := ⟨by simp [go_sem], by simp [go_sem], by simp [go_sem], by simp [go_sem]⟩
  have z1 : w.heap.size + 1 ≤ w1.heap.size := World.block_lt_of_cell? _ _ f0
  clear hb0 t1
  go_wp2
  obtain ⟨w2, hw2⟩ : ∃ w2, w2 = w1.alloc (.cells #[.pointer none, .int .i64 0, .int .i64 i, .int .i64 1] 56) := ⟨_, rfl⟩
  have zK : w1.heap.size + 1 = w2.heap.size := by rw [hw2]; simp
  rw [← hw2] at ba hN0
  have B2 := bnext B1 ba
  have bi := bl1 w2 (.stringIter s 0)
  have f0' := cell_be bi (cell_be ba f0)
  have f1' := cell_be bi (cell_be ba f1)
  have f2' := cell_be bi (cell_be ba f2)
  have hN1 := hN0.below bi
  have hit : (w2.iter s 0).heap[w2.heap.size]? = some (.stringIter s 0) := World.iter_heap w2 s 0
  have hB3 := hide (show Below w.heap.size w (w2.iter s 0) from bnext B2 bi)
  have hC0 := hide (show Chain w.heap.size (w2.iter s 0) p A B s i (fun _ => w1.heap.size) 0 from fun j hj => by
    obtain rfl : j = 0 := by omega
    exact ⟨show w.heap.size ≤ w1.heap.size by omega, hN1⟩)
  have hF0 := hide (And.intro (show (w2.iter s 0).cell? ⟨w.heap.size, 0, none⟩ = some (.int .i64 p) from f0') (And.intro (show (w2.iter s 0).cell? ⟨w.heap.size, 1, none⟩ = some (.slice a n c) from f1') (show (w2.iter s 0).cell? ⟨w.heap.size, 2, none⟩ = some (.slice b n d) from f2')))
  have hok0 := hide (show okS s i 0 = true from rfl)
  have hlo0 := hide (show loS s i n 1 = true by simp [loS, hg, i1])
  rw [← hw2, zK]
  obtain ⟨K, hK⟩ : ∃ K, w2.heap.size = K := ⟨_, rfl⟩
  rw [hK] at hit ⊢
  have hwK : w.heap.size < K := by omega
  have hqK : w1.heap.size ≠ K := by omega
  have hQ0 := hide (fun j (hj : j ≤ 0) => hqK)
  generalize (w2.iter s 0) = wx at *
  clear hw2 zK ba hN0 B2 bi f0' f1' f2' hN1 f0 f1 f2 B1 hK hqK z1
  go_loopw [7] (fun lv wr => ∃ (k : Nat) (Q : Nat → Nat), k ≤ s.size ∧ lv = .pointer (some ⟨Q k, 0, none⟩) ∧ Hid (wr.heap[K]? = some (.stringIter s k)) ∧ Hid (Chain w.heap.size wr p A B s i Q k) ∧ Hid (∀ j, j ≤ k → Q j ≠ K) ∧ Hid (okS s i k = true) ∧ Hid (loS s i n (k + 1) = true) ∧ Hid (wr.cell? ⟨w.heap.size, 0, none⟩ = some (.int .i64 p) ∧ wr.cell? ⟨w.heap.size, 1, none⟩ = some (.slice a n c) ∧ wr.cell? ⟨w.heap.size, 2, none⟩ = some (.slice b n d)) ∧ Hid (Below w.heap.size w wr)) (fun _ wr => s.size - wr.iterPos K)
  case atStart => exact ⟨0, fun _ => w1.heap.size, by omega, rfl, hide hit, hC0, hQ0, hok0, hlo0, hF0, hB3⟩
  case round =>
    obtain ⟨k, Q, hk, rfl, hI, hC, hQ, hok, hlo, hF, hW⟩ := hrel
    clear hit hC0 hQ0 hok0 hlo0 hF0 hB3
    by_cases hlt : k < s.size
    · have hnx : ∀ ty, (Instr.next (.pointer (some ⟨K, 0, none⟩)) true ty).run Try.prog wr = .ok (.tuple #[.bool true, .int .i64 k, .int .i32 (Utf8.decode s k).1]) (wr.iterAt K s (k + (Utf8.decode s k).2)) := fun ty => Lib.run_next_any_at wr K s k ty hI.out hlt
      have ht := touch_iter wr K s (k + (Utf8.decode s k).2)
      have hI2 := Lib.iterAt_heap wr K s k (k + (Utf8.decode s k).2) hI.out
      have hW2 := hide (Lib.below_iterAt hW.out (show w.heap.size ≤ K by omega) s (k + (Utf8.decode s k).2))
      have f0 := ht.cell hF.out.1 (.inl hwK)
      have f1 := ht.cell hF.out.2.1 (.inl hwK)
      have f2 := ht.cell hF.out.2.2 (.inl hwK)
      have hC2 := hide (show Chain w.heap.size (wr.iterAt K s (k + (Utf8.decode s k).2)) p A B s i Q k from fun j hj => ⟨(hC.out j hj).1, (hC.out j hj).2.touch ht (by have := hQ.out j hj; omega)⟩)
      have hmx := decode_max s k
      have hbt := bt_at hlt
      have Hix : Hid (ixR ((Utf8.decode s k).1 : Int) = ixR (bt s k) ∧ (¬ ixR (bt s k) < 0 → (Utf8.decode s k).2 = 1)) := hide (by
        by_cases h128 : (s[k]'hlt).toNat < 128
        · rw [decode_ascii s k hlt h128]
          exact ⟨by rw [← hbt], fun _ => rfl⟩
        · have := (decode_high s k hlt (by omega)).1
          have e1 := ixR_far (r := ((Utf8.decode s k).1 : Int)) (by omega)
          have e2 := ixR_far (r := bt s k) (by omega)
          rw [e1, e2]
          exact ⟨rfl, fun h => absurd (by decide) h⟩)
      obtain ⟨R, hR⟩ : ∃ R : Nat, (Utf8.decode s k).1 = R := ⟨_, rfl⟩
      obtain ⟨L, hL⟩ : ∃ L : Nat, (Utf8.decode s k).2 = L := ⟨_, rfl⟩
      rw [hR, hL] at hnx
      rw [hL] at hI2 hW2 f0 f1 f2 hC2
      rw [hR] at hmx
      rw [hR, hL] at Hix
      obtain ⟨wn, hwn⟩ : ∃ wn, wn = wr.iterAt K s (k + L) := ⟨_, rfl⟩
      rw [← hwn] at hI2 hW2 f0 f1 f2 hC2 hnx
      have HI2 := hide hI2
      clear hwn ht hR hL hI2 hC hF hW hbt
      go_wp2_with fail
      refine (indexRune_any (R : Int) _ (by omega) (by omega)).mono ?_
      rintro e w4 ⟨rfl, t4⟩
      rw [Hix.out.1]
      have HI4 := hide ((t4.block K (by have := (Array.getElem?_eq_some_iff.1 HI2.out).1; exact this)).trans HI2.out)
      replace f0 := cell_be t4 f0
      replace f1 := cell_be t4 f1
      replace f2 := cell_be t4 f2
      have hC4 := hide (hC2.out.below t4)
      have hW4 := hide (hW2.out.trans (t4.mono hW2.out.size))
      clear t4 hC2 hW2 HI2 hnx hmx
      by_cases hneg : ixR (bt s k) < 0
      · have HF := hide (show ¬ (0 ≤ i ∧ pthB s i n = true) from fun e => by
          have h1 := okS_false (s := s) (i := i) hlt (by rw [ixR_none hneg]; rfl)
          have := e.2
          simp [pthB, h1] at this)
        obtain ⟨X, hX⟩ : ∃ X, ixR (bt s k) = X := ⟨_, rfl⟩
        rw [hX] at hneg ⊢
        clear hX
        go_wp2
        go_ret
        exact .inr ⟨HF.out, rfl, hW4.out⟩
      · obtain ⟨x, hx, hx2⟩ := ixR_nat hneg
        have hL1 := Hix.out.2 (by omega)
        have h0 := okS_lo i0 k hok.out
        have h1 := loS_at _ hlo.out (show k < k + 1 by omega)
        obtain ⟨h, hh⟩ : ∃ h : Nat, hg s i k = h := ⟨(hg s i k).toNat, by omega⟩
        have hwg := wg_one (p := p) A B s i k x h hh hx hx2
        rw [hh] at h1
        have hNk := hide (show Node w4 (Q k) (if k = 0 then none else some ⟨Q (k - 1), 0, none⟩) (if k = 0 then 0 else ixR (bt s (k - 1))) h (wg p A B s i k) by
          have := (hC4.out k (Nat.le_refl _)).2
          rwa [hh] at this)
        have rW := hide (wg_rng HG.out.lo A B s i k)
        have SA := hide (hA.below hW4.out)
        have SB := hide (hB.below hW4.out)
        rw [hx]
        have hxn : ¬ (x : Int) < 0 := by omega
        have HX := hide hx
        have HWG := hide hwg
        clear hneg hx hh hwg
        go_wp2_with fail
        refine (goOn_g p a n c A b d B (Q k) _ _ (wg p A B s i k) h x _ SA.out SB.out hn HG.out hNk.out (by omega) rW.out hx2).mono ?_
        rintro e w5 ⟨⟨hno, hyes⟩, t5⟩
        have hW5 := hide (hW4.out.trans (t5.mono hW4.out.size))
        by_cases hy : 0 ≤ (h : Int) + dst x ∧ (h : Int) + dst x < (n : Int)
        · obtain ⟨qn, rfl, hqn, hNn⟩ := hyes hy
          have hz4 := hW4.out.size
          have HI5 := hide ((t5.block K (by have := (Array.getElem?_eq_some_iff.1 HI4.out).1; exact this)).trans HI4.out)
          have hKlt : K < w4.heap.size := (Array.getElem?_eq_some_iff.1 HI4.out).1
          have hC5 := hide ((hC4.out.below t5).push (q := qn) (by omega) (by rw [HX.out, HWG.out.2.1, HWG.out.1]; exact hNn))
          have hQ5 := hide (show ∀ j, j ≤ k + 1 → (fun j => if j = k + 1 then qn else Q j) j ≠ K from fun j hj => by
            by_cases e : j = k + 1
            · simp only [e, if_true]; omega
            · simp only [if_neg e]; exact hQ.out j (by omega))
          have hok5 := hide (show okS s i (k + 1) = true by rw [okS, hok.out, HWG.out.2.2, HWG.out.2.1]; simp; exact hy.1)
          have hlo5 := hide (show loS s i n (k + 1 + 1) = true by rw [loS, hlo.out, HWG.out.2.1]; simp; exact hy.2)
          have hF5 := hide (And.intro (cell_be t5 f0) (And.intro (cell_be t5 f1) (cell_be t5 f2)))
          rw [hL1] at HI5
          clear hno hyes hNn t5 hy f0 f1 f2 hC4 hNk HI4 SA SB hxn
          go_wp2
          go_roundw
          case rel => exact ⟨k + 1, fun j => if j = k + 1 then qn else Q j, by omega, by simp, HI5, hC5, hQ5, hok5, hlo5, hF5, hW5⟩
          case measure => simp [World.iterPos, HI5.out, hI.out]; omega
        · have HF := hide (show ¬ (0 ≤ i ∧ pthB s i n = true) from fun e => hy (by
            have q := e.2
            unfold pthB at q
            rw [Bool.and_eq_true, Bool.and_eq_true] at q
            have q1 := okS_pos i0 q.1.1 (show k + 1 ≤ s.size by omega)
            have q2 := loS_at (k := k + 1) _ q.2 (by omega)
            rw [HWG.out.2.1] at q1 q2
            exact ⟨q1, q2⟩))
          obtain rfl := hno hy
          clear hno hyes hy f0 f1 f2 hxn
          go_wp2
          go_ret
          exact .inr ⟨HF.out, rfl, hW5.out⟩
    · have hk2 : k = s.size := by omega
      subst hk2
      have hnx : ∀ ty, (Instr.next (.pointer (some ⟨K, 0, none⟩)) true ty).run Try.prog wr = .ok (.tuple #[.bool false]) wr := fun ty => Lib.run_next_end_at wr K s s.size ty hI.out hlt
      have HP := hide (show pthB s i n = true by unfold pthB; rw [hok.out, D24.out, hlo.out]; rfl)
      go_wp2
      go_ret
      exact .inl ⟨⟨i0, HP.out⟩, ⟨Q, rfl, hC.out⟩, hW.out⟩
set_option maxRecDepth 100000 in
set_option maxHeartbeats 3200000 in
theorem implWeightOfPath (p : Int) (a : Option Addr) (n c : Nat) (xs : List Int) (b : Option Addr) (m d : Nat) (ys : List Int) (s : ByteArray) (i : Int) (w : World) (hs : SL w a n c xs) (ht : SL w b m d ys) (hn : n ≤ 4000000) (hm : m ≤ 4000000) (hz : s.size ≤ 1048576) :
    Calls Try.prog 10 #[jac p a n c b m d, .string s, .int .i64 i] w fun e w' => e = .returned (.tuple #[.int .i64 (wptV p xs ys s i), .int .i64 (wptC p xs ys s i)]) ∧ Below w.heap.size w w' := by
  have hl := hide hs.len
  have hl2 := hide ht.len
  have hb0 := bl1 w (.cells #[.int .i64 p, .slice a n c, .slice b m d] 28)
  have g1 := hs.below hb0
  have g2 := ht.below hb0
  have e0 : (w.alloc (.cells #[.int .i64 p, .slice a n c, .slice b m d] 28)).cell? ⟨w.heap.size, 0, none⟩ = some (.int .i64 p) := by simp [go_sem]
  have e1 : (w.alloc (.cells #[.int .i64 p, .slice a n c, .slice b m d] 28)).cell? ⟨w.heap.size, 1, none⟩ = some (.slice a n c) := by simp [go_sem]
  have e2 : (w.alloc (.cells #[.int .i64 p, .slice a n c, .slice b m d] 28)).cell? ⟨w.heap.size, 2, none⟩ = some (.slice b m d) := by simp [go_sem]
  cases hJ : jacB p xs ys
  · have HL := hide (show l9C p xs ys 0 [i] = 1 by simp [l9C, jcd, hJ])
    have HC := hide (show wptC p xs ys s i = 1 by unfold wptC; rw [if_neg (by rw [HL.out]; decide), HL.out])
    have HV := hide (show wptV p xs ys s i = 0 by unfold wptV; rw [if_neg (by rw [HC.out]; decide)])
    have HJ := hide hJ
    clear hJ
    go_enter Try.func10, Try.ntmps10
    go_wp2_with fail
    refine (implIsJacobi p a n c xs b m d ys _ g1 g2 hn hm).mono ?_
    rintro e w1 ⟨rfl, t1⟩
    rw [HJ.out]
    go_wp2
    refine bodyPost_ret (v := .tuple #[.int .i64 0, .int .i64 1]) (by simp [results, Try.results10, go_sem]) rfl ?_
    exact ⟨by rw [HC.out, HV.out], bnext hb0 t1⟩
  obtain ⟨hpr, l1, l12, l2, hax, hay⟩ := jacB_rng hJ
  obtain ⟨hp, hp2⟩ := primeB_lo hpr
  obtain rfl : m = n := by rw [← hl2.out, ← hl.out]; omega
  rw [hl.out] at l1 l12
  have HJ := hide hJ
  have HGW := hide (jac_gw hJ)
  have HCC := hide (show wptC p xs ys s i = if (0 ≤ i ∧ pthB s i m = true) then 0 else 2 by
    have hj : jcd p xs ys 0 0 24 = 0 := by simp [jcd, hJ]
    unfold wptC l9C
    rw [if_pos hj, hl.out]
    by_cases h0 : 0 ≤ i ∧ i < (m : Int)
    · have e : hgtB ((m : Int) - 1) [i] = true := by simp [hgtB]; omega
      simp only [e, if_true, h0.1, true_and]
    · have e : hgtB ((m : Int) - 1) [i] = false := by
        rw [Bool.eq_false_iff]; intro q; simp [hgtB] at q; omega
      have e2 : ¬ (0 ≤ i ∧ pthB s i m = true) := fun q => h0 ⟨q.1, by
        have q2 := q.2
        unfold pthB at q2
        rw [Bool.and_eq_true] at q2
        exact loS_at (k := 0) _ q2.2 (by omega)⟩
      rw [if_neg e2]
      simp [e])
  clear hJ hpr hax hay l2
  go_enter Try.func10, Try.ntmps10
  go_wp2_with fail
  refine (implIsJacobi p a m c xs b m d ys _ g1 g2 hm hm).mono ?_
  rintro e w1 ⟨rfl, t1⟩
  rw [HJ.out]
  have B1 := bnext hb0 t1
  replace e0 := cell_be t1 e0
  replace e1 := cell_be t1 e1
  replace e2 := cell_be t1 e2
  clear hb0 t1 g1 g2
  go_wp2_with fail
  refine (groundOf_any p a m c b m d _).mono ?_
  rintro e w2 ⟨rfl, t2⟩
  have B2 := bnext B1 t2
  have S1 := hide (hs.below B2)
  have S2 := hide (ht.below B2)
  clear t2 e0 e1 e2 B1
  go_wp2_with fail
  refine (read_g p a m c xs b d ys s i _ S1.out S2.out (by omega) HGW.out hz).mono ?_
  rintro e w3 h3
  rcases h3 with ⟨hyes, ⟨Q, rfl, hC⟩, t3⟩ | ⟨hno, rfl, t3⟩
  · have HC := hide (show wptC p xs ys s i = 0 by rw [HCC.out, if_pos hyes])
    have HV := hide (show wptV p xs ys s i = wg p xs ys s i s.size by unfold wptV; rw [if_pos HC.out])
    have B3 := bnext B2 t3
    have c3 := (hC s.size (Nat.le_refl _)).2.c3
    obtain ⟨W, hW⟩ : ∃ W, wg p xs ys s i s.size = W := ⟨_, rfl⟩
    rw [hW] at c3 HV
    clear hyes hC hW
    go_wp2
    refine bodyPost_ret (v := .tuple #[.int .i64 W, .int .i64 0]) (by simp [results, Try.results10, go_sem]) rfl ?_
    exact ⟨by rw [HC.out, HV.out], B3⟩
  · have HC := hide (show wptC p xs ys s i = 2 by rw [HCC.out, if_neg hno])
    have HV := hide (show wptV p xs ys s i = 0 by unfold wptV; rw [if_neg (by rw [HC.out]; decide)])
    have B3 := bnext B2 t3
    clear hno
    go_wp2
    refine bodyPost_ret (v := .tuple #[.int .i64 0, .int .i64 2]) (by simp [results, Try.results10, go_sem]) rfl ?_
    exact ⟨by rw [HC.out, HV.out], B3⟩
end Go.Proofs.Ythahcnmfaghohaa
