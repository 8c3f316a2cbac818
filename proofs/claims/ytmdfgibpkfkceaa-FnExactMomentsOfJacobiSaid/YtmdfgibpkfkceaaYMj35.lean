/- Merged texts. -/
import Derived.Test.YtmdfgibpkfkceaaYMj34
/- Mathematics of MomentsOfJacobi: rows times the matrix, and the matrix times columns. -/
namespace Go.Proofs.Ytmdfgibpkfkceaa
open Go.RowKit
set_option linter.unusedVariables false
set_option linter.unusedSimpArgs false

theorem sm_zeros (n : Nat) : sm n (fun _ => (0 : Int)) = 0 := by
  induction n with
  | zero => rfl
  | succ n ih => rw [sm, ih]; rfl
theorem sm_swap (T : Nat → Nat → Int) (m : Nat) : ∀ n, sm n (fun j => sm m (fun i => T i j)) = sm m (fun i => sm n (fun j => T i j)) := by
  intro n
  induction n with
  | zero => exact (sm_zeros m).symm
  | succ n ih =>
    rw [sm, ih, ← sm_add]
    rfl
/-- A row of the matrix times a column. -/
theorem sm_mat (xs ys : List Int) (v : Nat → Int) (n i : Nat) (hi : i < n) : sm n (fun j => matR xs ys i j * v j) = xs.getD i 0 * v i + ((if 0 < i then ys.getD i 0 * v (i - 1) else 0) + (if i + 1 < n then v (i + 1) else 0)) := by
  have e : ∀ j, matR xs ys i j * v j = (if j = i then xs.getD i 0 * v i else 0) + ((if 0 < i ∧ j = i - 1 then ys.getD i 0 * v (i - 1) else 0) + (if j = i + 1 then v (i + 1) else 0)) := fun j => by
    unfold matR
    by_cases h1 : j = i
    · subst h1
      have a1 : ¬ (0 < j ∧ j = j - 1) := by omega
      have a2 : ¬ j = j + 1 := by omega
      simp only [if_true, if_neg a1, if_neg a2, Int.add_zero]
    · by_cases h2 : j + 1 = i
      · have a1 : 0 < i ∧ j = i - 1 := by omega
        have a2 : ¬ j = i + 1 := by omega
        have a3 : v j = v (i - 1) := by rw [a1.2]
        simp only [if_neg h1, if_pos h2, if_pos a1, if_neg a2, Int.add_zero, Int.zero_add, a3]
      · have a1 : ¬ (0 < i ∧ j = i - 1) := by omega
        by_cases h3 : j = i + 1
        · have a3 : v j = v (i + 1) := by rw [h3]
          simp only [if_neg h1, if_neg h2, if_pos h3, if_neg a1, Int.zero_add, Int.one_mul, a3]
        · simp only [if_neg h1, if_neg h2, if_neg h3, if_neg a1, Int.zero_add, Int.zero_mul]
  rw [sm_congr (fun j _ => e j), sm_add, sm_add, sm_one _ i n (fun k hk => if_neg hk), sm_one _ (i + 1) n (fun k hk => if_neg hk), if_pos hi, if_pos rfl, if_pos rfl]
  congr 2
  by_cases h0 : 0 < i
  · rw [sm_one _ (i - 1) n (fun k hk => if_neg (fun h => hk h.2)), if_pos (by omega), if_pos ⟨h0, rfl⟩, if_pos h0]
  · rw [if_neg h0, sm_congr (g := fun _ => 0) (fun k _ => if_neg (fun h => h0 h.1)), sm_zeros]
theorem funF_mod (p : Int) (f : List Int) (R : Nat → List Int) (ys : List Int) (j : Nat) (hj : j < ys.length) : ∀ i, (funF p f R ys i).getD j 0 % p = (ys.getD j 0 + sm i (fun a => f.getD a 0 * (R a).getD j 0)) % p := by
  intro i
  induction i with
  | zero => simp [funF, sm]
  | succ i ih =>
    rw [funF]
    unfold addlM
    rw [funF_len, tab_at _ _ _ hj, Int.emod_emod, Int.add_emod, ih, ← Int.add_emod, sm]
    congr 1
    omega
/-- One number of the next column, as the model goes. -/
def nxt (p : Int) (xs ys : List Int) (n : Nat) (v : List Int) (s i : Nat) : Int :=
  let t1 := xs.getD i 0 * v.getD i 0 % p
  let t2 := if 2 ≤ s ∧ i + 1 < n then (t1 + v.getD (i + 1) 0) % p else t1
  if 3 ≤ s ∧ 0 < i then (t2 + ys.getD i 0 * v.getD (i - 1) 0) % p else t2
def vL (p : Int) (xs ys : List Int) (n : Nat) : Nat → List Int
  | 0 => tab n (fun j => if j = 0 then 1 else 0)
  | k + 1 => tab n (nxt p xs ys n (vL p xs ys n k) 3)
def rL (p : Int) (xs ys : List Int) (n : Nat) : Nat → List Int
  | 0 => tab n (fun j => if j = 0 then ys.getD 0 0 else 0)
  | k + 1 => funF p (rL p xs ys n k) (mxX xs ys) (tab n (fun _ => 0)) n
theorem vL_len (p : Int) (xs ys : List Int) (n k : Nat) : (vL p xs ys n k).length = n := by cases k <;> exact tab_len _ _
theorem rL_len (p : Int) (xs ys : List Int) (n k : Nat) : (rL p xs ys n k).length = n := by
  cases k with
  | zero => exact tab_len _ _
  | succ k => rw [rL, funF_len, tab_len]
theorem vL_next (p : Int) (xs ys : List Int) (n k i : Nat) (hi : i < n) : (vL p xs ys n (k + 1)).getD i 0 % p = sm n (fun j => matR xs ys i j * (vL p xs ys n k).getD j 0) % p := by
  rw [sm_mat xs ys _ n i hi, vL, tab_at _ _ _ hi]
  unfold nxt
  simp only [show (2 ≤ 3) = True by simp, show (3 ≤ 3) = True by simp, true_and]
  generalize (vL p xs ys n k) = v
  by_cases h1 : i + 1 < n <;> by_cases h2 : 0 < i
  · rw [if_pos h1, if_pos h2, if_pos h1, if_pos h2, Int.emod_emod]
    have e1 : (xs.getD i 0 * v.getD i 0 % p + v.getD (i + 1) 0) % p = (xs.getD i 0 * v.getD i 0 + v.getD (i + 1) 0) % p := by
      rw [Int.add_emod, Int.emod_emod, ← Int.add_emod]
    rw [e1, Int.add_emod, Int.emod_emod, ← Int.add_emod]
    congr 1
    omega
  · rw [if_pos h1, if_neg h2, if_pos h1, if_neg h2, Int.emod_emod, Int.add_emod, Int.emod_emod, ← Int.add_emod]
    congr 1
    omega
  · rw [if_neg h1, if_pos h2, if_neg h1, if_pos h2, Int.emod_emod, Int.add_emod, Int.emod_emod, ← Int.add_emod]
    congr 1
    omega
  · rw [if_neg h1, if_neg h2, if_neg h1, if_neg h2, Int.emod_emod]
    congr 1
    omega
theorem rL_next (p : Int) (xs ys : List Int) (n k j : Nat) (hn : xs.length = n) (hj : j < n) : (rL p xs ys n (k + 1)).getD j 0 % p = sm n (fun i => (rL p xs ys n k).getD i 0 * matR xs ys i j) % p := by
  rw [rL, funF_mod _ _ _ _ _ (by rw [tab_len]; exact hj), tab_at _ _ _ hj, Int.zero_add]
  apply sm_emod
  intro i _
  unfold mxX
  rw [hn, tab_at _ _ _ hj]
theorem rv_step (p : Int) (xs ys : List Int) (n k l : Nat) (hn : xs.length = n) :
    sm n (fun j => (rL p xs ys n (k + 1)).getD j 0 * (vL p xs ys n l).getD j 0) % p = sm n (fun i => (rL p xs ys n k).getD i 0 * (vL p xs ys n (l + 1)).getD i 0) % p := by
  have e1 : sm n (fun j => (rL p xs ys n (k + 1)).getD j 0 * (vL p xs ys n l).getD j 0) % p = sm n (fun j => sm n (fun i => (rL p xs ys n k).getD i 0 * matR xs ys i j * (vL p xs ys n l).getD j 0)) % p := by
    apply sm_emod
    intro j hj
    rw [Int.mul_emod, rL_next p xs ys n k j hn hj, ← Int.mul_emod]
    congr 1
    rw [Int.mul_comm, ← sm_mul]
    apply sm_congr
    intro i _
    rw [Int.mul_comm]
  have e2 : sm n (fun i => (rL p xs ys n k).getD i 0 * (vL p xs ys n (l + 1)).getD i 0) % p = sm n (fun i => sm n (fun j => (rL p xs ys n k).getD i 0 * matR xs ys i j * (vL p xs ys n l).getD j 0)) % p := by
    apply sm_emod
    intro i hi
    rw [Int.mul_emod, vL_next p xs ys n l i hi, ← Int.mul_emod]
    congr 1
    rw [← sm_mul]
    apply sm_congr
    intro j _
    rw [Int.mul_assoc]
  rw [e1, e2, sm_swap]
theorem rv_all (p : Int) (xs ys : List Int) (n : Nat) (hn : xs.length = n) : ∀ k l, sm n (fun j => (rL p xs ys n k).getD j 0 * (vL p xs ys n l).getD j 0) % p = sm n (fun j => (rL p xs ys n 0).getD j 0 * (vL p xs ys n (l + k)).getD j 0) % p := by
  intro k
  induction k with
  | zero => intro l; rfl
  | succ k ih => intro l; rw [rv_step p xs ys n k l hn, ih (l + 1), show l + 1 + k = l + (k + 1) by omega]
/-- The first numbers of the rows are Beta[0] times those of the columns. -/
theorem rv_first (p : Int) (xs ys : List Int) (n k : Nat) (hn : xs.length = n) (h0 : 0 < n) : (rL p xs ys n k).getD 0 0 % p = (vL p xs ys n k).getD 0 0 * ys.getD 0 0 % p := by
  have h := rv_all p xs ys n hn k 0
  rw [Nat.zero_add] at h
  have e1 : sm n (fun j => (rL p xs ys n k).getD j 0 * (vL p xs ys n 0).getD j 0) = (rL p xs ys n k).getD 0 0 := by
    rw [sm_congr (g := fun j => if j = 0 then (rL p xs ys n k).getD 0 0 else 0) (fun j hj => by
      rw [vL, tab_at _ _ _ hj]
      by_cases e : j = 0
      · subst e; simp
      · rw [if_neg e, if_neg e, Int.mul_zero]), sm_one _ 0 n (fun j hj => if_neg hj), if_pos h0, if_pos rfl]
  have e2 : sm n (fun j => (rL p xs ys n 0).getD j 0 * (vL p xs ys n k).getD j 0) = (vL p xs ys n k).getD 0 0 * ys.getD 0 0 := by
    rw [sm_congr (g := fun j => if j = 0 then (vL p xs ys n k).getD 0 0 * ys.getD 0 0 else 0) (fun j hj => by
      rw [rL, tab_at _ _ _ hj]
      by_cases e : j = 0
      · subst e; rw [if_pos rfl, if_pos rfl, Int.mul_comm]
      · rw [if_neg e, if_neg e, Int.zero_mul]), sm_one _ 0 n (fun j hj => if_neg hj), if_pos h0, if_pos rfl]
  rw [e1, e2] at h
  exact h
end Go.Proofs.Ytmdfgibpkfkceaa
/- Contracts: MomentsOfJacobi (program). -/
namespace Go.Proofs.Ytmdfgibpkfkceaa
open Go.RowKit
set_option linter.unusedVariables false
set_option linter.unusedSimpArgs false

def mjC (p : Int) (xs ys : List Int) (k : Int) : Int := jcd p xs ys k 1 (2 * xs.length)
def mjL (p : Int) (xs ys : List Int) (K : Nat) : List Int := tab K (fun j => (rL p xs ys xs.length j).getD 0 0)
def mjV (p : Int) (xs ys : List Int) (k : Int) : List Int := if mjC p xs ys k = 0 then mjL p xs ys k.toNat else []
def mjP (p : Int) (xs ys : List Int) (k : Int) : Int := if mjC p xs ys k = 0 then p else 0
/-- The list when the first i moments are laid. -/
def mjT (p : Int) (xs ys : List Int) (n i : Nat) : Nat → Int := fun j => if j < i then (rL p xs ys n j).getD 0 0 else 0
theorem mjT_set (p : Int) (xs ys : List Int) (n i K : Nat) : (tab K (mjT p xs ys n i)).set i ((rL p xs ys n i).getD 0 0) = tab K (mjT p xs ys n (i + 1)) := by
  rw [tab_set]
  apply tab_congr
  intro j _
  unfold mjT
  by_cases e : j = i
  · subst e; simp
  · rw [if_neg e]
    by_cases h : j < i
    · rw [if_pos h, if_pos (by omega)]
    · rw [if_neg h, if_neg (by omega)]
theorem rL_are {p : Int} (hp : 2 ≤ p) {xs ys : List Int} (hy : areB p ys = true) (n k : Nat) : areB p (rL p xs ys n k) = true := by
  have h0 := getD_rng hy hp 0
  induction k with
  | zero => exact tab_are' fun j _ => by split <;> omega
  | succ k ih =>
    rw [rL]
    have : ∀ i, areB p (funF p (rL p xs ys n k) (mxX xs ys) (tab n (fun _ => 0)) i) = true := fun i => by
      cases i with
      | zero => exact tab_are' fun j _ => by omega
      | succ i => rw [funF]; exact tab_are' fun j _ => modb hp
    exact this n
theorem mxX_are {p : Int} (hp : 2 ≤ p) {xs ys : List Int} (hx : areB p xs = true) (hy : areB p ys = true) (i : Nat) : areB p (mxX xs ys i) = true := tab_are' fun j _ => by
  have h1 := getD_rng hx hp i
  have h2 := getD_rng hy hp i
  unfold matR
  split
  · exact h1
  · split
    · exact h2
    · split <;> omega
set_option maxRecDepth 100000 in
set_option maxHeartbeats 6400000 in
theorem implMomentsOfJacobi (p : Int) (a : Option Addr) (n c : Nat) (xs : List Int) (b : Option Addr) (m d : Nat) (ys : List Int) (k : Int) (w : World) (hs : SL w a n c xs) (ht : SL w b m d ys) (hn : n ≤ 4000000) (hm : m ≤ 4000000) :
    Calls Try.prog 23 #[jac p a n c b m d, .int .i64 k] w (ResM w (mjP p xs ys k) (mjV p xs ys k) (mjC p xs ys k)) := by
  have hl := hide hs.len
  have hl2 := hide ht.len
  have hb0 := bl2 w (.cells #[.int .i64 p, .slice a n c, .slice b m d] 39) (.cells #[.int .i64 0, .slice none 0 0] 36)
  obtain ⟨w0, hw0⟩ : ∃ w0, w0 = (w.alloc (.cells #[.int .i64 p, .slice a n c, .slice b m d] 39)).alloc (.cells #[.int .i64 0, .slice none 0 0] 36) := ⟨_, rfl⟩
  rw [← hw0] at hb0
  have j0 : w0.cell? ⟨w.heap.size, 0, none⟩ = some (.int .i64 p) := by rw [hw0]; simp [go_sem]
  have j1 : w0.cell? ⟨w.heap.size, 1, none⟩ = some (.slice a n c) := by rw [hw0]; simp [go_sem]
  have j2 : w0.cell? ⟨w.heap.size, 2, none⟩ = some (.slice b m d) := by rw [hw0]; simp [go_sem]
  have r0 : w0.cell? ⟨w.heap.size + 1, 0, none⟩ = some (.int .i64 0) := by rw [hw0]; simp [go_sem]
  have r1 : w0.cell? ⟨w.heap.size + 1, 1, none⟩ = some (.slice none 0 0) := by rw [hw0]; simp [go_sem]
  have y0 : w0.frozen? ⟨w.heap.size + 1, 0, none⟩ = false := by rw [hw0]; simp [go_sem]
  have y1 : w0.frozen? ⟨w.heap.size + 1, 1, none⟩ = false := by rw [hw0]; simp [go_sem]
  have z0 : w0.heap.size = w.heap.size + 2 := by rw [hw0]; simp
  have Hw0 := hide hw0
  have g1 := hs.below hb0
  have g2 := ht.below hb0
  have v0 : IntKind.i64.wrap (2 * (n : Int)) = 2 * (n : Int) := IntWalk.i64_in _ (by omega)
  have hbd := (Below.refl w0.heap.size w0).drew
  have F0 : ∀ w', Below w0.heap.size w0 w' → w'.cell? ⟨w.heap.size, 0, none⟩ = some (.int .i64 p) ∧ w'.cell? ⟨w.heap.size, 1, none⟩ = some (.slice a n c) ∧ w'.cell? ⟨w.heap.size, 2, none⟩ = some (.slice b m d) := fun w' h => ⟨cell_be h j0, cell_be h j1, cell_be h j2⟩
  obtain ⟨C, hCd⟩ : ∃ C, mjC p xs ys k = C := ⟨_, rfl⟩
  have HCd := hide (show jcd p xs ys k 1 (2 * (n : Int)) = C by rw [← hCd]; unfold mjC; rw [hl.out])
  have HCD := hide hCd
  clear hw0
  go_enter Try.func23, Try.ntmps23
  go_upto_region 1 with fail
  rw [← Hw0.out]
  go_cut [6] (fun cv wx => cv = .int .i64 C ∧ Below w0.heap.size w0 wx)
  case first =>
    go_region_held3 (fun w' => w'.cell? ⟨w.heap.size, 0, none⟩ = some (.int .i64 p) ∧ w'.cell? ⟨w.heap.size, 1, none⟩ = some (.slice a n c) ∧ w'.cell? ⟨w.heap.size, 2, none⟩ = some (.slice b m d))
      (first | exact F0 _ hbd | exact F0 _ (by assumption))
      (first
      | (go_at_call 119; refine (sizeOf_any _ _ _ _ _ _ _ _ hn).mono ?_; rintro e w1 ⟨rfl, hb1⟩; have hm1 := bnext hbd hb1)
      | (go_at_call 118; refine (checkJacobi_any _ _ _ _ _ _ _ _ _ _ _ _ _ _ (g1.below hm1) (g2.below hm1) hn hm HCd.out).mono ?_; rintro e w2 ⟨rfl, hb2⟩; have hm2 := bnext hm1 hb2))
    all_goals
      go_wp2_with fail
      go_meet
      exact ⟨rfl, hm2⟩
  case rest =>
  obtain ⟨rfl, hbc⟩ := hcut
  replace j0 := cell_be hbc j0
  replace j1 := cell_be hbc j1
  replace j2 := cell_be hbc j2
  replace y0 := (hbc.frozen (World.block_lt_of_cell? _ _ r0)).trans y0
  replace y1 := (hbc.frozen (World.block_lt_of_cell? _ _ r1)).trans y1
  replace r0 := cell_be hbc r0
  replace r1 := cell_be hbc r1
  have hB := bnext hb0 hbc
  have zc := hbc.size
  replace g1 := hs.below hB
  replace g2 := ht.below hB
  clear F0 hbd v0 hCd
  have HCases := jcd_cases p xs ys k 1 (2 * (n : Int))
  rw [HCd.out] at HCases
  by_cases hC0 : C = 0
  rotate_left
  · have hq : ((C : Int) == 0) = false := by simpa using hC0
    have hP := hide (show mjP p xs ys k = 0 by unfold mjP; rw [HCD.out, if_neg hC0])
    have hV := hide (show mjV p xs ys k = [] by unfold mjV; rw [HCD.out, if_neg hC0])
    clear HCases hC0
    go_wp2
    refine bodyPost_ret (v := .tuple #[mom 0 none 0 0, .int .i64 C]) (by simp [results, Try.results23, go_sem, r0, r1]) rfl ?_
    exact ResM.nil hP.out hV.out HCD.out ((hB.setCell (by simp) _).setCell (by simp) _)
  subst hC0
  have hj : jacB p xs ys = true ∧ 1 ≤ k ∧ k ≤ 2 * (n : Int) := by
    rcases HCases with h | h | h
    · cases h
    · cases h
    · exact h.2
  obtain ⟨hj, k1, k2⟩ := hj
  obtain ⟨hpr, n1, n2, n3, hx, hy⟩ := jacB_rng hj
  obtain ⟨hp, hp2⟩ := primeB_lo hpr
  rw [hl.out] at n1 n2 n3
  rw [hl2.out] at n3
  subst n3
  obtain ⟨K, rfl⟩ : ∃ K : Nat, k = K := ⟨k.toNat, by omega⟩
  have hP := hide (show mjP p xs ys K = p by unfold mjP; rw [HCD.out, if_pos rfl])
  have hV := hide (show mjV p xs ys K = tab K (mjT p xs ys m K) by
    unfold mjV mjL
    rw [HCD.out, if_pos rfl, hl.out, Int.toNat_natCast]
    exact tab_congr fun j hj => (if_pos hj).symm)
  have HMN := hide (show mxN p xs ys = m by simp only [mxN, hj, if_true]; exact hl.out)
  have HMC := hide (show mxC p xs ys = 0 by simp [mxC, hj])
  have HXL := hide (fun i => show (mxX xs ys i).length = m by unfold mxX; rw [tab_len, hl.out])
  have HXA := hide (fun i => mxX_are hp hx (posB_are hy) i)
  have HRA := hide (fun i => rL_are (xs := xs) hp (posB_are hy) m i)
  have HRL := hide (fun i => rL_len p xs ys m i)
  obtain ⟨bb, ob, rfl, hbb, hcb⟩ := ht.at (by omega)
  have eb0 := cell_be hB (hcb 0 (by omega))
  rw [Nat.add_zero] at eb0
  obtain ⟨q, hq⟩ : ∃ q, ys.getD 0 0 = q := ⟨_, rfl⟩
  rw [hq] at eb0
  have HR0 := hide (show (tab m (fun _ => 0)).set 0 q = rL p xs ys m 0 by
    rw [tab_set, rL, hq])
  have HRS := hide (fun i => show rL p xs ys m (i + 1) = funF p (rL p xs ys m i) (mxX xs ys) (tab m (fun _ => 0)) m from rfl)
  have hmk1 := run_mk m (by omega)
  have hmk2 := run_mk K (by omega)
  have q0 : (0 : Int) < (m : Int) := by omega
  clear hj hpr hx hy hq hcb HCases
  go_wp2_with fail
  refine (implMatrixOf _ _ _ _ _ _ _ _ _ _ g1 g2 (by omega) (by omega)).mono ?_
  rintro e w3 ⟨aM, cM, rfl, hZ, _, hb3⟩
  rw [HMN.out, HMC.out] at *
  replace j0 := cell_be hb3 j0
  replace j2 := cell_be hb3 j2
  replace eb0 := cell_be hb3 eb0
  replace y0 := (hb3.frozen (World.block_lt_of_cell? _ _ r0)).trans y0
  replace y1 := (hb3.frozen (World.block_lt_of_cell? _ _ r1)).trans y1
  replace r0 := cell_be hb3 r0
  replace r1 := cell_be hb3 r1
  have hB3 := bnext hB hb3
  have z3 := hb3.size
  rcases hZ with hZ | ⟨g, A, Cc, rfl, hZ⟩
  · omega
  have HZ := hide hZ
  have hgl := World.block_lt_of_cell? _ _ (hZ.cell 0 (by omega))
  simp only at hgl
  clear hZ hbc hb3 g1 g2 hb0 j1
  obtain ⟨W4, hW4⟩ : ∃ W4, W4 = w3.alloc (.cells (zrow m) 2) := ⟨_, rfl⟩
  have hr4 : RowI W4 w3.heap.size (tab m (fun _ => 0)) := by rw [hW4]; exact zrow_row w3 m
  have hb4 : Below w3.heap.size w3 W4 := by rw [hW4]; exact bl1 _ _
  have z4 : W4.heap.size = w3.heap.size + 1 := by rw [hW4]; simp
  have c4 := hr4.cell 0 (by rw [tab_len]; omega)
  rw [tab_at _ _ _ (by omega)] at c4
  have f4 := hr4.free 0
  have e4 := cell_be hb4 eb0
  have d4 := cell_be hb4 j2
  have hr5 := hr4.set 0 q
  rw [HR0.out] at hr5
  have hb5 := hb4.setCell (p := ⟨w3.heap.size, 0, none⟩) (by simp) (.int .i64 q)
  obtain ⟨W5, hW5⟩ : ∃ W5, W5 = W4.setCell ⟨w3.heap.size, 0, none⟩ (.int .i64 q) := ⟨_, rfl⟩
  rw [← hW5] at hr5 hb5
  have z5 : W5.heap.size = w3.heap.size + 1 := by rw [hW5]; simp [z4]
  obtain ⟨W6, hW6⟩ : ∃ W6, W6 = W5.alloc (.cells (zrow K) 2) := ⟨_, rfl⟩
  have hr6 : Hid (RowI W6 W5.heap.size (tab K (mjT p xs ys m 0))) := hide (by
    rw [hW6]
    have := zrow_row W5 K
    rwa [show tab K (fun _ => 0) = tab K (mjT p xs ys m 0) from tab_congr fun j _ => by simp [mjT]] at this)
  have hb6 : Below w3.heap.size w3 W6 := by rw [hW6]; exact hb5.alloc (by omega) _
  have hO6 : Hid (Own w3.heap.size W6 (some ⟨w3.heap.size, 0, none⟩) m (rL p xs ys m 0)) := hide (by
    have t : RowI W6 w3.heap.size (rL p xs ys m 0) := by rw [hW6]; exact hr5.next (bl1 _ _)
    have := t.own' (Nat.le_refl _) (by rw [HRL.out 0]; unfold maxLen; omega)
    rwa [HRL.out 0] at this)
  have z6 : W6.heap.size = w3.heap.size + 2 := by rw [hW6]; simp [z5]
  have HW4 := hide hW4
  have HW5 := hide hW5
  have HW6 := hide hW6
  clear hW4 hW5 hW6 hr4 hr5 hb4 hb5
  go_upto_region 6 with fail
  rw [← HW4.out]
  go_upto_region 7 with fail
  rw [← HW5.out]
  clear HW4 c4 f4 e4 d4 eb0 j2
  go_upto_region 8 with fail
  rw [← HW6.out]
  clear HW5 HW6
  rw [z5] at hr6
  try rw [z5]
  go_wp2
  go_loopw [9, 40] (fun rv iv wr => ∃ (i : Nat) (a' : Option Addr) (c' : Nat), i ≤ K ∧ iv = .int .i64 i ∧ rv = .slice a' m c' ∧ Hid (Own w3.heap.size wr a' c' (rL p xs ys m i)) ∧ blk a' ≠ some (w3.heap.size + 1) ∧ Hid (RowI wr (w3.heap.size + 1) (tab K (mjT p xs ys m i))) ∧ Below w3.heap.size w3 wr) (fun _ iv _ => K - (intOf iv).toNat)
  case atStart => exact ⟨0, _, m, by omega, rfl, rfl, hO6, by simp [blk], hr6, hb6⟩
  case round =>
    obtain ⟨i, a', c', hi, rfl, rfl, hO, hne, hR, hBr⟩ := hrel
    clear hO6 hr6 hb6
    have zr := hR.out.lt
    by_cases hlt : i < K
    · have hlt' : (i : Int) < (K : Int) := by omega
      have q2 : (0 : Int) ≤ (i : Int) := by omega
      obtain ⟨G, rfl, hG1, hG2, hG3⟩ := hO.out.blkG (by rw [HRL.out]; omega)
      have ex := hO.out.cellG 0 (by rw [HRL.out]; omega)
      have cw := hR.out.cell i (by rw [tab_len]; exact hlt)
      have fw := hR.out.free i
      have hset := hR.out.set i ((rL p xs ys m i).getD 0 0)
      rw [mjT_set] at hset
      obtain ⟨x, hx⟩ : ∃ x, (rL p xs ys m i).getD 0 0 = x := ⟨_, rfl⟩
      obtain ⟨old, hold⟩ : ∃ old, (tab K (mjT p xs ys m i)).getD i 0 = old := ⟨_, rfl⟩
      rw [hold] at cw
      rw [hx] at ex hset
      obtain ⟨W7, hW7⟩ : ∃ W7, W7 = wr.setCell ⟨w3.heap.size + 1, i, none⟩ (.int .i64 x) := ⟨_, rfl⟩
      have hO7 : Hid (Own w3.heap.size W7 (some ⟨G, 0, none⟩) c' (rL p xs ys m i)) := hide (by rw [hW7]; exact hO.out.otherG hne _)
      have hb7 : Below w3.heap.size w3 W7 := by rw [hW7]; exact hBr.setCell (by simp) _
      rw [← hW7] at hset
      have HS := hide hset
      have z7 : W7.heap.size ≤ wr.heap.size := by rw [hW7]; simp
      have z7' : wr.heap.size ≤ W7.heap.size := by rw [hW7]; simp
      have HW7 := hide hW7
      have j07 := cell_be hb7 j0
      have hbd := (Below.refl W7.heap.size W7).drew
      have hmk : Below W7.heap.size W7 ((W7.alloc (.cells (zrow m) 2)).drew) := (bl1 _ _).drew
      have F7 : ∀ w', Below W7.heap.size W7 w' → w'.cell? ⟨w.heap.size, 0, none⟩ = some (.int .i64 p) := fun w' h => cell_be h j07
      have sR : SL W7 (some ⟨G, 0, none⟩) m c' (rL p xs ys m i) := by have t := hO7.out.sl; rwa [HRL.out] at t
      have SR := hide (sR.below hmk)
      have HZ7 := hide ((HZ.out.below hb7).below hmk)
      have oz : Own W7.heap.size ((W7.alloc (.cells (zrow m) 2)).drew) (some ⟨W7.heap.size, 0, none⟩) m (tab m (fun _ => 0)) := (mk_own W7 m (by omega)).below ((Below.refl _ _).drew)
      have OZ := hide oz
      have hzA : Hid (areB p (tab m (fun _ => (0 : Int))) = true) := hide (tab_are' fun j _ => by omega)
      clear hx hold hset hO hR hW7 sR oz
      go_upto_region 12 with fail
      rw [← HW7.out]
      clear HW7 cw fw ex
      go_region_held3 (fun w' => w'.cell? ⟨w.heap.size, 0, none⟩ = some (.int .i64 p))
        (first | exact F7 _ hbd | exact F7 _ hmk | exact F7 _ (by assumption))
        (first
        | (go_at_call 120; go_fit (functional_lists p (some ⟨G, 0, none⟩) m c' (rL p xs ys m i) g m cM A Cc (mxX xs ys) (some ⟨W7.heap.size, 0, none⟩) m m (tab m (fun _ => 0)) W7.heap.size ((W7.alloc (.cells (zrow m) 2)).drew) SR.out (fun j hj => by have t := HZ7.out.cell j hj; rwa [HXL.out] at t) (fun j hj => by have t := HZ7.out.row j hj; rwa [HXL.out] at t) (Nat.le_refl _) OZ.out (by simp) (tab_len _ _) (by omega) (by omega) hp hp2 (HRA.out i) (fun j _ => HXA.out j) hzA.out); rintro e w9 ⟨a9, c9, rfl, ho9, hb9⟩; have hm9 := bnext hmk hb9))
      all_goals
        have hne9 : blk a9 ≠ some (w3.heap.size + 1) := fun e => by have := own_blk_ge ho9 _ e; omega
        have hO9 : Hid (Own w3.heap.size w9 a9 c9 (rL p xs ys m (i + 1))) := hide (by rw [HRS.out]; exact ho9.mono (show w3.heap.size ≤ W7.heap.size by omega))
        have hR9 := hide (HS.out.next hm9)
        have hB9 := hb7.trans (hm9.mono (show w3.heap.size ≤ W7.heap.size by omega))
        clear ho9 HS hb9 hm9 hb7 hO7 F7 hbd hmk SR HZ7 OZ j07
        go_wp2
        go_roundw
        case rel => exact ⟨i + 1, a9, c9, by omega, by go_num, rfl, hO9, hne9, hR9, hB9⟩
        case measure => simp [intOf]; omega
    · obtain rfl : i = K := by omega
      have j09 := cell_be hBr j0
      have y09 := (hBr.frozen (World.block_lt_of_cell? _ _ r0)).trans y0
      have y19 := (hBr.frozen (World.block_lt_of_cell? _ _ r1)).trans y1
      have r09 := cell_be hBr r0
      have r19 := cell_be hBr r1
      have hBw := hB3.trans (hBr.mono hB3.size)
      have zw := hB3.size
      have hfin : Own w3.heap.size wr (some ⟨w3.heap.size + 1, 0, none⟩) i (tab i (mjT p xs ys m i)) := by
        have t := hR.out.own' (B := w3.heap.size) (by omega) (by rw [tab_len]; unfold maxLen; omega)
        rwa [tab_len] at t
      have Hfin := hide hfin
      clear hfin hR hO
      go_wp2
      refine bodyPost_ret (v := .tuple #[mom p (some ⟨w3.heap.size + 1, 0, none⟩) i i, .int .i64 0]) (by simp [results, Try.results23, go_sem, r09, r19]) rfl ?_
      exact ResM.own hP.out HCD.out (by rw [hV.out, tab_len]) (by rw [hV.out]; exact ((Hfin.out.setLow (by simp; omega) _).setLow (by simp; omega) _).mono zw) (by rw [hV.out, tab_len]; omega) ((hBw.setCell (by simp) _).setCell (by simp) _)
end Go.Proofs.Ytmdfgibpkfkceaa
