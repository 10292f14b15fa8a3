/- The numbers of edges; the tests of numbers and lists; the colour of an edge. -/
import Derived.Test.YtikcmgmgdbbcfaaSl
import Derived.Test.YtikcmgmgdbbcfaaSpecIs
import Derived.Test.YtikcmgmgdbbcfaaImplIs
namespace Go.Proofs.Ytikcmgmgdbbcfaa
open Go Go.RowKit
/-- The number of the edge of two points. -/
def eix (i j : Int) : Int := if j < i then edg i + j else edg j + i
theorem edg_step (n : Int) : edg (n + 1) = edg n + n := by
  unfold edg
  have e : (n + 1) * (n + 1 - 1) = n * (n - 1) + n * 2 := by
    rw [show n + 1 - 1 = n by omega, show n * 2 = n * 1 + n * 1 by omega, Int.mul_sub, Int.add_mul]; omega
  rw [e, Int.add_mul_ediv_right _ _ (by omega)]
theorem edg_mono {a b : Int} (h0 : 0 ≤ a) (h : a ≤ b) : edg a ≤ edg b := by
  obtain ⟨d, rfl⟩ : ∃ d : Nat, b = a + d := ⟨(b - a).toNat, by omega⟩
  clear h
  induction d with
  | zero => simp
  | succ d ih =>
    have := edg_step (a + d)
    rw [show a + ((d + 1 : Nat) : Int) = a + d + 1 by omega, this]; omega
theorem edg_pos {a : Int} (h0 : 0 ≤ a) : 0 ≤ edg a := by
  have := edg_mono (show (0 : Int) ≤ 0 by omega) h0
  have e : edg 0 = 0 := by decide
  omega
theorem eix_bd {n i j : Int} (hn : n ≤ 17) (hi0 : 0 ≤ i) (hi : i < n) (hj0 : 0 ≤ j) (hj : j < n) (hij : i ≠ j) : 0 ≤ eix i j ∧ eix i j < edg n ∧ eix i j < 136 := by
  have h17 := (edg_bd (show 1 ≤ n by omega) hn).2
  unfold eix
  split
  · have h1 := edg_mono (show 0 ≤ i + 1 by omega) (show i + 1 ≤ n by omega)
    have h2 := edg_step i
    have h3 := edg_pos hi0
    omega
  · have h1 := edg_mono (show 0 ≤ j + 1 by omega) (show j + 1 ≤ n by omega)
    have h2 := edg_step j
    have h3 := edg_pos hj0
    omega
theorem eix_comm {i j : Int} (h : i ≠ j) : eix i j = eix j i := by
  unfold eix; split <;> split <;> omega
theorem mul16 {n : Int} (h1 : 0 ≤ n) (h2 : n ≤ 16) : 0 ≤ n * (n - 1) ∧ n * (n - 1) ≤ 240 := by
  by_cases h : n = 0
  · subst h; decide
  · exact ⟨Int.mul_nonneg h1 (by omega), Int.le_trans (Int.mul_le_mul h2 (show n - 1 ≤ 15 by omega) (by omega) (by omega)) (by omega)⟩
set_option maxRecDepth 100000 in
theorem edge79 (i j : Int) (w : World) (hi0 : 0 ≤ i) (hi : i ≤ 16) (hj0 : 0 ≤ j) (hj : j ≤ 16) :
    Calls Try.prog 84 #[.int .i64 i, .int .i64 j] w fun e w' => e = .returned (.int .i64 (eix i j)) ∧ w = w' := by
  obtain ⟨m1, m2⟩ := mul16 hi0 hi
  obtain ⟨m3, m4⟩ := mul16 hj0 hj
  by_cases h : j < i
  · have H := hidd (show eix i j = i * (i - 1) / 2 + j by unfold eix edg; rw [if_pos h])
    go_enter Try.func84, Try.ntmps84
    go_wp2
    go_ret
    exact ⟨by rw [H.out]; rfl, rfl⟩
  · have H := hidd (show eix i j = j * (j - 1) / 2 + i by unfold eix edg; rw [if_neg h])
    have h' : i ≤ j := by omega
    go_enter Try.func84, Try.ntmps84
    go_wp2
    go_ret
    exact ⟨by rw [H.out]; rfl, rfl⟩
set_option maxRecDepth 100000 in
theorem edge54 (i j : Int) (w : World) (hij : i ≠ j) (hi0 : 0 ≤ i) (hi : i ≤ 16) (hj0 : 0 ≤ j) (hj : j ≤ 16) :
    Calls Try.prog 96 #[.int .i64 i, .int .i64 j] w fun e w' => e = .returned (.int .i64 (eix i j)) ∧ w = w' := by
  obtain ⟨m1, m2⟩ := mul16 hi0 hi
  obtain ⟨m3, m4⟩ := mul16 hj0 hj
  by_cases h : j < i
  · have H := hidd (show eix i j = i * (i - 1) / 2 + j by unfold eix edg; rw [if_pos h])
    go_enter Try.func96, Try.ntmps96
    go_wp2
    go_ret
    exact ⟨by rw [H.out]; rfl, rfl⟩
  · have H := hidd (show eix i j = j * (j - 1) / 2 + i by unfold eix edg; rw [if_neg h])
    have h' : i < j := by omega
    clear h hij
    go_enter Try.func96, Try.ntmps96
    go_wp2
    go_ret
    exact ⟨by rw [H.out]; rfl, rfl⟩
/-- The colour at an edge. -/
def colAt (bs : List Nat) (i j : Int) : Int := ((bs.getD (eix i j).toNat 0 : Nat) : Int)
theorem colAt_bd {bs : List Nat} (hb : Bys bs) (i j : Int) : 0 ≤ colAt bs i j ∧ colAt bs i j < 256 := by
  have := hb.lt (eix i j).toNat
  unfold colAt; omega
set_option maxRecDepth 100000 in
theorem at57 (n k : Int) (bs : List Nat) (hb : Bys bs) (m i j : Int) (w : World) (hm : m ≤ 17) (hi0 : 0 ≤ i) (hi : i < m) (hj0 : 0 ≤ j) (hj : j < m) (hij : i ≠ j) :
    Calls Try.prog 69 #[.agg (ccells n k bs).toArray, .int .i64 i, .int .i64 j] w fun e w' => e = .returned (.int .i64 (colAt bs i j)) ∧ Below w.heap.size w w' := by
  obtain ⟨h1, h2, h3⟩ := eix_bd hm hi0 hi hj0 hj hij
  obtain ⟨E, hE⟩ := Int.eq_ofNat_of_zero_le h1
  have hE1 : E < 136 := by omega
  obtain ⟨x, hx⟩ : ∃ x, x = bs.getD E 0 := ⟨_, rfl⟩
  have hc : (w.alloc (.cells (ccells n k bs).toArray 25)).cell? ⟨w.heap.size, 2 + E, none⟩ = some (.int .u8 (x : Int)) := (Blk.new _ _ _ _ rfl).cell (by rw [hx]; exact hb.cget n k hE1)
  have hr : colAt bs i j = (x : Int) := by unfold colAt; rw [hE, Int.toNat_natCast, hx]
  have hx2 : x < 256 := by rw [hx]; exact hb.lt E
  have HE := hidd hE
  have HR := hidd hr
  have hi' : i ≤ 16 := by omega
  have hj' : j ≤ 16 := by omega
  clear hE hx hr h1 h2 h3 hij
  go_enter Try.func69, Try.ntmps69
  go_wp2_with (go_at_call 84; refine (edge79 _ _ _ hi0 hi' hj0 hj').mono ?_; rintro e w' ⟨rfl, rfl⟩; rw [HE.out])
  go_ret
  exact ⟨by rw [HR.out]; rfl, (Below.refl _ _).alloc (Nat.le_refl _) _⟩
set_option maxRecDepth 100000 in
theorem at59 (n k : Int) (bs : List Nat) (hb : Bys bs) (m i j : Int) (w : World) (hm : m ≤ 17) (hi0 : 0 ≤ i) (hi : i < m) (hj0 : 0 ≤ j) (hj : j < m) (hij : i ≠ j) :
    Calls Try.prog 76 #[.agg (ccells n k bs).toArray, .int .i64 i, .int .i64 j] w fun e w' => e = .returned (.int .i64 (colAt bs i j)) ∧ Below w.heap.size w w' := by
  obtain ⟨h1, h2, h3⟩ := eix_bd hm hi0 hi hj0 hj hij
  obtain ⟨E, hE⟩ := Int.eq_ofNat_of_zero_le h1
  have hE1 : E < 136 := by omega
  obtain ⟨x, hx⟩ : ∃ x, x = bs.getD E 0 := ⟨_, rfl⟩
  have hc : (w.alloc (.cells (ccells n k bs).toArray 25)).cell? ⟨w.heap.size, 2 + E, none⟩ = some (.int .u8 (x : Int)) := (Blk.new _ _ _ _ rfl).cell (by rw [hx]; exact hb.cget n k hE1)
  have hr : colAt bs i j = (x : Int) := by unfold colAt; rw [hE, Int.toNat_natCast, hx]
  have hx2 : x < 256 := by rw [hx]; exact hb.lt E
  have HE := hidd hE
  have HR := hidd hr
  have hi' : i ≤ 16 := by omega
  have hj' : j ≤ 16 := by omega
  have HJ := hidd hij
  clear hE hx hr h1 h2 h3 hij
  go_enter Try.func76, Try.ntmps76
  go_wp2_with (go_at_call 96; refine (edge54 _ _ _ HJ.out hi0 hi' hj0 hj').mono ?_; rintro e w' ⟨rfl, rfl⟩; rw [HE.out])
  go_ret
  exact ⟨by rw [HR.out]; rfl, (Below.refl _ _).alloc (Nat.le_refl _) _⟩
end Go.Proofs.Ytikcmgmgdbbcfaa
