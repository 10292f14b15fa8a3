/- Degrees: counts of neighbours, of digits, of edges. -/
import Derived.Test.YtikcmgmgdbbcfaaPaint
namespace Go.Proofs.Ytikcmgmgdbbcfaa
set_option linter.unusedVariables false
set_option linter.unusedSimpArgs false
open Go Go.RowKit Go.Shelf
def cnt (p : Nat → Bool) : Nat → Nat
  | 0 => 0
  | k + 1 => cnt p k + (if p k = true then 1 else 0)
theorem cnt_le (p : Nat → Bool) : ∀ k, cnt p k ≤ k
  | 0 => Nat.le_refl _
  | k + 1 => by have := cnt_le p k; unfold cnt; split <;> omega
theorem cnt_congr {p q : Nat → Bool} : ∀ (k : Nat), (∀ j, j < k → p j = q j) → cnt p k = cnt q k
  | 0, _ => rfl
  | k + 1, h => by unfold cnt; rw [h k (by omega), cnt_congr k (fun j hj => h j (by omega))]
/-- The number of ones in base 2. -/
def ones (x : Nat) : Nat := if h : x = 0 then 0 else x % 2 + ones (x / 2)
termination_by x
decreasing_by omega
theorem ones_0 : ones 0 = 0 := by rw [ones]; rfl
theorem ones_eq (x : Nat) : ones x = x % 2 + ones (x / 2) := by
  by_cases h : x = 0
  · subst h; simp [ones_0]
  · conv => lhs; rw [ones]
    rw [dif_neg h]
theorem ones_le (x : Nat) : ones x ≤ x := by
  induction x using Nat.strongRecOn with
  | _ x ih =>
    rw [ones_eq]
    by_cases h : x = 0
    · subst h; simp [ones_0]
    · have := ih (x / 2) (by omega)
      omega
theorem ones_pow : ∀ (k a : Nat), a < 2 ^ k → ones (a + 2 ^ k) = ones a + 1
  | 0, a, h => by
    obtain rfl : a = 0 := by simpa using h
    rw [ones_eq]; simp [ones_0]
  | k + 1, a, h => by
    rw [Nat.pow_succ] at h ⊢
    have h1 : (a + 2 ^ k * 2) % 2 = a % 2 := by omega
    have h2 : (a + 2 ^ k * 2) / 2 = a / 2 + 2 ^ k := by omega
    rw [ones_eq (a + 2 ^ k * 2), h1, h2, ones_pow k (a / 2) (by omega), ones_eq a]
    omega
theorem ones_arK (p : Nat → Bool) : ∀ k, ones (arK p k) = cnt p k
  | 0 => ones_0
  | k + 1 => by
    unfold arK cnt
    by_cases h : p k = true
    · rw [if_pos h, if_pos h]
      have hlt := arK_lt p k
      have := Nat.two_pow_add_eq_or_of_lt hlt 1
      rw [Nat.mul_one, Nat.or_comm] at this
      rw [← this, Nat.add_comm, ones_pow k _ hlt, ones_arK p k]
    · rw [if_neg h, if_neg h, ones_arK p k, Nat.add_zero]
set_option maxRecDepth 100000 in
theorem ones65 (S : Nat) (w : World) (hS : S < 4611686018427387904) :
    Calls Try.prog 60 #[.int .i64 (S : Int)] w fun e w' => e = .returned (.int .i64 (ones S : Nat)) ∧ w = w' := by
  have hS1 := ones_le S
  go_enter Try.func60, Try.ntmps60
  go_wp2_with fail
  go_loop [0, 3] (fun x c => ∃ y d : Nat, y ≤ S ∧ d ≤ S ∧ d + ones y = ones S ∧ x = .int .i64 y ∧ c = .int .i64 d) (fun x _ => (intOf x).toNat)
  case atStart => exact ⟨S, 0, Nat.le_refl _, by omega, by omega, rfl, rfl⟩
  case round =>
    obtain ⟨y, d, hy, hd, he, rfl, rfl⟩ := hrel
    by_cases h : 0 < y
    · have e := ones_eq y
      have HE := hidd (And.intro he e)
      clear he e
      have hdy : d + y % 2 ≤ S := by have := HE.out; omega
      go_wp2_with fail
      go_round
      case rel => exact ⟨y / 2, d + y % 2, by omega, by omega, by have := HE.out; omega, by go_num, by go_num⟩
      case measure => simp [intOf]; omega
    · obtain rfl : y = 0 := by omega
      rw [ones_0] at he
      have HD := hidd (show d = ones S by omega)
      clear he
      go_wp2_with fail
      go_ret
      exact ⟨by rw [HD.out]; rfl, rfl⟩
/-- Does an edge of the colour c end at p? -/
def hit (bs : List Nat) (c : Int) (p : Nat) (t : Nat × Nat × Nat) : Bool := decide (((bs.getD t.1 0 : Nat) : Int) = c) && (decide (t.2.1 = p) || decide (t.2.2 = p))
def dgL (N : Nat) (f : Nat → Nat) : List Int := (List.range N).map fun p => ((f p : Nat) : Int)
theorem dgL_len (N : Nat) (f : Nat → Nat) : (dgL N f).length = N := by simp [dgL]
theorem dgL_get {N : Nat} {f : Nat → Nat} {p : Nat} (h : p < N) : (dgL N f).getD p 0 = (f p : Int) := by simp [dgL, List.getD, h]
theorem dgL_congr {N : Nat} {f g : Nat → Nat} (h : ∀ p, p < N → f p = g p) : dgL N f = dgL N g := by
  unfold dgL
  exact List.map_congr_left (fun p hp => by rw [h p (by simpa using hp)])
theorem dgL_set (N : Nat) (f : Nat → Nat) (i v : Nat) : (dgL N f).set i (v : Int) = dgL N (fun p => if p = i then v else f p) := by
  apply List.ext_getElem
  · simp [dgL]
  · intro p h1 h2
    simp only [dgL, List.getElem_set, List.getElem_map, List.getElem_range]
    by_cases e : i = p
    · subst e; simp
    · rw [if_neg e, if_neg (fun h => e h.symm)]
theorem dgL_snoc (N : Nat) (f : Nat → Nat) : dgL N f ++ [(f N : Int)] = dgL (N + 1) f := by simp [dgL, List.range_succ]
def eCnt (bs : List Nat) (c : Int) (l : List (Nat × Nat × Nat)) (p : Nat) : Nat := l.countP (hit bs c p)
theorem eCnt_snoc (bs : List Nat) (c : Int) (l : List (Nat × Nat × Nat)) (t : Nat × Nat × Nat) (p : Nat) : eCnt bs c (l ++ [t]) p = eCnt bs c l p + (if hit bs c p t = true then 1 else 0) := by
  simp only [eCnt, List.countP_append, List.countP_cons, List.countP_nil, Nat.zero_add]
theorem eCnt_le (bs : List Nat) (c : Int) (l : List (Nat × Nat × Nat)) (p : Nat) : eCnt bs c l p ≤ l.length := List.countP_le_length
theorem colAt_eN (bs : List Nat) {lo hi : Nat} (h : lo < hi) : colAt bs (lo : Int) (hi : Int) = ((bs.getD (eN hi + lo) 0 : Nat) : Int) := by
  unfold colAt eix
  rw [if_neg (by omega), ← eN_edg, ← Int.natCast_add, Int.toNat_natCast]
theorem colAt_eN' (bs : List Nat) {lo hi : Nat} (h : lo < hi) : colAt bs (hi : Int) (lo : Int) = ((bs.getD (eN hi + lo) 0 : Nat) : Int) := by
  rw [← colAt_eN bs h]; unfold colAt; rw [eix_comm (by omega)]
theorem eCnt_row (bs : List Nat) (c : Int) (h p : Nat) : ∀ l, l ≤ h → eCnt bs c (rowE h l) p = (if p < l then (if nbB bs p c h = true then 1 else 0) else 0) + (if p = h then cnt (nbB bs h c) l else 0)
  | 0, _ => by simp [rowE, eCnt, cnt]
  | l + 1, hl => by
    rw [rowE_succ, eCnt_snoc, eCnt_row bs c h p l (by omega)]
    have e1 := colAt_eN bs (lo := l) (hi := h) (by omega)
    have e2 := colAt_eN' bs (lo := l) (hi := h) (by omega)
    by_cases hp : p = h
    · subst hp
      rw [cnt]
      have : hit bs c p (eN p + l, l, p) = nbB bs (p : Int) c l := by
        unfold hit nbB
        rw [e2]
        have h1 : (l : Int) ≠ (p : Int) := by omega
        simp [h1]
      rw [this]
      simp [show ¬ p < l by omega, show ¬ p < l + 1 by omega]
    · by_cases hpl : p = l
      · subst hpl
        have : hit bs c p (eN h + p, p, h) = nbB bs (p : Int) c h := by
          unfold hit nbB
          rw [e1]
          have h1 : (h : Int) ≠ (p : Int) := by omega
          simp [h1]
        rw [this]
        simp [hp]
      · have : hit bs c p (eN h + l, l, h) = false := by
          unfold hit
          simp [show ¬ l = p from fun e => hpl e.symm, show ¬ h = p from fun e => hp e.symm]
        rw [this]
        simp only [hp, if_false, Nat.add_zero]
        by_cases hq : p < l
        · rw [if_pos hq, if_pos (show p < l + 1 by omega)]; simp
        · rw [if_neg hq, if_neg (show ¬ p < l + 1 by omega)]; simp
theorem eCnt_seq (bs : List Nat) (c : Int) (p : Nat) : ∀ h, eCnt bs c (eseq h) p = if p < h then cnt (nbB bs p c) h else 0
  | 0 => by simp [eseq, eCnt]
  | h + 1 => by
    have e : eCnt bs c (eseq (h + 1)) p = eCnt bs c (eseq h) p + eCnt bs c (rowE h h) p := by simp [eCnt, eseq, List.countP_append]
    rw [e, eCnt_seq bs c p h, eCnt_row bs c h p h (Nat.le_refl _)]
    by_cases hp : p = h
    · subst hp
      rw [cnt]
      have : nbB bs (p : Int) c p = false := by simp [nbB]
      simp [this]
    · by_cases hq : p < h
      · rw [cnt]; simp [hq, hp, show p < h + 1 by omega]
      · simp [hq, hp, show ¬ p < h + 1 by omega]
def dgCode (n k : Int) (bs : List Nat) (c : Int) : Int := given n k bs c []
def dgList (n k : Int) (bs : List Nat) (c : Int) : List Int := if given n k bs c [] = 0 then dgL n.toNat (fun p => cnt (nbB bs p c) n.toNat) else []
theorem dg_bad {n k : Int} {bs : List Nat} {c m : Int} (h : given n k bs c [] = m) (hm : m ≠ 0) : dgList n k bs c = [] ∧ dgCode n k bs c = m := by
  unfold dgList dgCode; rw [h]; exact ⟨if_neg hm, rfl⟩
theorem dg_good {n k : Int} {bs : List Nat} {c : Int} (h : given n k bs c [] = 0) : dgList n k bs c = dgL n.toNat (fun p => cnt (nbB bs p c) n.toNat) ∧ dgCode n k bs c = 0 := by
  unfold dgList dgCode; rw [h]; exact ⟨if_pos rfl, rfl⟩
theorem dgList_len {n k : Int} {bs : List Nat} {c : Int} : (dgList n k bs c).length ≤ 17 := by
  unfold dgList
  split
  · rename_i h
    cases hi : isCol n k bs with
    | false => rw [given_1 hi] at h; cases h
    | true => have := isCol_bd hi; rw [dgL_len]; omega
  · simp
end Go.Proofs.Ytikcmgmgdbbcfaa
