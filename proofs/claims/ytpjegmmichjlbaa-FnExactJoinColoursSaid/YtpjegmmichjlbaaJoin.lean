/- JoinColours: the rule and the program. -/
import Derived.Test.YtpjegmmichjlbaaTurned
namespace Go.Proofs.Ytpjegmmichjlbaa
set_option linter.unusedVariables false
set_option linter.unusedSimpArgs false
open Go Go.RowKit
def jq (c d x : Int) : Int := if x = d then c else if d < x then x - 1 else x
theorem jq_eq {c d x : Int} (h : x = d) : jq c d x = c := if_pos h
theorem jq_gt {c d x : Int} (h : d < x) : jq c d x = x - 1 := by unfold jq; rw [if_neg (by omega), if_pos h]
theorem jq_lt {c d x : Int} (h : x < d) : jq c d x = x := by unfold jq; rw [if_neg (by omega), if_neg (by omega)]
theorem jq_bd {c d x : Int} (hc : 0 ≤ c ∧ c < 256) (hd : 0 ≤ d) (hx : 0 ≤ x ∧ x < 256) : 0 ≤ jq c d x ∧ jq c d x < 256 := by
  unfold jq
  split
  · exact hc
  · split <;> omega
def jcCode (n k : Int) (bs : List Nat) (c d : Int) : Int := if isCol n k bs = true then (if setB [c, d] k = true then 0 else 2) else 1
def jcN (n k : Int) (bs : List Nat) (c d : Int) : Int := if jcCode n k bs c d = 0 then n else 0
def jcK (n k : Int) (bs : List Nat) (c d : Int) : Int := if jcCode n k bs c d = 0 then k - 1 else 0
def jcB (n k : Int) (bs : List Nat) (c d : Int) : List Nat := if jcCode n k bs c d = 0 then paintB n.toNat (fun lo hi => jq c d (colAt bs lo hi)) else zbl
def jcOut (n k : Int) (bs : List Nat) (c d : Int) : Value := .tuple #[.agg (ccells (jcN n k bs c d) (jcK n k bs c d) (jcB n k bs c d)).toArray, .int .i64 (jcCode n k bs c d)]
theorem jcOut_bad {n k : Int} {bs : List Nat} {c d m : Int} (h : jcCode n k bs c d = m) (hm : m ≠ 0) : jcOut n k bs c d = .tuple #[.agg (ccells 0 0 zbl).toArray, .int .i64 m] := by
  unfold jcOut jcN jcK jcB
  rw [h, if_neg hm, if_neg hm, if_neg hm]
theorem jcOut_good {n k : Int} {bs : List Nat} {c d : Int} (h : jcCode n k bs c d = 0) : jcOut n k bs c d = .tuple #[.agg (ccells n (k - 1) (paintB n.toNat (fun lo hi => jq c d (colAt bs lo hi)))).toArray, .int .i64 0] := by
  unfold jcOut jcN jcK jcB
  rw [h, if_pos rfl, if_pos rfl, if_pos rfl]
theorem jcCode_1 {n k : Int} {bs : List Nat} {c d : Int} (h : isCol n k bs = false) : jcCode n k bs c d = 1 := by simp [jcCode, h]
theorem jcCode_2 {n k : Int} {bs : List Nat} {c d : Int} (h : isCol n k bs = true) (h2 : setB [c, d] k = false) : jcCode n k bs c d = 2 := by simp [jcCode, h, h2]
theorem jcCode_0 {n k : Int} {bs : List Nat} {c d : Int} (h : isCol n k bs = true) (h2 : setB [c, d] k = true) : jcCode n k bs c d = 0 := by simp [jcCode, h, h2]
theorem set2 {c d k : Int} : setB [c, d] k = (decide (c < d) && belowB c k && belowB d k) := by
  unfold setB
  have h1 : ascB [c, d] = decide (c < d) := by
    by_cases h : c < d
    · rw [decide_eq_true h]
      exact ascB_yes (m := 1) (fun i hi1 hi2 => match i, hi1, hi2 with | 0, _, _ => h) (by simp)
    · rw [decide_eq_false h]
      exact ascB_no (i := 0) (by simp) h
  rw [h1]
  simp [allB, Bool.and_assoc]
theorem set2_bd {c d k : Int} (h : setB [c, d] k = true) : 0 ≤ c ∧ c < d ∧ d < k := by
  rw [set2, Bool.and_eq_true, Bool.and_eq_true] at h
  have h1 := of_decide_eq_true h.1.1
  have h2 := inB_bd h.1.2
  have h3 := inB_bd h.2
  omega
theorem jcB_bys {n k : Int} {bs : List Nat} (hb : Bys bs) (c d : Int) : Bys (jcB n k bs c d) := by
  unfold jcB
  split
  · rename_i h
    unfold jcCode at h
    split at h
    · rename_i hi
      split at h
      · rename_i hs
        have := set2_bd hs
        have := isCol_bd hi
        exact paintB_bys fun lo hi => jq_bd (by omega) (by omega) (colAt_bd hb _ _)
      · cases h
    · cases h
  · exact zbl_bys
set_option maxRecDepth 100000 in
set_option maxHeartbeats 1000000 in
theorem rule55 (n k : Int) (bs : List Nat) (hb : Bys bs) (b0 b1 b2 : Nat) (c d : Int) (W : World) (hC : Blk W b0 (ccells n k bs).toArray 29) (hD : Blk W b1 #[.int .i64 d] 2) (hc : Blk W b2 #[.int .i64 c] 2)
    (n2 : n ≤ 17) (lo hi : Nat) (h1 : lo < hi) (h3 : (hi : Int) < n) :
    Calls Try.prog 55 #[.int .i64 (lo : Int), .int .i64 (hi : Int), .pointer (some ⟨b0, 0, none⟩), .pointer (some ⟨b1, 0, none⟩), .pointer (some ⟨b2, 0, none⟩)] W fun e W' => e = .returned (.int .i64 (jq c d (colAt bs lo hi))) ∧ Below W.heap.size W W' := by
  have HS := hidd (size_c26 n k hb)
  have HC := hidd hC
  have HNE := hidd (show (lo : Int) ≠ (hi : Int) by omega)
  obtain ⟨x, hx⟩ : ∃ x, x = colAt bs (lo : Int) (hi : Int) := ⟨_, rfl⟩
  have hxb := colAt_bd hb (lo : Int) (hi : Int)
  rw [← hx] at hxb
  rw [← hx]
  have HX := hidd hx
  have HD := hidd hD
  have HCC := hidd hc
  clear hC hx hD hc
  go_enter Try.func55, Try.ntmps55
  go_wp2_with (refine wpList_load_row rfl 29 (.tmp 2) rfl b0 rfl 29 _ (0,0) _ HC.out Try.underlying29 rfl HS.out ?_)
  refine (at59 n k bs hb n lo hi _ n2 (by omega) (by omega) (by omega) (by omega) HNE.out).mono ?_
  rintro e w1 ⟨rfl, hb1⟩
  rw [← HX.out]
  have c1 := (HD.out.below hb1 HD.out.lt).cell (j := 0) (show _ = some (Value.int .i64 d) from rfl)
  have c2 := (HCC.out.below hb1 HCC.out.lt).cell (j := 0) (show _ = some (Value.int .i64 c) from rfl)
  by_cases he : x = d
  · have HJ := hidd (jq_eq (c := c) he)
    have hq : (x == d) = true := by simpa using he
    clear he
    go_wp2
    go_ret
    exact ⟨by rw [HJ.out]; rfl, hb1⟩
  · have hq : (x == d) = false := by rw [beq_eq_false_iff_ne]; exact he
    by_cases hg : d < x
    · have HJ := hidd (jq_gt (c := c) hg)
      go_wp2
      go_ret
      exact ⟨by rw [HJ.out]; rfl, hb1⟩
    · have HJ := hidd (jq_lt (c := c) (show x < d by omega))
      have hle : x ≤ d := by omega
      clear hg
      go_wp2
      go_ret
      exact ⟨by rw [HJ.out]; rfl, hb1⟩
end Go.Proofs.Ytpjegmmichjlbaa
