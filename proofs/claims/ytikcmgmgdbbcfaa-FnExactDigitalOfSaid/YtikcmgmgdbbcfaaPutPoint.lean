/- PutPoint: the program and its model. -/
import Derived.Test.YtikcmgmgdbbcfaaLists
import Derived.Test.YtikcmgmgdbbcfaaChangeEdge
import Derived.StillTailTactics
namespace Go.Proofs.Ytikcmgmgdbbcfaa
set_option linter.unusedVariables false
set_option linter.unusedSimpArgs false
open Go Go.RowKit
/-- The bytes with numbers put in from a place on. -/
def putK (bs : List Nat) (E : Nat) (zs : List Int) : Nat → List Nat
  | 0 => bs
  | k + 1 => (putK bs E zs k).set (E + k) (zs.getD k 0).toNat
theorem putK_bys {bs : List Nat} (hb : Bys bs) (E : Nat) {zs : List Int} (hz : ∀ j, j < zs.length → 0 ≤ zs.getD j 0 ∧ zs.getD j 0 < 256) : ∀ k, k ≤ zs.length → Bys (putK bs E zs k)
  | 0, _ => hb
  | k + 1, h => (putK_bys hb E hz k (by omega)).set _ _ (by have := hz k (by omega); omega)
theorem eix_last {i n : Int} (h0 : 0 ≤ i) (h : i < n) : eix i n = edg n + i := by unfold eix; rw [if_neg (by omega)]
theorem edg_last {n : Int} (h1 : 1 ≤ n) (h2 : n ≤ 16) : edg n + n ≤ 136 := by
  have := edg_step n
  have := (edg_bd (show 1 ≤ n + 1 by omega) (show n + 1 ≤ 17 by omega)).2
  omega
theorem below_at61 {B : Nat} {a w : World} (h : Below B a w) {b o : Nat} (hb : B ≤ b) (v : Value) : Below B a (w.setCell ⟨b, o, none⟩ v) := h.setCell hb v
def RelP (n k : Int) (bs : List Nat) (E : Nat) (zs : List Int) (a : Option Addr) (w : World) (j : Nat) (wr : World) : Prop :=
  Blk wr w.heap.size (ccells n k (putK bs E zs j)).toArray 25 ∧ Blk wr (w.heap.size + 1) (ccells 0 0 zbl).toArray 25 ∧ SlI wr a zs ∧ Below w.heap.size w wr
def codeP (n k : Int) (bs : List Nat) (zs : List Int) : Int := if isCol n k bs then (if (zs.length : Int) = n ∧ allB zs k = true then (if n = 17 then 3 else 0) else 2) else 1
def ppN (n k : Int) (bs : List Nat) (zs : List Int) : Int := if codeP n k bs zs = 0 then n + 1 else 0
def ppK (n k : Int) (bs : List Nat) (zs : List Int) : Int := if codeP n k bs zs = 0 then k else 0
def ppB (n k : Int) (bs : List Nat) (zs : List Int) : List Nat := if codeP n k bs zs = 0 then putK bs (edg n).toNat zs zs.length else zbl
/-- What PutPoint returns. -/
def outP (n k : Int) (bs : List Nat) (zs : List Int) : Value := .tuple #[.agg (ccells (ppN n k bs zs) (ppK n k bs zs) (ppB n k bs zs)).toArray, .int .i64 (codeP n k bs zs)]
theorem outP_bad {n k : Int} {bs : List Nat} {zs : List Int} {m : Int} (h : codeP n k bs zs = m) (hm : m ≠ 0) : outP n k bs zs = .tuple #[.agg (ccells 0 0 zbl).toArray, .int .i64 m] := by
  simp [outP, ppN, ppK, ppB, h, hm]
theorem outP_good {n k : Int} {bs : List Nat} {zs : List Int} (h : codeP n k bs zs = 0) : outP n k bs zs = .tuple #[.agg (ccells (n + 1) k (putK bs (edg n).toNat zs zs.length)).toArray, .int .i64 0] := by
  simp [outP, ppN, ppK, ppB, h]
theorem codeP_1 {n k : Int} {bs : List Nat} {zs : List Int} (h : isCol n k bs = false) : codeP n k bs zs = 1 := by simp [codeP, h]
theorem codeP_2 {n k : Int} {bs : List Nat} {zs : List Int} (h : isCol n k bs = true) (h2 : ¬ (zs.length : Int) = n ∨ allB zs k = false) : codeP n k bs zs = 2 := by
  unfold codeP; rw [if_pos h, if_neg]
  rintro ⟨h3, h4⟩
  rcases h2 with h2 | h2
  · exact h2 h3
  · rw [h4] at h2; cases h2
theorem codeP_3 {n k : Int} {bs : List Nat} {zs : List Int} (h : isCol n k bs = true) (h2 : (zs.length : Int) = n) (h3 : allB zs k = true) (h4 : n = 17) : codeP n k bs zs = 3 := by
  unfold codeP; rw [if_pos h, if_pos ⟨h2, h3⟩, if_pos h4]
theorem codeP_0 {n k : Int} {bs : List Nat} {zs : List Int} (h : isCol n k bs = true) (h2 : (zs.length : Int) = n) (h3 : allB zs k = true) (h4 : ¬ n = 17) : codeP n k bs zs = 0 := by
  unfold codeP; rw [if_pos h, if_pos ⟨h2, h3⟩, if_neg h4]
theorem ppB_bys {n k : Int} {bs : List Nat} (hb : Bys bs) (zs : List Int) : Bys (ppB n k bs zs) := by
  unfold ppB
  split
  · rename_i h
    unfold codeP at h
    split at h
    · rename_i hc
      split at h
      · rename_i h2
        have := isCol_bd hc
        exact putK_bys hb _ (fun j hj => by have := allB_get h2.2 hj; omega) _ (Nat.le_refl _)
      · omega
    · omega
  · exact zbl_bys
end Go.Proofs.Ytikcmgmgdbbcfaa
