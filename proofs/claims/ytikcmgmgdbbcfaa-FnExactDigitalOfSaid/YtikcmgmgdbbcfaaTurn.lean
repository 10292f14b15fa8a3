/- A colouring with its colours put through a list (the model). -/
import Derived.Test.YtikcmgmgdbbcfaaPartOn
import Derived.Test.YtikcmgmgdbbcfaaDeg
namespace Go.Proofs.Ytikcmgmgdbbcfaa
set_option linter.unusedVariables false
set_option linter.unusedSimpArgs false
open Go Go.RowKit
theorem eseq_bd {h : Nat} {t : Nat × Nat × Nat} (ht : t ∈ eseq h) : t.2.1 < t.2.2 ∧ t.2.2 < h := by
  induction h with
  | zero => simp [eseq] at ht
  | succ h ih =>
    rw [eseq, List.mem_append] at ht
    rcases ht with ht | ht
    · have := ih ht; omega
    · simp only [rowE, List.mem_map, List.mem_range] at ht
      obtain ⟨m, hm, rfl⟩ := ht
      exact ⟨hm, by show h < h + 1; omega⟩
theorem eseq_136 {N : Nat} (hN : N ≤ 17) {t : Nat × Nat × Nat} (ht : t ∈ eseq N) : eN t.2.2 + t.2.1 < 136 := by
  have h := eseq_bd ht
  have h1 := eN_mono (a := t.2.2 + 1) (b := N) (by omega)
  have h2 := eN_17 hN
  have : eN (t.2.2 + 1) = eN t.2.2 + t.2.2 := rfl
  omega
def turnL (f : Int → Int) (bs : List Nat) : List Int := (List.range 136).map fun e => f ((bs.getD e 0 : Nat) : Int)
theorem turnL_get {f : Int → Int} {bs : List Nat} {e : Nat} (h : e < 136) : (turnL f bs).getD e 0 = f ((bs.getD e 0 : Nat) : Int) := by
  simp [turnL, List.getD, h]
theorem turnL_len (f : Int → Int) (bs : List Nat) : (turnL f bs).length = 136 := by simp [turnL]
theorem paint_congr {N : Nat} {r s : Nat → Nat → Int} (h : ∀ lo hi, lo < hi → hi < N → r lo hi = s lo hi) : paintB N r = paintB N s := by
  unfold paintB
  exact foldl_congr _ _ fun t ht b => by have := eseq_bd ht; rw [h _ _ this.1 this.2]
theorem paint_turn {N : Nat} (hN : N ≤ 17) (f : Int → Int) (bs : List Nat) : paintB N (fun lo hi => f (colAt bs lo hi)) = putK zbl 0 (turnL f bs) (eN N) := by
  rw [← paint_list]
  unfold paintB
  exact foldl_congr _ _ fun t ht b => by
    have := eseq_bd ht
    show b.set t.1 (f (colAt bs t.2.1 t.2.2)).toNat = b.set t.1 ((turnL f bs).getD (eN t.2.2 + t.2.1) 0).toNat
    rw [turnL_get (eseq_136 hN ht), colAt_eN bs this.1]
theorem putK_len (bs : List Nat) (zs : List Int) : ∀ m, (putK bs 0 zs m).length = bs.length
  | 0 => rfl
  | m + 1 => by rw [putK, List.length_set, putK_len bs zs m]
theorem putK_get {bs : List Nat} {zs : List Int} {i : Nat} (hi : i < bs.length) : ∀ m, (putK bs 0 zs m).getD i 0 = if i < m then (zs.getD i 0).toNat else bs.getD i 0
  | 0 => by simp [putK]
  | m + 1 => by
    have ih := putK_get (bs := bs) (zs := zs) hi m
    have hl := putK_len bs zs m
    rw [putK]
    by_cases h : i = m
    · subst h
      simp only [List.getD, Nat.zero_add, if_pos (Nat.lt_succ_self i)]
      rw [List.getElem?_set_self (by omega)]
      rfl
    · simp only [List.getD, Nat.zero_add] at *
      rw [List.getElem?_set_ne (fun e => h e.symm), ih]
      by_cases h2 : i < m
      · rw [if_pos h2, if_pos (by omega)]
      · rw [if_neg h2, if_neg (by omega)]
theorem putK_same {a b : List Nat} {zs : List Int} (h : a.length = b.length) {m : Nat} (hab : ∀ i, m ≤ i → i < a.length → a.getD i 0 = b.getD i 0) : putK a 0 zs m = putK b 0 zs m := by
  apply List.ext_getElem (by rw [putK_len, putK_len, h])
  intro i h1 h2
  rw [putK_len] at h1 h2
  have e1 := putK_get (zs := zs) h1 m
  have e2 := putK_get (zs := zs) h2 m
  have l1 : i < (putK a 0 zs m).length := by rw [putK_len]; exact h1
  have l2 : i < (putK b 0 zs m).length := by rw [putK_len]; exact h2
  have : (putK a 0 zs m).getD i 0 = (putK b 0 zs m).getD i 0 := by
    rw [e1, e2]
    split
    · rfl
    · exact hab i (by omega) h1
  simpa [List.getD, l1, l2] using this
theorem col_hi {n k : Int} {bs : List Nat} (h : isCol n k bs = true) {i : Nat} (h1 : edg n ≤ (i : Int)) (h2 : i < 136) : bs.getD i 0 = 0 := by
  have := (isCol_good h).2 i h2
  unfold goodAt at this
  rw [if_neg (by omega)] at this
  simpa using this
theorem col_lo {n k : Int} {bs : List Nat} (h : isCol n k bs = true) {i : Nat} (h1 : (i : Int) < edg n) (h2 : i < 136) : ((bs.getD i 0 : Nat) : Int) < k := by
  have := (isCol_good h).2 i h2
  unfold goodAt at this
  rw [if_pos h1] at this
  simpa using this
theorem turn_put {N : Nat} {k : Int} {bs : List Nat} (hb : Bys bs) (hi : isCol (N : Int) k bs = true) (f : Int → Int) : putK bs 0 (turnL f bs) (eN N) = paintB N (fun lo hi => f (colAt bs lo hi)) := by
  have hN := (isCol_bd hi).2.1
  rw [paint_turn (by omega)]
  refine putK_same (by rw [hb.len, zbl_len]) fun i h1 h2 => ?_
  rw [hb.len] at h2
  rw [col_hi hi (by rw [← eN_edg]; omega) h2]
  show 0 = (List.replicate 136 0).getD i 0
  rw [List.getD, List.getElem?_replicate, if_pos h2]; rfl
end Go.Proofs.Ytikcmgmgdbbcfaa
