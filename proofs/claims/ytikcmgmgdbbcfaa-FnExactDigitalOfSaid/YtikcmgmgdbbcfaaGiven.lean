/- The code of a colouring, a colour and points. -/
import Derived.Test.YtikcmgmgdbbcfaaTests
import Derived.Test.YtikcmgmgdbbcfaaConv
namespace Go.Proofs.Ytikcmgmgdbbcfaa
open Go Go.RowKit
theorem size_c26 (n k : Int) {bs : List Nat} (hb : Bys bs) : (Try.prog.info? 25).map (·.size) = some (ccells n k bs).toArray.size := by rw [size26]; simp [ccells_len, hb.len]
theorem size_c24 (n k : Int) {bs : List Nat} (hb : Bys bs) : (Try.prog.info? 32).map (·.size) = some (ccells n k bs).toArray.size := by rw [size24]; simp [ccells_len, hb.len]
theorem isCol_bd {n k : Int} {bs : List Nat} (h : isCol n k bs = true) : 1 ≤ n ∧ n ≤ 17 ∧ 1 ≤ k ∧ k ≤ 4 := shape_bd (isCol_good h).1
def given (n k : Int) (bs : List Nat) (c : Int) (zs : List Int) : Int := if isCol n k bs then (if belowB c k && allB zs n then 0 else 2) else 1
theorem given_1 {n k : Int} {bs : List Nat} {c : Int} {zs : List Int} (h : isCol n k bs = false) : given n k bs c zs = 1 := by simp [given, h]
theorem given_2 {n k : Int} {bs : List Nat} {c : Int} {zs : List Int} (h : isCol n k bs = true) (h2 : (belowB c k && allB zs n) = false) : given n k bs c zs = 2 := by
  unfold given; rw [if_pos h, h2]; rfl
theorem given_0 {n k : Int} {bs : List Nat} {c : Int} {zs : List Int} (h : isCol n k bs = true) (h1 : belowB c k = true) (h2 : allB zs n = true) : given n k bs c zs = 0 := by simp [given, h, h1, h2]
end Go.Proofs.Ytikcmgmgdbbcfaa
