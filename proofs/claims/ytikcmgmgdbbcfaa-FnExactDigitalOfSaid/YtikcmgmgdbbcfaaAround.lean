/- The neighbours: the model's digits, the program's list. -/
import Derived.Test.YtikcmgmgdbbcfaaNbr
namespace Go.Proofs.Ytikcmgmgdbbcfaa
set_option linter.unusedVariables false
set_option linter.unusedSimpArgs false
open Go Go.RowKit
theorem or_bit (A j : Nat) (hA : A < 2 ^ 17) (hj : j < 17) : bits .or .i64 (A : Int) (wrap64 (2 ^ j)) = ((A ||| 2 ^ j : Nat) : Int) := by
  have h2 : 2 ^ j < 2 ^ 17 := Nat.pow_lt_pow_right (by omega) hj
  have e : (2 : Int) ^ j = ((2 ^ j : Nat) : Int) := by simp
  rw [e]
  generalize 2 ^ j = y at *
  rw [IntWalk.wrap64_in _ ⟨by omega, by omega⟩]
  exact i64_or_nat A y (by omega) (by omega)
def Rel63 (C : Array Value) (w : World) (wr : World) : Prop := Blk wr w.heap.size C 25 ∧ Below w.heap.size w wr
set_option maxRecDepth 100000 in
set_option maxHeartbeats 400000 in
theorem around63 (n k : Int) (bs : List Nat) (hb : Bys bs) (i c : Int) (w : World) (n1 : 1 ≤ n) (n2 : n ≤ 17) (i0 : 0 ≤ i) (i1 : i < n) :
    Calls Try.prog 61 #[.agg (ccells n k bs).toArray, .int .i64 i, .int .i64 c] w fun e w' => e = .returned (.int .i64 (arK (nbB bs i c) n.toNat : Nat)) ∧ Below w.heap.size w w' := by
  obtain ⟨N, rfl⟩ := Int.eq_ofNat_of_zero_le (show 0 ≤ n by omega)
  rw [Int.toNat_natCast]
  have HS := hidd (size_c26 (N : Int) k hb)
  have HC0 := hidd (show (ccells (N : Int) k bs).toArray[0]? = some (.int .i64 (N : Int)) from rfl)
  go_enter Try.func61, Try.ntmps61
  go_wp2_with fail
  go_loopw [7, 8] (fun s e wr => ∃ j : Nat, j ≤ N ∧ e = .int .i64 j ∧ s = .int .i64 (arK (nbB bs i c) j : Nat) ∧ Rel63 (ccells (N : Int) k bs).toArray w wr) (fun _ e _ => N - (intOf e).toNat)
  case atStart => exact ⟨0, by omega, rfl, rfl, Blk.new _ _ _ _ rfl, (Below.refl _ _).alloc (Nat.le_refl _) _⟩
  case round =>
    obtain ⟨j, hj, rfl, rfl, HR⟩ := hrel
    have hw0 := HR.1.cell HC0.out
    by_cases hlt : j < N
    · obtain ⟨A, hA⟩ : ∃ A, A = arK (nbB bs i c) j := ⟨_, rfl⟩
      have hAlt : A < 2 ^ 17 := Nat.lt_of_lt_of_le (by rw [hA]; exact arK_lt _ j) (Nat.pow_le_pow_right (by omega) (by omega))
      rw [← hA]
      have HK := hidd HR
      clear HR
      by_cases hij : (j : Int) = i
      · have hnb : nbB bs i c j = false := by simp [nbB, hij]
        have HH := hidd (show arK (nbB bs i c) (j + 1) = A by rw [arK, hnb, hA]; rfl)
        have hz : ((j : Int) != i) = false := by simpa using hij
        clear hij hA
        go_wp2_with fail
        go_roundw
        case rel => exact ⟨j + 1, by omega, by go_num, by rw [HH.out], HK.out⟩
        case measure => simp [intOf]; omega
      · have hz : ((j : Int) != i) = true := by rw [bne_iff_ne]; exact hij
        have HIJ := hidd (show i ≠ (j : Int) from fun e => hij e.symm)
        by_cases hc : colAt bs i j = c
        · have hnb : nbB bs i c j = true := by simp [nbB, hij, hc]
          have HH := hidd (show arK (nbB bs i c) (j + 1) = A ||| 2 ^ j by rw [arK, hnb, hA]; rfl)
          have hcc : (colAt bs i j == c) = true := by simpa using hc
          have HCC := hidd hcc
          have HOR := hidd (or_bit A j hAlt (by omega))
          clear hij hA hc hcc
          go_wp2_with (first
            | (refine wpList_load_if rfl 25 (.tmp 3) rfl w.heap.size rfl 25 _ _ HK.out.1 Try.underlying25 rfl HS.out ?_))
          refine (at57 (N : Int) k bs hb N i j _ n2 i0 i1 (by omega) (by omega) HIJ.out).mono ?_
          rintro e w1 ⟨rfl, hb1⟩
          have K2 := hidd (show Rel63 (ccells (N : Int) k bs).toArray w w1 from ⟨HK.out.1.below hb1 HK.out.1.lt, HK.out.2.trans (hb1.mono HK.out.2.size)⟩)
          have hcc := HCC.out
          clear hb1
          go_wp2_with fail
          go_roundw
          case rel => exact ⟨j + 1, by omega, by go_num, by rw [HOR.out, HH.out], K2.out⟩
          case measure => simp [intOf]; omega
        · have hnb : nbB bs i c j = false := by simp [nbB, hij, hc]
          have HH := hidd (show arK (nbB bs i c) (j + 1) = A by rw [arK, hnb, hA]; rfl)
          have hcc : (colAt bs i j == c) = false := by simpa using hc
          have HCC := hidd hcc
          clear hij hA hc hcc
          go_wp2_with (first
            | (refine wpList_load_if rfl 25 (.tmp 3) rfl w.heap.size rfl 25 _ _ HK.out.1 Try.underlying25 rfl HS.out ?_))
          refine (at57 (N : Int) k bs hb N i j _ n2 i0 i1 (by omega) (by omega) HIJ.out).mono ?_
          rintro e w1 ⟨rfl, hb1⟩
          have K2 := hidd (show Rel63 (ccells (N : Int) k bs).toArray w w1 from ⟨HK.out.1.below hb1 HK.out.1.lt, HK.out.2.trans (hb1.mono HK.out.2.size)⟩)
          have hcc := HCC.out
          clear hb1
          go_wp2_with fail
          go_roundw
          case rel => exact ⟨j + 1, by omega, by go_num, by rw [HH.out], K2.out⟩
          case measure => simp [intOf]; omega
    · have hje : j = N := by omega
      subst hje
      go_wp2_with fail
      go_ret
      exact ⟨rfl, HR.2⟩
/-- Behind an append: below the list's own blocks nothing has turned. -/
theorem grown_step {w1 w2 : World} {B : Nat} {e : TypeId} {size : Nat} {v : Value} {n : Nat} {xs : List Value} {o : Obj} (hown : w1.ownsRow B e size v n xs) (hg : (w1.alloc o).grownBy w2 v.ownBlock) (hB : B ≤ w1.heap.size) : Below B w1 w2 :=
  ((Below.refl B w1).alloc hB o).grown hg (by simp; omega) (fun g hgg => by
    rcases hown.2 with ⟨h1, _⟩ | ⟨g', cap', cur', h1, h2, _⟩
    · rw [h1] at hgg; cases hgg
    · rw [h1] at hgg; cases hgg; exact h2)
theorem own_base {w : World} {B B' : Nat} {e : TypeId} {size : Nat} {v : Value} {n : Nat} {xs : List Value} (h : w.ownsRow B e size v n xs) (hB : B' ≤ B) : w.ownsRow B' e size v n xs := by
  refine ⟨h.1, ?_⟩
  rcases h.2 with h2 | ⟨g, cap, cur, hv, hg, r⟩
  · exact .inl h2
  · exact .inr ⟨g, cap, cur, hv, by omega, r⟩
def RelN (p : Nat → Bool) (C : Array Value) (w : World) (j : Nat) (v : Value) (wr : World) : Prop := Blk wr w.heap.size C 25 ∧ wr.ownsRow (w.heap.size + 1) 2 1 v (nbK p j).length (icells (nbK p j)) ∧ Below w.heap.size w wr
theorem RelN.skip {p : Nat → Bool} {C : Array Value} {w wr w1 : World} {j : Nat} {v : Value} (h : RelN p C w j v wr) (hb : Below wr.heap.size wr w1) (hp : p j = false) : RelN p C w (j + 1) v w1 :=
  ⟨h.1.below hb h.1.lt, by rw [nbK, hp]; exact own_below h.2.1 hb (Nat.le_refl _), h.2.2.trans (hb.mono h.2.2.size)⟩
end Go.Proofs.Ytikcmgmgdbbcfaa
