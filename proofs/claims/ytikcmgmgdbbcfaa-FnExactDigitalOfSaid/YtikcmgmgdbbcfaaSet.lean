/- Sets of points: the program's test and its model's. -/
import Derived.Test.YtikcmgmgdbbcfaaColouringIm
namespace Go.Proofs.Ytikcmgmgdbbcfaa
set_option linter.unusedVariables false
set_option linter.unusedSimpArgs false
open Go Go.RowKit Go.Shelf
/-- A list of numbers goes up as far as a place. -/
def Asc (zs : List Int) (m : Nat) : Prop := ∀ i, i < m → i + 1 < zs.length → zs.getD i 0 < zs.getD (i + 1) 0
def ascB (zs : List Int) : Bool := decide (∀ i, i < zs.length → i + 1 < zs.length → zs.getD i 0 < zs.getD (i + 1) 0)
theorem ascB_yes {zs : List Int} {m : Nat} (h : Asc zs m) (hm : zs.length ≤ m + 1) : ascB zs = true := by
  unfold ascB
  rw [decide_eq_true_iff]
  intro i _ hi
  exact h i (by omega) hi
theorem ascB_no {zs : List Int} {i : Nat} (hi : i + 1 < zs.length) (h : ¬ zs.getD i 0 < zs.getD (i + 1) 0) : ascB zs = false := by
  unfold ascB
  rw [decide_eq_false_iff_not]
  intro hc
  exact h (hc i (by omega) hi)
def RelS (zs : List Int) (a : Option Addr) (w : World) (wr : World) : Prop := SlI wr a zs ∧ Below w.heap.size w wr
def setB (zs : List Int) (n : Int) : Bool := ascB zs && allB zs n
set_option maxRecDepth 100000 in
set_option maxHeartbeats 1000000 in
theorem set69 (zs : List Int) (a : Option Addr) (cap : Nat) (n : Int) (w : World) (hs : SlI w a zs) (hl : zs.length ≤ 9223372036854775807) :
    Calls Try.prog 106 #[.slice a zs.length cap, .int .i64 n] w fun e w' => e = .returned (.bool (setB zs n)) ∧ Below w.heap.size w w' := by
  go_enter Try.func106, Try.ntmps106
  go_wp2_with fail
  go_loopw [5] (fun i wr => ∃ j : Nat, (j + 1 ≤ zs.length ∨ j = 0) ∧ i = .int .i64 (j + 1 : Nat) ∧ Asc zs j ∧ RelS zs a w wr) (fun i _ => zs.length - (intOf i).toNat)
  case atStart => exact ⟨0, .inr rfl, rfl, fun _ h => absurd h (by omega), hs, Below.refl _ _⟩
  case round =>
    obtain ⟨j, hj, rfl, hasc, HR⟩ := hrel
    by_cases hlt : j + 1 < zs.length
    · rcases HR.1 with hz | ⟨x, o, ha, hc⟩
      · subst hz; simp at hlt
      · subst ha
        have hck := hc (j + 1) hlt
        have hdk := hc j (by omega)
        by_cases hup : zs.getD j 0 < zs.getD (j + 1) 0
        · have hge : decide (zs.getD j 0 ≥ zs.getD (j + 1) 0) = false := by rw [decide_eq_false_iff_not]; omega
          obtain ⟨y, hy⟩ : ∃ y, y = zs.getD j 0 := ⟨_, rfl⟩
          obtain ⟨z, hz⟩ : ∃ z, z = zs.getD (j + 1) 0 := ⟨_, rfl⟩
          rw [← hz] at hck hge
          rw [← hy] at hdk hge
          have K := hidd HR
          have A := hidd (show Asc zs (j + 1) from fun i hi h2 => by
            by_cases he : i = j
            · subst he; exact hup
            · exact hasc i (by omega) h2)
          clear hz hy hc HR hs hasc hup
          go_wp2_with fail
          go_quiet (fail)
          go_wp2
          go_roundw
          case rel => exact ⟨j + 1, by omega, by go_num, A.out, K.out.1.below (below_drewN (Below.refl _ _) _) (Nat.le_refl _), below_drewN K.out.2 _⟩
          case measure => simp [intOf]; omega
        · have hge : decide (zs.getD j 0 ≥ zs.getD (j + 1) 0) = true := by rw [decide_eq_true_iff]; omega
          have HN := hidd (show setB zs n = false by unfold setB; rw [ascB_no hlt hup]; rfl)
          obtain ⟨y, hy⟩ : ∃ y, y = zs.getD j 0 := ⟨_, rfl⟩
          obtain ⟨z, hz⟩ : ∃ z, z = zs.getD (j + 1) 0 := ⟨_, rfl⟩
          rw [← hz] at hck hge
          rw [← hy] at hdk hge
          have K := hidd HR
          clear hz hy hc HR hs hasc hup
          go_wp2_with fail
          go_quiet (fail)
          go_wp2
          go_ret
          exact ⟨by rw [HN.out]; rfl, below_drewN K.out.2 _⟩
    · have HN := hidd (show setB zs n = allB zs n by unfold setB; rw [ascB_yes hasc (by omega)]; rfl)
      have K := hidd HR
      clear hasc HR hs
      go_wp2_with fail
      refine (all51 zs a cap n _ K.out.1 hl).mono ?_
      rintro e w' ⟨rfl, rfl⟩
      go_wp2
      go_ret
      exact ⟨by rw [HN.out]; rfl, K.out.2⟩
def setCode (n k : Int) (bs : List Nat) (zs : List Int) : Int := if given n k bs 0 zs = 0 then (if ascB zs = true then 0 else 2) else given n k bs 0 zs
def RelQ (C : Array Value) (zs : List Int) (a : Option Addr) (w : World) (wr : World) : Prop := SlI wr a zs ∧ Below w.heap.size w wr
end Go.Proofs.Ytikcmgmgdbbcfaa
