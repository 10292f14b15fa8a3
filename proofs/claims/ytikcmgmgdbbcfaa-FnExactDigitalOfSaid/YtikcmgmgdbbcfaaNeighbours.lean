/- NeighboursOf: the program and its model. -/
import Derived.Test.YtikcmgmgdbbcfaaAround
namespace Go.Proofs.Ytikcmgmgdbbcfaa
set_option linter.unusedVariables false
set_option linter.unusedSimpArgs false
open Go Go.RowKit
/-- A list of the call's own and a code. -/
def LOut (w : World) (zs : List Int) (code : Int) (e : Ending) (w' : World) : Prop :=
  ∃ a cap, e = .returned (.tuple #[.slice a zs.length cap, .int .i64 code]) ∧ OwnL w' w.heap.size a zs ∧ Below w.heap.size w w'
theorem lout_nil {w w' : World} {code : Int} {e : Ending} (he : e = .returned (.tuple #[.slice none 0 0, .int .i64 code])) (hb : Below w.heap.size w w') : LOut w [] code e w' := ⟨none, 0, he, .inl rfl, hb⟩
theorem lout_own {w w' : World} {zs : List Int} {code : Int} {e : Ending} {v : Value} {B : Nat} (he : e = .returned (.tuple #[v, .int .i64 code])) (h : w'.ownsRow B 2 1 v zs.length (icells zs)) (hB : w.heap.size ≤ B) (hb : Below w.heap.size w w') : LOut w zs code e w' := by
  obtain ⟨a, cap, rfl, ho⟩ := own_list (own_base h hB)
  exact ⟨a, cap, he, ho, hb⟩
def nbCode (n k : Int) (bs : List Nat) (i c : Int) : Int := given n k bs c [i]
def nbList (n k : Int) (bs : List Nat) (i c : Int) : List Int := if given n k bs c [i] = 0 then nbK (nbB bs i c) n.toNat else []
theorem all1 (i n : Int) : allB [i] n = belowB i n := by simp [allB]
theorem nb_bad {n k : Int} {bs : List Nat} {i c m : Int} (h : given n k bs c [i] = m) (hm : m ≠ 0) : nbList n k bs i c = [] ∧ nbCode n k bs i c = m := by
  unfold nbList nbCode; rw [h]; exact ⟨if_neg hm, rfl⟩
theorem nb_good {n k : Int} {bs : List Nat} {i c : Int} (h : given n k bs c [i] = 0) : nbList n k bs i c = nbK (nbB bs i c) n.toNat ∧ nbCode n k bs i c = 0 := by
  unfold nbList nbCode; rw [h]; exact ⟨if_pos rfl, rfl⟩
theorem nbList_len {n k : Int} {bs : List Nat} {i c : Int} : (nbList n k bs i c).length ≤ 17 := by
  unfold nbList
  split
  · rename_i h
    cases hi : isCol n k bs with
    | false => rw [given_1 hi] at h; cases h
    | true =>
      have := isCol_bd hi
      have := nbK_len (nbB bs i c) n.toNat
      omega
  · simp
theorem nb62 (p : Nat → Bool) (N : Nat) (h : N ≤ 62) : nbK (fun j => decide (j < N) && p j) 62 = nbK p N := by
  have h1 := nbK_more (p := fun j => decide (j < N) && p j) (m := N) (fun j hj => by simp [show ¬ j < N by omega]) (62 - N)
  rw [show N + (62 - N) = 62 by omega] at h1
  rw [h1]
  exact nbK_congr N (fun j hj => by simp [hj])
theorem sl1 (w : World) (i : Int) (t : TypeId) (b : Nat) (hb : b = w.heap.size) : SlI (w.alloc (.cells #[.int .i64 i] t)) (some ⟨b, 0, none⟩) [i] := by
  refine .inr ⟨_, _, rfl, fun m hm => ?_⟩
  have hB := Blk.new w #[.int .i64 i] t b hb
  match m, hm with
  | 0, _ => exact hB.cell rfl
end Go.Proofs.Ytikcmgmgdbbcfaa
