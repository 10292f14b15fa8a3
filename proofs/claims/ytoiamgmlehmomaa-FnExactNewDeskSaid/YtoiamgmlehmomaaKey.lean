/- Colourings as keys of a map. -/
import Derived.Test.YtoiamgmlehmomaaGe
import Derived.Maps.RangeWalk
import Derived.Maps.OwnSet
import Derived.DeepKeys4
namespace Go.Proofs.Ytoiamgmlehmomaa
set_option linter.unusedVariables false
set_option linter.unusedSimpArgs false
open Go Go.RowKit Go.Maps Go.ChangeMaps
theorem row24c : (24 : TypeId) < Try.prog.types.size := of_decide_eq_true (by kernel_rfl)
theorem wide24 : (match Try.prog.underlying 24 with | some (.array _ _) | some (.struct _) => true | _ => false) = true := by rw [Try.underlying24]
theorem law24 : Keyed Try.prog 24 := Keyed.of_law (deep_law_laid laidOut (m := 4) (by omega) row24c (by kernel_rfl) wide24)
theorem keyT24 : Try.prog.keyType 24 = true := by kernel_rfl
theorem cells24c : Try.prog.cellsOf 24 = 138 := by kernel_rfl
theorem cells22c : Try.prog.cellsOf 22 = 136 := by kernel_rfl
theorem tsz : ∃ m, Try.prog.types.size = m + 2 := by
  have h : 24 < Try.prog.types.size := row24c
  exact ⟨Try.prog.types.size - 2, by omega⟩
theorem mapM_isSome {α β : Type} {f : α → Option β} : ∀ {l : List α}, (∀ x ∈ l, (f x).isSome = true) → (l.mapM f).isSome = true
  | [], _ => rfl
  | x :: r, h => by
    rw [List.mapM_cons]
    obtain ⟨y, hy⟩ := Option.isSome_iff_exists.1 (h x (by simp))
    obtain ⟨z, hz⟩ := Option.isSome_iff_exists.1 (mapM_isSome (l := r) (fun x hx => h x (by simp [hx])))
    simp [hy, hz]
theorem lits22 {bs : List Nat} (hb : Bys bs) (d : Nat) : (Try.prog.keyLits (d + 2) 22 (bcells bs)).isSome = true := by
  unfold Program.keyLits
  simp only [Try.underlying22]
  rw [if_pos (by rw [bcells_len, hb.len, cells22c])]
  rw [Option.isSome_map]
  refine mapM_isSome fun i hi => ?_
  have hi' : i < 136 := List.mem_range.1 hi
  rw [cells5, Nat.mul_one]
  have h1 := bcells_get bs i (by rw [hb.len]; exact hi')
  have e : ((bcells bs).drop i).take 1 = [.int .u8 ((bs.getD i 0 : Nat) : Int)] := by
    have hl : i < (bcells bs).length := by rw [bcells_len, hb.len]; exact hi'
    rw [List.drop_eq_getElem_cons hl, List.take_succ_cons, List.take_zero]
    have h2 := List.getElem?_eq_getElem hl
    rw [h1] at h2
    rw [← Option.some.inj h2]; simp [List.getD, show i < bs.length by rw [hb.len]; exact hi']
  rw [e]
  unfold Program.keyLits
  simp only [Try.underlying5]
  have hwf : (Lit.int .u8 ((bs.getD i 0 : Nat) : Int)).wf = true := by
    have := hb.2 i
    exact WalkArith.wf_u8 (by omega)
  rw [if_pos (by rw [hwf]; simp)]
  rfl
theorem key24 {n k : Int} {bs : List Nat} (hb : Bys bs) (wn : (Lit.int .i64 n).wf = true) (wk : (Lit.int .i64 k).wf = true) : (keyOf Try.prog 24 (.agg (ccells n k bs).toArray)).isSome = true := by
  obtain ⟨m, hm⟩ := tsz
  have hsz : (ccells n k bs).toArray.size = 138 := by simp [ccells_len, hb.len]
  unfold keyOf
  simp only [Try.underlying24]
  rw [if_pos (by simp [keyT24, Value.formed, Try.underlying24, cells24c, ccells_len, hb.len]), hm, Option.isSome_map]
  show (Try.prog.keyLits (m + 2 + 1) 24 (ccells n k bs)).isSome = true
  unfold Program.keyLits
  simp only [Try.underlying24]
  rw [if_pos ⟨by rw [ccells_len, hb.len, cells24c], by simp⟩, Option.isSome_map]
  refine mapM_isSome fun f hf => ?_
  simp only [List.mem_cons, List.not_mem_nil, or_false] at hf
  rcases hf with rfl | rfl | rfl
  · show (Try.prog.keyLits (m + 1 + 1) 2 (((ccells n k bs).drop 0).take (Try.prog.cellsOf 2))).isSome = true
    rw [cells2]
    show (Try.prog.keyLits (m + 1 + 1) 2 [.int .i64 n]).isSome = true
    unfold Program.keyLits
    simp only [Try.underlying2]
    rw [if_pos (by simp [wn])]; rfl
  · show (Try.prog.keyLits (m + 1 + 1) 2 (((ccells n k bs).drop 1).take (Try.prog.cellsOf 2))).isSome = true
    rw [cells2]
    show (Try.prog.keyLits (m + 1 + 1) 2 [.int .i64 k]).isSome = true
    unfold Program.keyLits
    simp only [Try.underlying2]
    rw [if_pos (by simp [wk])]; rfl
  · show (Try.prog.keyLits (m + 2) 22 (((ccells n k bs).drop 2).take (Try.prog.cellsOf 22))).isSome = true
    rw [cells22c]
    have e : ((ccells n k bs).drop 2).take 136 = bcells bs := by
      show (bcells bs).take 136 = bcells bs
      exact List.take_of_length_le (by rw [bcells_len, hb.len]; omega)
    rw [e]
    exact lits22 hb m
end Go.Proofs.Ytoiamgmlehmomaa
