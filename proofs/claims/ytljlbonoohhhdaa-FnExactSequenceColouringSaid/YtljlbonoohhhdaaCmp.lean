/- slices.Compact at []int64: the library's contract, at this program; its answer is as long as the list exactly if no two neighbours are equal. -/
import Derived.Test.YtljlbonoohhhdaaSrt
import Derived.Shelf.SlicesE.Compact
namespace Go.Proofs.Ytljlbonoohhhdaa
set_option linter.unusedVariables false
set_option linter.unusedSimpArgs false
open Go Go.RowKit Go.Shelf Go.Proofs Go.Sort Go.Lib
def rhoK : Ren := ⟨fun x => match x with | 43 => 43 | _ => x, fun x => match x with | 22 => 22 | 23 => 2 | _ => x, fun x => x⟩
set_option maxRecDepth 100000 in
theorem layK : SlLaysE.n43 Try.prog rhoK where
  mixed := rfl
  f43 := ⟨Try.f43.name, by kernel_rfl, Try.func43.trans (by kernel_rfl)⟩
  t0 := by kernel_rfl
  a0 := fun w => by kernel_rfl
  z0 := fun w => by kernel_rfl
  v0 := fun w => by kernel_rfl
  t3 := by kernel_rfl
  a3 := fun w => by kernel_rfl
  z3 := fun w => by kernel_rfl
  v3 := fun w => by kernel_rfl
  t4 := by kernel_rfl
  a4 := fun w => by kernel_rfl
  z4 := fun w => by kernel_rfl
  v4 := fun w => by kernel_rfl
  t22 := by kernel_rfl
  a22 := fun w => by kernel_rfl
  z22 := fun w => by kernel_rfl
  v22 := fun w => by kernel_rfl
  a23 := fun w => by kernel_rfl
  z23 := fun w => by kernel_rfl
theorem compact43 (blk off cap : Nat) (zs : List Int) (w : World) (hH : Holds (Value.int .i64) w blk off zs.toArray) (hsz : zs.length ≤ 9223372036854775807) (hcap : zs.length ≤ cap) :
    Calls Try.prog 43 #[.slice (some ⟨blk, off, none⟩) zs.length cap] w fun e w' => e = .returned (.slice (some ⟨blk, off, none⟩) (compactUpTo zs.toArray zs.length).length cap) ∧ ∃ q, w' = putRow (Value.int .i64) (Sort.ahead w q) blk off (compactUpTo zs.toArray zs.length ++ List.replicate (zs.length - (compactUpTo zs.toArray zs.length).length) 0).toArray :=
  AnyE.slices_Compact layK (Value.int .i64) (fun _ => rfl) (EqlAt.intD _ _ _) (NeqAt.intD _ _ _) 0 (fun w => by kernel_rfl) blk off cap zs.toArray w hH hsz hcap
/-- Of an ascending list Compact keeps all exactly if no two are equal. -/
theorem compact_all_iff (zs : List Int) (hp : zs.Pairwise (· ≤ ·)) : decide ((compactUpTo zs.toArray zs.length).length = zs.length) = decide zs.Nodup := by
  have h1 : (compactUpTo zs.toArray zs.length).length = zs.length ↔ ∀ j ∈ List.range zs.length, keeps zs.toArray j = true := by
    unfold compactUpTo
    rw [List.length_map]
    conv => lhs; rhs; rw [← List.length_range (n := zs.length)]
    exact List.length_filter_eq_length_iff
  have h2 : (∀ j ∈ List.range zs.length, keeps zs.toArray j = true) ↔ zs.Nodup := by
    rw [List.pairwise_iff_getElem] at hp
    constructor
    · intro h
      unfold List.Nodup
      rw [List.pairwise_iff_getElem]
      intro i j hi hj hij he
      have hk := h j (List.mem_range.2 hj)
      unfold keeps at hk
      rw [decide_eq_true_iff] at hk
      rcases hk with h0 | hk
      · omega
      · have e1 : zs.toArray[j]! = zs[j] := by simp [hj]
        have hj1 : j - 1 < zs.length := by omega
        have e2 : zs.toArray[j - 1]! = zs[j - 1] := by simp [hj1]
        rw [e1, e2] at hk
        have q1 : zs[j - 1] ≤ zs[j] := hp (j - 1) j hj1 hj (by omega)
        have q2 : zs[i] ≤ zs[j - 1] := by
          by_cases e : i = j - 1
          · subst e; exact Int.le_refl _
          · exact hp i (j - 1) hi hj1 (by omega)
        omega
    · intro h j hj
      have hj := List.mem_range.1 hj
      unfold List.Nodup at h
      rw [List.pairwise_iff_getElem] at h
      unfold keeps
      rw [decide_eq_true_iff]
      by_cases h0 : j = 0
      · exact .inl h0
      · right
        have hj1 : j - 1 < zs.length := by omega
        have e1 : zs.toArray[j]! = zs[j] := by simp [hj]
        have e2 : zs.toArray[j - 1]! = zs[j - 1] := by simp [hj1]
        rw [e1, e2]
        exact fun e => h (j - 1) j hj1 hj (by omega) e.symm
  by_cases h : zs.Nodup
  · rw [decide_eq_true h, decide_eq_true (h1.2 (h2.2 h))]
  · rw [decide_eq_false h, decide_eq_false (fun k => h (h2.1 (h1.1 k)))]
end Go.Proofs.Ytljlbonoohhhdaa
