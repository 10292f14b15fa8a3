/- namesOfColourings: a map that is filled in whatever order. -/
import Derived.Test.YtoiamgmlehmomaaPic
import Derived.Test.YtoiamgmlehmomaaInv
namespace Go.Proofs.Ytoiamgmlehmomaa
set_option linter.unusedVariables false
set_option linter.unusedSimpArgs false
open Go Go.RowKit Go.Maps Go.ChangeMaps
/-- The place of the operation that puts colouring i in. -/
def ins : Nat → Nat
  | 0 => 3 | 1 => 6 | 2 => 9 | 3 => 12 | _ => 14
def Sv (w : World) (v : Value) (zs : List Int) : Prop := ∃ ad, v = .slice ad zs.length zs.length ∧ SlI w ad zs
/-- What stays: a step that only lays blocks, or one that writes the map of block b. -/
def Stp (B : Nat) (w w' : World) : Prop := Below w.heap.size w w' ∨ ∃ b, B ≤ b ∧ w.mapTurned w' b
theorem Stp.sv {B : Nat} {w w' : World} (h : Stp B w w') {v : Value} {zs : List Int} (hs : Sv w v zs) : Sv w' v zs := by
  obtain ⟨ad, rfl, hc⟩ := hs
  refine ⟨ad, rfl, ?_⟩
  rcases h with h | ⟨b, _, es, clock, es', clock', hb, rfl⟩
  · exact hc.below h (Nat.le_refl _)
  · rcases hc with hz | ⟨b', off, ha, hc⟩
    · exact .inl hz
    · refine .inr ⟨b', off, ha, fun j hj => ?_⟩
      have h1 := hc j hj
      have hne : b' ≠ b := by
        rintro rfl
        unfold World.cell? at h1
        simp only [hb] at h1
        cases h1
      unfold World.cell? at h1 ⊢
      simp only [heap_setBlock_other hb _ hne]
      exact h1
theorem Stp.below {B : Nat} {w0 w w' : World} (h : Stp B w w') (hB : B ≤ w0.heap.size) (hB' : w0.heap.size ≤ B) (h0 : Below w0.heap.size w0 w) : Below w0.heap.size w0 w' := by
  rcases h with h | ⟨b, hl, es, clock, es', clock', hb, rfl⟩
  · exact h0.trans (h.mono h0.size)
  · refine h0.trans ⟨rfl, rfl, rfl, by simp [setBlock], fun k hk => heap_setBlock_other hb _ (by omega)⟩
/-- What an operation that has run has left. -/
def NmF (w : World) (V : Nat → Value) : Nat → Prop
  | 1 => Sv w (V 2) (pcZ 0) | 2 => V 3 = pcV 0 | 4 => Sv w (V 4) (pcZ 1) | 5 => V 5 = pcV 1 | 7 => Sv w (V 6) (pcZ 2) | 8 => V 7 = pcV 2
  | 10 => Sv w (V 8) (pcZ 3) | 11 => V 9 = pcV 3 | 13 => V 10 = pcV 4 | 15 => V 11 = V 1 | 16 => V 0 = V 1 | _ => True
theorem NmF_ins (w : World) (V : Nat → Value) : ∀ k, NmF w V (ins k)
  | 0 => trivial | 1 => trivial | 2 => trivial | 3 => trivial | _ + 4 => trivial
/-- The slots that it speaks of. -/
def NmS : Nat → List Nat
  | 1 => [2] | 2 => [3] | 4 => [4] | 5 => [5] | 7 => [6] | 8 => [7] | 10 => [8] | 11 => [9] | 13 => [10] | 15 => [11, 1] | 16 => [0, 1] | _ => []
theorem NmF.step {B : Nat} {w w' : World} {V V' : Nat → Value} (hw : Stp B w w') (j : Nat) (hV : ∀ x ∈ NmS j, V' x = V x) (h : NmF w V j) : NmF w' V' j := by
  unfold NmF at h ⊢
  unfold NmS at hV
  split at h <;> simp only [List.mem_cons, List.not_mem_nil, or_false, forall_eq_or_imp, forall_eq] at hV ⊢ <;>
    first
      | (rw [hV]; exact hw.sv h)
      | (rw [hV]; exact h)
      | (rw [hV.1, hV.2]; exact h)
      | trivial
def upd (V : Nat → Value) (t : Nat) (v : Value) : Nat → Value := fun x => if x = t then v else V x
def mkA (V : Nat → Value) : Act := { tmps := #[V 0, V 1, V 2, V 3, V 4, V 5, V 6, V 7, V 8, V 9, V 10, V 11], defers := [] }
theorem mkA_inj {V V' : Nat → Value} (hA : mkA V = mkA V') : ∀ x, x < 12 → V' x = V x := by
  unfold mkA at hA
  injection hA with hA _
  simp only [Array.mk.injEq, List.cons.injEq] at hA
  intro x hx
  obtain ⟨e0, e1, e2, e3, e4, e5, e6, e7, e8, e9, e10, e11, _⟩ := hA
  have : x = 0 ∨ x = 1 ∨ x = 2 ∨ x = 3 ∨ x = 4 ∨ x = 5 ∨ x = 6 ∨ x = 7 ∨ x = 8 ∨ x = 9 ∨ x = 10 ∨ x = 11 := by omega
  rcases this with rfl | rfl | rfl | rfl | rfl | rfl | rfl | rfl | rfl | rfl | rfl | rfl <;> (symm; assumption)
theorem NmS_lt {j x : Nat} (hx : x ∈ NmS j) : x < 12 := by
  revert hx; unfold NmS; split <;> simp <;> omega
/-- The region's invariant. -/
def NmI (w0 : World) (L : Array Bool) (a : Act) (w : World) : Prop :=
  L.size = 17 ∧ ∃ V : Nat → Value, a = mkA V ∧ Below w0.heap.size w0 w ∧ (L.getD 0 false = true → ∃ b, w0.heap.size ≤ b ∧ V 1 = .map (some b) ∧ Mp w b (fun i => L.getD (ins i) false) (unl L)) ∧
    (∀ j, j < 17 → L.getD 0 false = false → 1 ∈ NmS j ∨ (∃ i, i < 5 ∧ ins i = j) → L.getD j false = false) ∧ ∀ j, j < 17 → L.getD j false = true → NmF w V j
/-- An operation that writes its slot and does not touch the map. -/
theorem NmI.calm {w0 : World} {L : Array Bool} {V : Nat → Value} {w w' : World} (h : NmI w0 L (mkA V) w) (i t : Nat) (v : Value) (hi : i < 17) (hun : L.getD i true = false) (hw : Below w.heap.size w w')
    (hne : i ≠ 0 ∧ t ≠ 1 ∧ ∀ j, j < 5 → ins j ≠ i) (hd : ∀ j, j < 17 → t ∈ NmS j → j = i) (h0 : 1 ∈ NmS i → L.getD 0 false = true) (hF : NmF w' (upd V t v) i) : NmI w0 (L.setIfInBounds i true) (mkA (upd V t v)) w' := by
  obtain ⟨hs, V', hA, hb, hm, hz, hf⟩ := h
  have hVV := mkA_inj hA
  have hg := fun j => getD_upd (L := L) (i := i) (by omega) j
  refine ⟨by simpa using hs, upd V t v, rfl, hb.trans (hw.mono hb.size), fun h0 => ?_, fun j hj hl hx => ?_, fun j hj hl => ?_⟩
  · rw [hg, if_neg hne.1] at h0
    obtain ⟨b, h1, h2, h3⟩ := hm h0
    have hbl : b < w.heap.size := by obtain ⟨n, D, h4, _⟩ := h3; exact h4.lt
    refine ⟨b, h1, ?_, (h3.below hw hbl).mono (fun k hk hs => ?_) ?_⟩
    · unfold upd; rw [if_neg (fun e => hne.2.1 e.symm), ← hVV 1 (by omega)]; exact h2
    · rw [hg, if_neg (fun e => hne.2.2 k hk e.symm)] at hs; exact hs
    · have := unl_set (i := i) (listed := L) (by omega) hun; omega
  · rw [hg, if_neg hne.1] at hl
    rw [hg]
    by_cases e : i = j
    · subst e
      rcases hx with hx | ⟨k, hk, e⟩
      · rw [h0 hx] at hl; cases hl
      · exact absurd e (hne.2.2 k hk)
    · rw [if_neg e]; exact hz j hj hl hx
  · rw [hg] at hl
    by_cases e : i = j
    · subst e; exact hF
    · rw [if_neg e] at hl
      refine (hf j hj hl).step (B := 0) (.inl hw) j (fun x hx => ?_)
      have hx12 : x < 12 := NmS_lt hx
      unfold upd
      by_cases ex : x = t
      · subst ex
        exact absurd (hd j hj hx).symm e
      · rw [if_neg ex, hVV x hx12]
/-- The operation that makes the map. -/
theorem NmI.make {w0 : World} {L : Array Bool} {V : Nat → Value} {w : World} (h : NmI w0 L (mkA V) w) (hun : L.getD 0 true = false) : NmI w0 (L.setIfInBounds 0 true) (mkA (upd V 1 (.map (some w.heap.size)))) (w.alloc (.map #[] 0)) := by
  obtain ⟨hs, V', hA, hb, hm, hz, hf⟩ := h
  have hVV := mkA_inj hA
  have hun2 : L.getD 0 false = false := by rw [← getD_two (by omega)]; exact hun
  have hg := fun j => getD_upd (L := L) (i := 0) (by omega) j
  have hbel : Below w.heap.size w (w.alloc (.map #[] 0)) := (Below.refl _ _).alloc (Nat.le_refl _) _
  refine ⟨by simpa using hs, upd V 1 (.map (some w.heap.size)), rfl, hb.trans (hbel.mono hb.size), fun _ => ⟨w.heap.size, hb.size, rfl, ?_⟩, fun j hj hl hx => ?_, fun j hj hl => ?_⟩
  · refine (Mp.made w (u := unl (L.setIfInBounds 0 true)) ?_).mono (fun k hk hs => ?_) (Nat.le_refl _)
    · have h1 := unl_set (i := 0) (listed := L) (by omega) hun
      have h2 : unl L ≤ 17 := by unfold unl; rw [hs]; exact Nat.le_trans List.countP_le_length (by simp)
      omega
    · have hne : ¬ 0 = ins k := by unfold ins; split <;> omega
      rw [hg, if_neg hne, hz (ins k) (by unfold ins; split <;> omega) hun2 (.inr ⟨k, hk, rfl⟩)] at hs
      cases hs
  · rw [hg, if_pos rfl] at hl; cases hl
  · rw [hg] at hl
    by_cases e : 0 = j
    · subst e; trivial
    · rw [if_neg e] at hl
      refine (hf j hj hl).step (B := 0) (.inl hbel) j (fun x hx => ?_)
      unfold upd
      by_cases ex : x = 1
      · subst ex
        rw [hz j hj hun2 (.inl hx)] at hl; cases hl
      · rw [if_neg ex, hVV x (NmS_lt hx)]
/-- An operation that puts a colouring in. -/
theorem NmI.put {w0 : World} {L : Array Bool} {V : Nat → Value} {w : World} (h : NmI w0 L (mkA V) w) (k : Nat) (hk : k < 5) (hun : L.getD (ins k) true = false) (h0 : L.getD 0 false = true) :
    ∃ b w', V 1 = .map (some b) ∧ (Instr.mapUpdate 42 (.map (some b)) (pcV k) (.string (pcT k))).run Try.prog w = .ok () w' ∧ NmI w0 (L.setIfInBounds (ins k) true) (mkA V) w' := by
  obtain ⟨hs, V', hA, hb, hm, hz, hf⟩ := h
  have hVV := mkA_inj hA
  have hi : ins k < 17 := by unfold ins; split <;> omega
  have hi0 : ¬ ins k = 0 := by unfold ins; split <;> omega
  have hg := fun j => getD_upd (L := L) (i := ins k) (by omega) j
  obtain ⟨b, h1, h2, h3⟩ := hm h0
  have hu := unl_set (i := ins k) (listed := L) (by omega) hun
  obtain ⟨w', hr, hM, ht⟩ := h3.put (S' := fun i => (L.setIfInBounds (ins k) true).getD (ins i) false) (u' := unl (L.setIfInBounds (ins k) true)) k hk hu (fun j hj hl => by
    rw [hg] at hl
    by_cases e : ins k = ins j
    · left
      have : (List.range 5).all (fun i => (List.range 5).all fun j => decide (ins i = ins j → j = i)) = true := by decide
      exact of_decide_eq_true (List.all_eq_true.1 (List.all_eq_true.1 this k (List.mem_range.2 hk)) j (List.mem_range.2 hj)) e
    · rw [if_neg e] at hl; exact .inr hl)
  have hst : Stp w0.heap.size w w' := .inr ⟨b, h1, ht⟩
  refine ⟨b, w', by rw [← hVV 1 (by omega)]; exact h2, hr, by simpa using hs, V, rfl, hst.below (Nat.le_refl _) (Nat.le_refl _) hb, fun _ => ⟨b, h1, by rw [← hVV 1 (by omega)]; exact h2, hM⟩, fun j hj hl hx => ?_, fun j hj hl => ?_⟩
  · rw [hg, if_neg hi0, h0] at hl; cases hl
  · rw [hg] at hl
    by_cases e : ins k = j
    · subst e; exact NmF_ins _ _ k
    · rw [if_neg e] at hl
      exact (hf j hj hl).step hst j (fun x hx => (hVV x (NmS_lt hx)).symm)
end Go.Proofs.Ytoiamgmlehmomaa
