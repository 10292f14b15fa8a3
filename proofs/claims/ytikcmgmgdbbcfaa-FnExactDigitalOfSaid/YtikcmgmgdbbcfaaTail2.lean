/- A region that draws its order: a head that only reads or lays blocks, in any order, and a tail in the text's order that waits for all of it. -/
import Derived.Test.YtikcmgmgdbbcfaaTail
namespace Go.Proofs.Ytikcmgmgdbbcfaa
set_option linter.unusedVariables false
set_option linter.unusedSimpArgs false
open Go
section
variable {P : Program} {md : Region.Mode} {ops ops' : Array Oper} {C : World → Prop}
theorem ready_idles {m : Nat} (hsz : ops'.size = ops.size) (hh : ∀ i, i < m → ops'[i]? = ops[i]?) (ht : ∀ i o, m ≤ i → ops[i]? = some o → ops'[i]? = some (idle o)) (listed : Array Bool) : Region.ready md ops' listed = Region.ready md ops listed := by
  unfold Region.ready
  rw [hsz]
  congr 1
  funext i
  by_cases h : i < m
  · rw [hh i h]
  · cases ho : ops[i]? with
    | some o => rw [ht i o (by omega) ho]; rfl
    | none =>
      have : ops'[i]? = none := by rw [Array.getElem?_eq_none_iff] at ho ⊢; omega
      rw [this]
def unl (listed : Array Bool) : Nat := (List.range listed.size).countP fun j => !listed.getD j true
theorem countP_drop {p q : Nat → Bool} {i : Nat} : ∀ (l : List Nat), (∀ j, q j = true → p j = true) → i ∈ l → p i = true → q i = false → l.countP q + 1 ≤ l.countP p
  | [], _, h, _, _ => by cases h
  | x :: l, hpq, h, hp, hq => by
    have hm : l.countP q ≤ l.countP p := List.countP_mono_left fun j _ hj => hpq j hj
    rw [List.countP_cons, List.countP_cons]
    by_cases e : x = i
    · subst e
      rw [if_neg (by simp [hq]), if_pos hp]; omega
    · have hl : i ∈ l := by
        rcases List.mem_cons.1 h with h | h
        · exact absurd h.symm e
        · exact h
      have ih := countP_drop l hpq hl hp hq
      by_cases hx : q x = true
      · rw [if_pos hx, if_pos (hpq x hx)]; omega
      · rw [if_neg hx]; omega
theorem unl_set {listed : Array Bool} {i : Nat} (hi : i < listed.size) (h : listed.getD i true = false) : unl (listed.setIfInBounds i true) + 1 ≤ unl listed := by
  unfold unl
  rw [Array.size_setIfInBounds]
  refine countP_drop _ (fun j hj => ?_) (List.mem_range.2 hi) (by rw [h]; rfl) ?_
  · by_cases e : i = j
    · subst e; simp [Array.getD, hi] at hj
    · rwa [getD_set_ne true e] at hj
  · have : (listed.setIfInBounds i true).getD i true = true := by simp [Array.getD, hi]
    rw [this]; rfl
def finAt (m s : Nat) : Array Bool := (List.replicate m true ++ List.replicate (s - m) false).toArray
theorem fin_of {m : Nat} {listed : Array Bool} (hm : m ≤ ops.size) (inv : HeadInv md ops m listed) (h : ∀ i, i < m → listed.getD i true = true) : listed = finAt m ops.size := by
  have hs := inv.size
  apply Array.ext'
  show listed.toList = List.replicate m true ++ List.replicate (ops.size - m) false
  have hl : listed.toList.length = ops.size := by simpa using hs
  apply List.ext_getElem
  · simp; omega
  · intro i h1 h2
    rw [List.getElem_append]
    split
    · rename_i h3
      rw [List.getElem_replicate]
      have := h i (by simpa using h3)
      simpa [Array.getD, show i < listed.size by omega] using this
    · rename_i h3
      rw [List.getElem_replicate]
      have := inv.tail i (by simpa using h3) (by omega)
      simpa [Array.getD, show i < listed.size by omega] using this
theorem unl_fin (m s : Nat) (h : m ≤ s) : unl (finAt m s) = s - m := by
  have key : ∀ (a b : Nat), (List.range (a + b)).countP (fun j => !(List.replicate a true ++ List.replicate b false).toArray.getD j true) = b := by
    intro a b
    rw [List.range_add, List.countP_append]
    have h1 : (List.range a).countP (fun j => !(List.replicate a true ++ List.replicate b false).toArray.getD j true) = 0 := by
      rw [List.countP_eq_zero]
      intro j hj
      have hj := List.mem_range.1 hj
      simp [Array.getD, List.getElem_append, hj]
    have h2 : ((List.range b).map (a + ·)).countP (fun j => !(List.replicate a true ++ List.replicate b false).toArray.getD j true) = b := by
      rw [List.countP_map, List.countP_eq_length.2, List.length_range]
      intro j hj
      have hj := List.mem_range.1 hj
      simp [Array.getD, List.getElem_append, hj]
    rw [h1, h2, Nat.zero_add]
  have := key m (s - m)
  unfold unl finAt
  simp only [List.size_toArray, List.length_append, List.length_replicate]
  exact this
theorem wpAny_of_seq_more {Q' : Exit → Act → World → Prop} : ∀ (l : List Oper) (k g : Nat) (listed : Array Bool) (a : Act) (w : World), (∀ j, l[j]? = ops[k + j]?) →
    Region.seqB md ops l.length k listed = true → wpList P ops Q' l a w → wpAny P md ops Q' (l.length + g) listed a w
  | [], _, 0, _, _, _, _, hB, h => ⟨by simpa [Region.seqB] using hB, h⟩
  | [], _, g + 1, listed, _, _, _, hB, h => by
    have hr : Region.ready md ops listed = [] := by simpa [Region.seqB] using hB
    rw [show ([] : List Oper).length + (g + 1) = g + 1 by simp]
    exact ⟨fun _ => h, fun j hj => by rw [hr] at hj; cases hj⟩
  | o :: l, k, g, listed, a, w, hl, hB, h => by
    have h0 : ops[k]? = some o := by simpa using (hl 0).symm
    simp only [List.length_cons, Region.seqB, Bool.and_eq_true, decide_eq_true_eq] at hB
    rw [show (o :: l).length + g = (l.length + g) + 1 by simp; omega]
    refine ⟨fun h1 => (by rw [hB.1] at h1; cases h1), fun i hi => ?_⟩
    rw [hB.1] at hi
    have hik : i = k := by simpa using hi
    subst hik
    have hw : wpOp P ops Q' i (wpList P ops Q' l) a w := by unfold wpOp; simp only [h0]; exact h
    exact wpOp_mono (fun a' w' h' => wpAny_of_seq_more l (i + 1) g _ a' w' (fun j => by have := hl (j + 1); simpa [Nat.add_assoc, Nat.add_comm 1 j] using this) hB.2 h') hw
theorem qa_of_tail {m : Nat} {Qa : Act → Prop} (hsz : ops'.size = ops.size) (hh : ∀ i, i < m → ops'[i]? = ops[i]?) (ht : ∀ i o, m ≤ i → ops[i]? = some o → ops'[i]? = some (idle o)) (hp : plainB md ops = true) :
    ∀ (fuel : Nat) (listed : Array Bool) (a : Act), listed.size = ops.size → (∀ i, i < m → listed.getD i true = true) → wpAnyQ P md ops' C Qa fuel listed a → Qa a
  | 0, _, _, _, _, h => h.2
  | fuel + 1, listed, a, hs, hd, h => by
    cases hr : Region.ready md ops' listed with
    | nil => exact h.1 hr
    | cons i r =>
      have hi : i ∈ Region.ready md ops' listed := by rw [hr]; exact List.mem_cons_self
      have hi2 := hi
      rw [ready_idles hsz hh ht] at hi2
      obtain ⟨hun, o, ho, _⟩ := mem_ready.1 hi2
      have him : m ≤ i := Nat.le_of_not_lt fun hlt => by rw [hd i hlt] at hun; cases hun
      have hq := h.2 i hi
      unfold qOp at hq
      rw [ht i o him ho] at hq
      simp only [] at hq
      rw [if_pos (wanted_free (o := idle o) (plain_spec hp ho).1 _)] at hq
      obtain ⟨v, _, h3⟩ := hq
      have h4 : wpAnyQ P md ops' C Qa fuel (listed.setIfInBounds i true) a := h3
      exact qa_of_tail hsz hh ht hp fuel _ a (by rw [Array.size_setIfInBounds]; exact hs) (fun j hj => by rw [getD_set_ne true (by omega)]; exact hd j hj) h4
theorem wpAny_of_idles {m : Nat} {Qa : Act → Prop} {Q' : Exit → Act → World → Prop} (hsz : ops'.size = ops.size) (hh : ∀ i, i < m → ops'[i]? = ops[i]?) (ht : ∀ i o, m ≤ i → ops[i]? = some o → ops'[i]? = some (idle o))
    (hmlt : m < ops.size) (hp : plainB md ops = true) (hk : (Region.sinkB md ops m && Region.chainB md ops m) = true)
    (hQ : ∀ a w g, C w → Qa a → wpAny P md ops Q' (ops.size - m + g) (finAt m ops.size) a w) :
    ∀ (fuel : Nat) (listed : Array Bool) (a : Act) (w : World), HeadInv md ops m listed → unl listed ≤ fuel → C w →
      wpAnyQ P md ops' C Qa fuel listed a → wpAny P md ops Q' fuel listed a w := by
  have hkk := hk
  rw [Bool.and_eq_true] at hkk
  intro fuel
  induction fuel with
  | zero =>
    intro listed a w inv hu hC h
    have hs := inv.size
    have hun := inv.tail m (Nat.le_refl _) hmlt
    have := h.1
    rw [ready_idles hsz hh ht] at this
    exact absurd this (some_ready hp hs m hmlt hun)
  | succ fuel ih =>
    intro listed a w inv hu hC h
    have hs := inv.size
    have hun := inv.tail m (Nat.le_refl _) hmlt
    by_cases hmr : m ∈ Region.ready md ops listed
    · have hd : ∀ i, i < m → listed.getD i true = true := fun i hi => by
        cases hx : listed.getD i true with
        | true => rfl
        | false => exact absurd hmr (tail_waits hkk.1 hkk.2 hmlt inv _ i rfl hi hx m (Nat.le_refl _))
      have hqa := qa_of_tail hsz hh ht hp (fuel + 1) listed a hs hd h
      have hf := fin_of (Nat.le_of_lt hmlt) inv hd
      rw [hf] at hu ⊢
      rw [unl_fin m ops.size (Nat.le_of_lt hmlt)] at hu
      have := hQ a w (fuel + 1 - (ops.size - m)) hC hqa
      rw [show ops.size - m + (fuel + 1 - (ops.size - m)) = fuel + 1 by omega] at this
      exact this
    · refine ⟨fun h0 => absurd h0 (some_ready hp hs m hmlt hun), fun i hi => ?_⟩
      have hq := h.2 i (by rw [ready_idles hsz hh ht]; exact hi)
      obtain ⟨hiun, oi, hoi, hall⟩ := mem_ready.1 hi
      have his : i < ops.size := (Array.getElem?_eq_some_iff.1 hoi).1
      have hlt : i < m := by
        refine Nat.lt_of_not_le fun him => ?_
        by_cases e : i = m
        · subst e; exact hmr hi
        · have h1 := List.all_eq_true.1 hkk.2 i (List.mem_range.2 his)
          simp only [Bool.or_eq_true, decide_eq_true_eq] at h1
          rcases h1 with h1 | h1
          · omega
          · obtain ⟨o', ho', e', he', hb', hon'⟩ := Region.waitsFor_spec h1
            have : o' = oi := Option.some.inj (ho'.symm.trans hoi)
            subst this
            have h2 := hall e' he' hb'
            rw [hon', getD_both (inv.tail (i - 1) (by omega) (by omega))] at h2
            cases h2
      refine wpOp_of_qOp hC (fun a' w' hw' hkq => ih (listed.setIfInBounds i true) a' w' (inv.set hi hlt) (by have := unl_set (listed := listed) (i := i) (by omega) hiun; omega) hw' hkq) ?_
      unfold qOp at hq ⊢
      rw [hh i hlt, hoi] at hq
      simp only [hoi] at hq ⊢
      rw [if_pos (wanted_free (plain_spec hp hoi).1 _)] at hq ⊢
      exact hq
theorem unl_none (s : Nat) : unl (Array.replicate s false) ≤ s := by
  unfold unl
  refine Nat.le_trans List.countP_le_length ?_
  simp
/-- **The head is walked once, in the text's order; then the tail.** n: how many operations the head has. -/
theorem wp_region_tail_lit {id : Nat} {Q : Exit → Act → World → Prop} {a : Act} {w : World} {L : List Oper} (n : Nat) (C : World → Prop) (hn : n < L.length) (hm : P.follows .mixedOrders = true) (hC : C w.drew)
    (hp : plainB .any L.toArray = true) (hk : (Region.sinkB .any L.toArray n && Region.chainB .any L.toArray n) = true) (hs : Region.seqB .any L.toArray (L.drop n).length n (finAt n L.toArray.size) = true)
    (hB : Region.lexB .any (L.take n ++ (L.drop n).map idle).toArray = true)
    (h : wpQuiet P (L.take n ++ (L.drop n).map idle).toArray C (fun a' => ∀ w', C w' → wpList P L.toArray Q (L.drop n) a' w') (L.take n ++ (L.drop n).map idle) a) : (Code.region id L.toArray true).wp P Q a w := by
  have htl : (L.take n).length = n := by simp; omega
  have hsz : (L.take n ++ (L.drop n).map idle).toArray.size = L.toArray.size := by simp; omega
  have hh : ∀ i, i < n → (L.take n ++ (L.drop n).map idle).toArray[i]? = L.toArray[i]? := fun i hi => by
    rw [List.getElem?_toArray, List.getElem?_append_left (by omega), List.getElem?_toArray, List.getElem?_take, if_pos hi]
  have ht : ∀ i o, n ≤ i → L.toArray[i]? = some o → (L.take n ++ (L.drop n).map idle).toArray[i]? = some (idle o) := fun i o hi ho => by
    rw [List.getElem?_toArray] at ho
    rw [List.getElem?_toArray, List.getElem?_append_right (by omega), htl, List.getElem?_map, List.getElem?_drop, show n + (i - n) = i by omega, ho]; rfl
  simp only [Region.lexB, Bool.and_eq_true] at hB
  have inv0 : HeadInv .any L.toArray n (Array.replicate L.toArray.size false) :=
    ⟨by simp, fun j oj _ hl => (by rw [getD_replicate_false] at hl; cases hl), fun t _ ht => getD_in (by simpa using ht) (getD_replicate_false _ _)⟩
  refine wp_region_any hm (wpAny_of_idles (C := C) (m := n) (Qa := fun a' => ∀ w', C w' → wpList P L.toArray Q (L.drop n) a' w') hsz hh ht (by simpa using hn) hp hk (fun a w g hw hq => ?_) _ _ _ _ inv0 (unl_none _) hC ?_)
  · have e : L.toArray.size - n = (L.drop n).length := by simp
    rw [e]
    exact wpAny_of_seq_more (L.drop n) n g _ a w (fun j => by rw [List.getElem?_toArray, List.getElem?_drop]) hs (hq w hw)
  · have := wpAnyQ_lex (C := C) (md := .any) hB.1 (L.take n ++ (L.drop n).map idle) 0 (Array.replicate (L.take n ++ (L.drop n).map idle).toArray.size false) a (by simp) (by simpa using hB.2) h
    rw [hsz] at this
    simpa [htl, Nat.add_sub_cancel' (Nat.le_of_lt hn)] using this
end
end Go.Proofs.Ytikcmgmgdbbcfaa
