/- A region in whatever order: what is kept from operation to operation. -/
import Derived.Test.YtckffliiidgilaaDoorBab
namespace Go.Proofs.YtckffliiidgilaaDoor
set_option linter.unusedVariables false
set_option linter.unusedSimpArgs false
open Go Go.RowKit
theorem unl_zero {L : Array Bool} (h : unl L = 0) (j : Nat) (hj : j < L.size) : L.getD j true = true := by
  unfold unl at h
  have := (List.countP_eq_zero.1 h) j (List.mem_range.2 hj)
  simpa using this
theorem getD_two {L : Array Bool} {j : Nat} (hj : j < L.size) : L.getD j true = L.getD j false := by
  simp [Array.getD, hj]
theorem getD_upd {L : Array Bool} {i : Nat} (hi : i < L.size) (j : Nat) : (L.setIfInBounds i true).getD j false = if i = j then true else L.getD j false := by
  by_cases e : i = j
  · subst e; rw [if_pos rfl]; simp [Array.getD, hi]
  · rw [if_neg e]
    simp only [Array.getD_eq_getD_getElem?, Array.getElem?_setIfInBounds]
    rw [if_neg e]
theorem all_of_none {md : Region.Mode} {ops : Array Oper} {L : Array Bool} (hs : L.size = ops.size) (ho : ∀ (i : Nat) (o : Oper), ops[i]? = some o → ∀ e ∈ o.after, e.on < i) (hr : Region.ready md ops L = []) : ∀ n j, j < n → j < ops.size → L.getD j false = true := by
  intro n
  induction n with
  | zero => intro j hj; omega
  | succ n ih =>
    intro j hj hjs
    by_cases hl : L.getD j true = true
    · rw [← getD_two (by omega)]; exact hl
    · exfalso
      have hm : j ∈ Region.ready md ops L := by
        refine mem_ready.2 ⟨by simpa using hl, ops[j], Array.getElem?_eq_getElem hjs, fun e he _ => ?_⟩
        have := ho j _ (Array.getElem?_eq_getElem hjs) e he
        exact ih e.on (by omega) (by omega)
      rw [hr] at hm
      cases hm
theorem wpAny_inv {P : Program} {md : Region.Mode} {ops : Array Oper} {Q : Exit → Act → World → Prop} (I : Array Bool → Act → World → Prop) (ho : ∀ (i : Nat) (o : Oper), ops[i]? = some o → ∀ e ∈ o.after, e.on < i)
    (hI : ∀ L a w, I L a w → L.size = ops.size)
    (hstep : ∀ L a w i, I L a w → i < ops.size → L.getD i true = false → (∀ o : Oper, ops[i]? = some o → ∀ e ∈ o.after, Region.binds md e = true → L.getD e.on false = true) → wpOp P ops Q i (fun a' w' => I (L.setIfInBounds i true) a' w') a w)
    (hend : ∀ L a w, I L a w → (∀ j, j < ops.size → L.getD j false = true) → Q .normal a w) :
    ∀ fuel L a w, I L a w → unl L ≤ fuel → wpAny P md ops Q fuel L a w
  | 0, L, a, w, h, hu => by
    have hs := hI _ _ _ h
    have hall : ∀ j, j < ops.size → L.getD j false = true := fun j hj => by
      rw [← getD_two (by omega)]; exact unl_zero (by omega) j (by omega)
    refine ⟨?_, hend _ _ _ h hall⟩
    refine List.eq_nil_iff_forall_not_mem.2 fun j hj => ?_
    obtain ⟨hun, oj, hoj, _⟩ := mem_ready.1 hj
    have hjs : j < ops.size := (Array.getElem?_eq_some_iff.1 hoj).1
    rw [unl_zero (by omega) j (by omega)] at hun
    cases hun
  | fuel + 1, L, a, w, h, hu => by
    have hs := hI _ _ _ h
    refine ⟨fun hr => hend _ _ _ h (fun j hj => all_of_none hs ho hr (j + 1) j (by omega) hj), fun i hi => ?_⟩
    obtain ⟨hun, oi, hoi, haf⟩ := mem_ready.1 hi
    have his : i < ops.size := (Array.getElem?_eq_some_iff.1 hoi).1
    refine wpOp_mono (fun a' w' h' => ?_) (hstep L a w i h his hun (fun o ho => by rw [hoi] at ho; cases ho; exact haf))
    have := unl_set (i := i) (by omega) hun
    exact wpAny_inv I ho hI hstep hend fuel _ _ _ h' (by omega)
theorem wpOp_of {P : Program} {ops : Array Oper} {Q : Exit → Act → World → Prop} {i : Nat} {o : Oper} {K : Act → World → Prop} {a : Act} {w : World} (ho : ops[i]? = some o) (hg : o.guard = none) (h : o.wp P a w K Q) : wpOp P ops Q i K a w := by
  unfold wpOp
  rw [ho]
  have : Region.wanted o (yielded ops a.tmps) = true := by unfold Region.wanted; rw [hg]
  simp only [this, if_true]
  exact .inl h
theorem wp_region_inv {P : Program} {id : Nat} {Q : Exit → Act → World → Prop} {a : Act} {w : World} {l : List Oper} (n : Nat) (hn : l.length = n) (I : Array Bool → Act → World → Prop) (hm : P.follows .mixedOrders = true)
    (ho : (l.zipIdx.all fun x => x.1.after.all fun e => decide (e.on < x.2)) = true)
    (hI : ∀ L a w, I L a w → L.size = n)
    (h0 : I (Array.replicate n false) a w.drew)
    (hstep : ∀ L a w i, I L a w → i < n → L.getD i true = false → (∀ o : Oper, l[i]? = some o → ∀ e ∈ o.after, Region.binds .any e = true → L.getD e.on false = true) → wpOp P l.toArray Q i (fun a' w' => I (L.setIfInBounds i true) a' w') a w)
    (hend : ∀ L a w, I L a w → (∀ j, j < n → L.getD j false = true) → Q .normal a w) : (Code.region id l.toArray true).wp P Q a w := by
  subst hn
  refine wp_region_any hm (wpAny_inv I (fun i o hio e he => ?_) (by simpa using hI) (by simpa using hstep) (by simpa using hend) _ _ _ _ (by simpa using h0) (by simpa using unl_none l.length))
  have h1 : l[i]? = some o := by simpa using hio
  have h2 : (o, i) ∈ l.zipIdx := by
    rw [List.mem_iff_getElem?]
    exact ⟨i, by rw [List.getElem?_zipIdx, h1]; simp⟩
  have h3 := List.all_eq_true.1 ho (o, i) h2
  have h4 := (Array.all_eq_true_iff_forall_mem.1 h3) e he
  exact of_decide_eq_true h4
end Go.Proofs.YtckffliiidgilaaDoor
