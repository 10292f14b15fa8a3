/- A region that draws its order and ends in one operation that waits for all others: the others only read or lay blocks. -/
import Derived.Deep.Quiet
import Derived.Deep.QuietTactic
import Derived.StillTail
namespace Go.Proofs.Ytikcmgmgdbbcfaa
set_option linter.unusedVariables false
set_option linter.unusedSimpArgs false
open Go
section
variable {P : Program} {md : Region.Mode} {ops : Array Oper} {C : World → Prop}
/-- No guards, and every operation waits for earlier ones only. -/
def plainB (md : Region.Mode) (ops : Array Oper) : Bool :=
  (List.range ops.size).all fun i => match ops[i]? with
    | some o => o.guard.isNone && o.after.all fun e => !Region.binds md e || decide (e.on < i)
    | none => true
theorem plain_spec (h : plainB md ops = true) {i : Nat} {o : Oper} (ho : ops[i]? = some o) : o.guard = none ∧ ∀ e ∈ o.after, Region.binds md e = true → e.on < i := by
  have hi : i < ops.size := (Array.getElem?_eq_some_iff.1 ho).1
  have h1 := List.all_eq_true.1 h i (List.mem_range.2 hi)
  simp only [ho, Bool.and_eq_true] at h1
  refine ⟨by simpa using h1.1, fun e he hb => ?_⟩
  have h2 := Array.all_eq_true'.1 h1.2 e he
  rw [hb] at h2
  simpa using h2
theorem wanted_free {o : Oper} (h : o.guard = none) (y : Nat → Option Bool) : Region.wanted o y = true := by
  unfold Region.wanted; rw [h]
theorem some_ready (h : plainB md ops = true) {listed : Array Bool} (hs : listed.size = ops.size) : ∀ (k : Nat), k < ops.size → listed.getD k true = false → Region.ready md ops listed ≠ [] := by
  intro k
  induction k using Nat.strongRecOn with
  | _ k ih =>
    intro hk hun hr
    obtain ⟨o, ho⟩ : ∃ o, ops[k]? = some o := ⟨_, Array.getElem?_eq_getElem hk⟩
    by_cases hall : ∀ e ∈ o.after, Region.binds md e = true → listed.getD e.on false = true
    · have : k ∈ Region.ready md ops listed := mem_ready.2 ⟨hun, o, ho, hall⟩
      rw [hr] at this; cases this
    · refine hall fun e he hb => ?_
      cases hl : listed.getD e.on false with
      | true => rfl
      | false =>
        have hlt := (plain_spec h ho).2 e he hb
        exact absurd hr (ih e.on hlt (by omega) (getD_in (by omega) hl))
theorem none_ready {m : Nat} (hsz : ops.size = m + 1) (hk : (Region.sinkB md ops m && Region.chainB md ops m) = true) {listed : Array Bool} (inv : HeadInv md ops m listed) (hr : m ∈ Region.ready md ops listed) :
    Region.ready md ops (listed.setIfInBounds m true) = [] := by
  rw [Bool.and_eq_true] at hk
  have hs := inv.size
  refine List.eq_nil_iff_forall_not_mem.2 fun j hj => ?_
  obtain ⟨hun, oj, hoj, _⟩ := mem_ready.1 hj
  have hjs : j < ops.size := (Array.getElem?_eq_some_iff.1 hoj).1
  by_cases e : j = m
  · subst e
    have : (listed.setIfInBounds j true).getD j true = true := by simp [Array.getD]
    rw [this] at hun; cases hun
  · rw [getD_set_ne true (Ne.symm e)] at hun
    exact tail_waits hk.1 hk.2 (by omega) inv _ j rfl (by omega) hun m (Nat.le_refl _) hr
/-- The last operation, with nothing done. -/
def idle (o : Oper) : Oper := { o with op := .move (.const undef), dst := none }
theorem ready_idle {m : Nat} {o : Oper} (ho : ops[m]? = some o) (listed : Array Bool) : Region.ready md (ops.setIfInBounds m (idle o)) listed = Region.ready md ops listed := by
  unfold Region.ready
  rw [Array.size_setIfInBounds]
  congr 1
  funext i
  rw [Array.getElem?_setIfInBounds]
  by_cases e : m = i
  · subst e
    have hlt := (Array.getElem?_eq_some_iff.1 ho).1
    rw [if_pos rfl, if_pos hlt, ho]; rfl
  · rw [if_neg e]
theorem wpAny_of_idle {m : Nat} {o : Oper} {Qa : Act → Prop} {Q' : Exit → Act → World → Prop} (hsz : ops.size = m + 1) (ho : ops[m]? = some o) (hp : plainB md ops = true) (hk : (Region.sinkB md ops m && Region.chainB md ops m) = true)
    (hQ : ∀ a w, C w → Qa a → wpList P ops Q' [o] a w) :
    ∀ (fuel : Nat) (listed : Array Bool) (a : Act) (w : World), HeadInv md ops m listed → C w →
      wpAnyQ P md (ops.setIfInBounds m (idle o)) C Qa fuel listed a → wpAny P md ops Q' fuel listed a w
  | 0, listed, a, w, inv, hC, h => by
    have hs := inv.size
    have hun := inv.tail m (Nat.le_refl _) (by omega)
    have := h.1
    rw [ready_idle ho] at this
    exact absurd this (some_ready hp hs m (by omega) hun)
  | fuel + 1, listed, a, w, inv, hC, h => by
    have hs := inv.size
    have hun := inv.tail m (Nat.le_refl _) (by omega)
    refine ⟨fun h0 => absurd h0 (some_ready hp hs m (by omega) hun), fun i hi => ?_⟩
    have hq := h.2 i (by rw [ready_idle ho]; exact hi)
    by_cases e : i = m
    · subst e
      have hn := none_ready hsz hk inv hi
      have hw : ∀ (h : wpList P ops Q' [o] a w), wpOp P ops Q' i (wpList P ops Q' []) a w := fun h => by unfold wpOp; simp only [ho]; exact h
      refine wpOp_mono (fun a' w' hq' => ?_) (hw (hQ a w hC ?_))
      · have hq' : Q' .normal a' w' := hq'
        cases fuel with
        | zero => exact ⟨hn, hq'⟩
        | succ f => exact ⟨fun _ => hq', fun j hj => by rw [hn] at hj; cases hj⟩
      · unfold qOp at hq
        rw [Array.getElem?_setIfInBounds, if_pos rfl, if_pos (by omega)] at hq
        simp only [] at hq
        rw [if_pos (wanted_free (o := idle o) (plain_spec hp ho).1 _)] at hq
        obtain ⟨v, _, h3⟩ := hq
        have h4 : wpAnyQ P md (ops.setIfInBounds i (idle o)) C Qa fuel (listed.setIfInBounds i true) a := h3
        cases fuel with
        | zero => exact h4.2
        | succ f => exact h4.1 (by rw [ready_idle ho]; exact hn)
    · obtain ⟨_, oi, hoi, _⟩ := mem_ready.1 hi
      have hlt : i < m := by have := (Array.getElem?_eq_some_iff.1 hoi).1; omega
      refine wpOp_of_qOp hC (fun a' w' hw' hkk => wpAny_of_idle hsz ho hp hk hQ fuel (listed.setIfInBounds i true) a' w' (inv.set hi hlt) hw' hkk) ?_
      unfold qOp at hq ⊢
      rw [Array.getElem?_setIfInBounds, if_neg (Ne.symm e), hoi] at hq
      simp only [hoi] at hq ⊢
      rw [if_pos (wanted_free (plain_spec hp hoi).1 _)] at hq ⊢
      exact hq
/-- **The others are walked once, in the text's order; then the last one.** -/
theorem wp_region_last {id : Nat} {Q : Exit → Act → World → Prop} {a : Act} {w : World} {l : List Oper} {o : Oper} (hm : P.follows .mixedOrders = true) (hC : C w.drew)
    (hp : plainB .any (l ++ [o]).toArray = true) (hk : (Region.sinkB .any (l ++ [o]).toArray l.length && Region.chainB .any (l ++ [o]).toArray l.length) = true) (hB : Region.lexB .any (l ++ [idle o]).toArray = true)
    (h : wpQuiet P (l ++ [idle o]).toArray C (fun a' => ∀ w', C w' → wpList P (l ++ [o]).toArray Q [o] a' w') (l ++ [idle o]) a) : (Code.region id (l ++ [o]).toArray true).wp P Q a w := by
  have ho : (l ++ [o]).toArray[l.length]? = some o := by simp
  have hset : (l ++ [o]).toArray.setIfInBounds l.length (idle o) = (l ++ [idle o]).toArray := by simp
  simp only [Region.lexB, Bool.and_eq_true] at hB
  refine wp_region_any hm (wpAny_of_idle (C := C) (m := l.length) (o := o) (Qa := fun a' => ∀ w', C w' → wpList P (l ++ [o]).toArray Q [o] a' w') (by simp) ho hp hk (fun a w hw hq => hq w hw) _ _ _ _ ⟨by simp, fun j oj _ hl => (by rw [getD_replicate_false] at hl; cases hl), fun t _ ht => getD_in (by simpa using ht) (getD_replicate_false _ _)⟩ hC ?_)
  rw [hset]
  have := wpAnyQ_lex (C := C) (md := .any) hB.1 (l ++ [idle o]) 0 (Array.replicate (l ++ [idle o]).toArray.size false) a (by simp) (by simpa using hB.2) h
  simpa using this
/-- The same, the region written out: its last operation is number n. -/
theorem wp_region_last_lit {id : Nat} {Q : Exit → Act → World → Prop} {a : Act} {w : World} {L : List Oper} {o : Oper} (n : Nat) (C : World → Prop) (hn : L.length = n + 1) (ho : L[n]? = some o) (hm : P.follows .mixedOrders = true) (hC : C w.drew)
    (hp : plainB .any L.toArray = true) (hk : (Region.sinkB .any L.toArray n && Region.chainB .any L.toArray n) = true) (hB : Region.lexB .any (L.take n ++ [idle o]).toArray = true)
    (h : wpQuiet P (L.take n ++ [idle o]).toArray C (fun a' => ∀ w', C w' → wpList P L.toArray Q [o] a' w') (L.take n ++ [idle o]) a) : (Code.region id L.toArray true).wp P Q a w := by
  have e : L = L.take n ++ [o] := by
    have h1 := List.getElem?_eq_some_iff.1 ho
    obtain ⟨hlt, hget⟩ := h1
    rw [← hget, List.take_append_getElem hlt]
    exact (List.take_of_length_le (by omega)).symm
  have hl : (L.take n).length = n := by simp; omega
  rw [e]
  rw [e] at hp
  refine wp_region_last (C := C) hm hC hp ?_ ?_ ?_
  · rw [hl, ← e]; exact hk
  · exact hB
  · rw [← e]; exact h
theorem qs {o : Oper} {rest : List Oper} {a : Act} {Q : Act → Prop} (hg : o.guard = none) (h : ∀ K : Act → Prop, (∀ a, wpQuiet P ops C Q rest a → K a) → o.quiet P a C K) : wpQuiet P ops C Q (o :: rest) a := by
  unfold wpQuiet
  rw [if_pos (wanted_free hg _)]
  exact h _ (fun _ h => h)
end
end Go.Proofs.Ytikcmgmgdbbcfaa
