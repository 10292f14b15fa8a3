/- Tail2's law inside a fence: a region that draws its order, a head that only reads or lays blocks, a tail that waits for it. -/
import Derived.Test.YtpjegmmichjlbaaTail2
import Derived.OrdersIn
import Derived.TacticsIn
import Derived.OwnWalkIn
import Derived.RangeFuncCalls
namespace Go.Proofs.Ytpjegmmichjlbaa
set_option linter.unusedVariables false
set_option linter.unusedSimpArgs false
open Go
section
variable {F : Fence} {n : Nat} {P : Program} {md : Region.Mode} {ops ops' : Array Oper} {C : World → Prop}
def calmB (ops : Array Oper) : Bool := ops.all fun o => match o.op with | .defer _ => false | _ => true
theorem calm_spec (h : calmB ops = true) {i : Nat} {o : Oper} (ho : ops[i]? = some o) : ∀ c, o.op ≠ .defer c := fun c e => by
  obtain ⟨hi, rfl⟩ := Array.getElem?_eq_some_iff.1 ho
  have := Array.all_eq_true.1 h i hi
  rw [e] at this; cases this
/-- What a fence must let by: every function, and every call that has a contract. -/
structure Lets (F : Fence) (n : Nat) (P : Program) : Prop where
  fn : ∀ f, F.fn f
  deep : F.depth.isSome = true → 1 ≤ n
  calls : ∀ f args w (R : Ending → World → Prop), Calls P f args w R → CallsIn F (n - 1) P f args w R
theorem wpIn_of_quiet (hL : Lets F n P) {o : Oper} (hdf : ∀ c, o.op ≠ .defer c) {a : Act} {K : Act → Prop} {K' : Act → World → Prop} {Q' : Exit → Act → World → Prop} {w : World} (hw : C w) (h : ∀ a w', C w' → K a → K' a w') (hh : o.quiet P a C K) : o.wpIn F n P a w K' Q' := by
  obtain ⟨v, h1, h2⟩ := hh
  have h3 := h1 w hw
  unfold Oper.quietAt at h3
  unfold Oper.wpIn
  refine ⟨fun f _ => hL.fn f, ?_⟩
  rw [Oper.semAt_eq _ _ _ hdf]
  generalize (execOp a.eval o).run P w = r at *
  cases r with
  | ok n' w' =>
    cases n' <;> simp only [Oper.quietUpon] at h3 <;> simp only [Oper.uponIn]
    case value u =>
      obtain ⟨e1, e2⟩ := h3
      rw [e1, e2]
      exact h _ _ hw h2
    case skip =>
      obtain ⟨e1, e2⟩ := h3
      rw [e1, ← e2]
      exact h _ _ hw h2
    case enter f args =>
      obtain ⟨e1, hc⟩ := h3
      rw [e1]
      exact ⟨hL.deep, (hL.calls _ _ _ _ hc).mono fun e w'' ⟨he, hw''⟩ => by subst he; exact h _ _ hw'' h2⟩
  | halt x w' => simp only [Oper.quietUpon] at h3
theorem wpAnyIn_of_seq_more {Q' : Exit → Act → World → Prop} : ∀ (l : List Oper) (k g : Nat) (listed : Array Bool) (a : Act) (w : World), (∀ j, l[j]? = ops[k + j]?) →
    Region.seqB md ops l.length k listed = true → wpListIn F n P ops Q' l a w → wpAnyIn F n P md ops Q' (l.length + g) listed a w
  | [], _, 0, _, _, _, _, hB, h => ⟨by simpa [Region.seqB] using hB, h⟩
  | [], _, g + 1, listed, _, _, _, hB, h => by
    have hr : Region.ready md ops listed = [] := by simpa [Region.seqB] using hB
    rw [show ([] : List Oper).length + (g + 1) = g + 1 by simp]
    exact ⟨fun _ => h, fun j hj => by rw [hr] at hj; cases hj⟩
  | o :: l, k, g, listed, a, w, hl, hB, h => by
    have h0 : ops[k]? = some o := by simpa using (hl 0).symm
    simp only [List.length_cons, Region.seqB, Bool.and_eq_true, decide_eq_true_eq] at hB
    rw [show (o :: l).length + g = (l.length + g) + 1 by simp; omega]
    refine ⟨fun h1 => (by rw [hB.1] at h1; cases h1), fun i hi => ?_⟩
    rw [hB.1] at hi
    have hik : i = k := by simpa using hi
    subst hik
    have hw : wpOpIn F n P ops Q' i (wpListIn F n P ops Q' l) a w := by unfold wpOpIn; simp only [h0]; exact h
    exact wpOpIn_mono (fun a' w' h' => wpAnyIn_of_seq_more l (i + 1) g _ a' w' (fun j => by have := hl (j + 1); simpa [Nat.add_assoc, Nat.add_comm 1 j] using this) hB.2 h') hw
theorem wpAnyIn_of_idles (hL : Lets F n P) {m : Nat} {Qa : Act → Prop} {Q' : Exit → Act → World → Prop} (hsz : ops'.size = ops.size) (hh : ∀ i, i < m → ops'[i]? = ops[i]?) (ht : ∀ i o, m ≤ i → ops[i]? = some o → ops'[i]? = some (idle o))
    (hmlt : m < ops.size) (hp : plainB md ops = true) (hcm : calmB ops = true) (hk : (Region.sinkB md ops m && Region.chainB md ops m) = true)
    (hQ : ∀ a w g, C w → Qa a → wpAnyIn F n P md ops Q' (ops.size - m + g) (finAt m ops.size) a w) :
    ∀ (fuel : Nat) (listed : Array Bool) (a : Act) (w : World), HeadInv md ops m listed → unl listed ≤ fuel → C w →
      wpAnyQ P md ops' C Qa fuel listed a → wpAnyIn F n P md ops Q' fuel listed a w := by
  have hkk := hk
  rw [Bool.and_eq_true] at hkk
  intro fuel
  induction fuel with
  | zero =>
    intro listed a w inv hu hC h
    have hs := inv.size
    have hun := inv.tail m (Nat.le_refl _) hmlt
    have := h.1
    rw [ready_idles hsz hh ht] at this
    exact absurd this (some_ready hp hs m hmlt hun)
  | succ fuel ih =>
    intro listed a w inv hu hC h
    have hs := inv.size
    have hun := inv.tail m (Nat.le_refl _) hmlt
    by_cases hmr : m ∈ Region.ready md ops listed
    · have hd : ∀ i, i < m → listed.getD i true = true := fun i hi => by
        cases hx : listed.getD i true with
        | true => rfl
        | false => exact absurd hmr (tail_waits hkk.1 hkk.2 hmlt inv _ i rfl hi hx m (Nat.le_refl _))
      have hqa := qa_of_tail hsz hh ht hp (fuel + 1) listed a hs hd h
      have hf := fin_of (Nat.le_of_lt hmlt) inv hd
      rw [hf] at hu ⊢
      rw [unl_fin m ops.size (Nat.le_of_lt hmlt)] at hu
      have := hQ a w (fuel + 1 - (ops.size - m)) hC hqa
      rw [show ops.size - m + (fuel + 1 - (ops.size - m)) = fuel + 1 by omega] at this
      exact this
    · refine ⟨fun h0 => absurd h0 (some_ready hp hs m hmlt hun), fun i hi => ?_⟩
      have hq := h.2 i (by rw [ready_idles hsz hh ht]; exact hi)
      obtain ⟨hiun, oi, hoi, hall⟩ := mem_ready.1 hi
      have his : i < ops.size := (Array.getElem?_eq_some_iff.1 hoi).1
      have hlt : i < m := by
        refine Nat.lt_of_not_le fun him => ?_
        by_cases e : i = m
        · subst e; exact hmr hi
        · have h1 := List.all_eq_true.1 hkk.2 i (List.mem_range.2 his)
          simp only [Bool.or_eq_true, decide_eq_true_eq] at h1
          rcases h1 with h1 | h1
          · omega
          · obtain ⟨o', ho', e', he', hb', hon'⟩ := Region.waitsFor_spec h1
            have : o' = oi := Option.some.inj (ho'.symm.trans hoi)
            subst this
            have h2 := hall e' he' hb'
            rw [hon', getD_both (inv.tail (i - 1) (by omega) (by omega))] at h2
            cases h2
      unfold qOp at hq
      rw [hh i hlt, hoi] at hq
      simp only [] at hq
      have hwt := wanted_free (o := oi) (plain_spec hp hoi).1 (yielded ops a.tmps)
      have hwt' := wanted_free (o := oi) (plain_spec hp hoi).1 (yielded ops' a.tmps)
      rw [if_pos hwt'] at hq
      unfold wpOpIn
      simp only [hoi]
      rw [if_pos hwt]
      exact wpIn_of_quiet hL (calm_spec hcm hoi) hC (fun a' w' hw' hkq => ih (listed.setIfInBounds i true) a' w' (inv.set hi hlt) (by have := unl_set (listed := listed) (i := i) (by omega) hiun; omega) hw' hkq) hq
theorem wpIn_region_tail_lit (hL : Lets F n P) {id : Nat} {Q : Exit → Act → World → Prop} {a : Act} {w : World} {L : List Oper} (m : Nat) (C : World → Prop) (hn : m < L.length) (hm : P.follows .mixedOrders = true) (hC : C w.drew)
    (hp : plainB .any L.toArray = true) (hcm : calmB L.toArray = true) (hk : (Region.sinkB .any L.toArray m && Region.chainB .any L.toArray m) = true) (hs : Region.seqB .any L.toArray (L.drop m).length m (finAt m L.toArray.size) = true)
    (hB : Region.lexB .any (L.take m ++ (L.drop m).map idle).toArray = true)
    (h : wpQuiet P (L.take m ++ (L.drop m).map idle).toArray C (fun a' => ∀ w', C w' → wpListIn F n P L.toArray Q (L.drop m) a' w') (L.take m ++ (L.drop m).map idle) a) : (Code.region id L.toArray true).wpIn F n P Q a w := by
  have htl : (L.take m).length = m := by simp; omega
  have hsz : (L.take m ++ (L.drop m).map idle).toArray.size = L.toArray.size := by simp; omega
  have hh : ∀ i, i < m → (L.take m ++ (L.drop m).map idle).toArray[i]? = L.toArray[i]? := fun i hi => by
    rw [List.getElem?_toArray, List.getElem?_append_left (by omega), List.getElem?_toArray, List.getElem?_take, if_pos hi]
  have ht : ∀ i o, m ≤ i → L.toArray[i]? = some o → (L.take m ++ (L.drop m).map idle).toArray[i]? = some (idle o) := fun i o hi ho => by
    rw [List.getElem?_toArray] at ho
    rw [List.getElem?_toArray, List.getElem?_append_right (by omega), htl, List.getElem?_map, List.getElem?_drop, show m + (i - m) = i by omega, ho]; rfl
  simp only [Region.lexB, Bool.and_eq_true] at hB
  have inv0 : HeadInv .any L.toArray m (Array.replicate L.toArray.size false) :=
    ⟨by simp, fun j oj _ hl => (by rw [getD_replicate_false] at hl; cases hl), fun t _ ht => getD_in (by simpa using ht) (getD_replicate_false _ _)⟩
  refine wpIn_region_any hm (wpAnyIn_of_idles hL (C := C) (m := m) (Qa := fun a' => ∀ w', C w' → wpListIn F n P L.toArray Q (L.drop m) a' w') hsz hh ht (by simpa using hn) hp hcm hk (fun a w g hw hq => ?_) _ _ _ _ inv0 (unl_none _) hC ?_)
  · have e : L.toArray.size - m = (L.drop m).length := by simp
    rw [e]
    exact wpAnyIn_of_seq_more (L.drop m) m g _ a w (fun j => by rw [List.getElem?_toArray, List.getElem?_drop]) hs (hq w hw)
  · have := wpAnyQ_lex (C := C) (md := .any) hB.1 (L.take m ++ (L.drop m).map idle) 0 (Array.replicate (L.take m ++ (L.drop m).map idle).toArray.size false) a (by simp) (by simpa using hB.2) h
    rw [hsz] at this
    simpa [htl, Nat.add_sub_cancel' (Nat.le_of_lt hn)] using this
end
theorem lets_round (l m : Nat) {P : Program} : Lets (Fence.wide.inRound l) m P := ⟨fun _ => trivial, fun h => (by cases h), fun f args w R h => CallsIn.inRound l (callsIn_wide.2 h)⟩
end Go.Proofs.Ytpjegmmichjlbaa
