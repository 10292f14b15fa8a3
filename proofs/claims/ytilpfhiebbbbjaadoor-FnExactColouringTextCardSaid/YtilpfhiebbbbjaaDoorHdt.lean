/- Regions inside a fence that draw their order: HeldIn and HeldTail, carried over from YtkiocedhibeieaaDoorHh. -/
import Derived.Test.YtilpfhiebbbbjaaDoorGc
import Derived.Deep.RegionHeld2
/- Inside a fence, in a round too: a region that draws its order; what yields in every world that meets S is taken first. -/
namespace Go.Proofs.YtilpfhiebbbbjaaDoor
set_option linter.unusedVariables false
set_option linter.unusedSimpArgs false
open Go
section
variable {F : Fence} {n : Nat} {P : Program} {md : Region.Mode} {ops : Array Oper} {Q : Exit → Act → World → Prop} {S : World → Prop}
theorem yieldsIf_wpOpIn (hL : Lets F n P) {i : Nat} {o : Oper} {v : Value} {a : Act} (hi : ops[i]? = some o) (hdf : ∀ c, o.op ≠ .defer c) (hy : YieldsIf P ops S o v a)
    {K : Act → World → Prop} {w : World} (hS : S w) (h : K (a.put o.dst v) w) : wpOpIn F n P ops Q i K a w := by
  unfold Go.wpOpIn
  simp only [hi]
  rcases hy with ⟨hw, hv⟩ | ⟨hw, rfl⟩
  · simp only [hw, if_true, Oper.wpIn]
    rw [Oper.semAt_eq _ _ _ hdf, hv w hS]
    exact ⟨fun f _ => hL.fn f, h⟩
  · simp only [hw, Bool.false_eq_true, if_false]; exact ⟨fun f _ => hL.fn f, h⟩
theorem wpOpIn_putIf (hL : Lets F n P) {j : Nat} {oi oj : Oper} {v : Value} (hj : ops[j]? = some oj) (hdj : ∀ c, oj.op ≠ .defer c) (hap : oi.apart ops oj = true)
    (hsi : ∀ cs b, oi.op ≠ .select cs b) (hsj : ∀ cs b, oj.op ≠ .select cs b)
    (hQ : ∀ c a w, Q (.panic c) (a.put oi.dst v) w → Q (.panic c) a w) {K : Act → World → Prop} {a : Act} {w : World}
    (hy : YieldsIf P ops S oi v a) (h : wpOpIn F n P ops Q j K (a.put oi.dst v) w) :
    wpOpIn F n P ops Q j (fun a' w' => YieldsIf P ops S oi v a' ∧ K (a'.put oi.dst v) w') a w := by
  obtain ⟨h1, h2, h3⟩ := Oper.apart_spec hap
  have keep : ∀ (a : Act), YieldsIf P ops S oi v a → ∀ u, YieldsIf P ops S oi v (a.put oj.dst u) := fun a hy u =>
    hy.of_same (execOp_put oi hsi a oj.dst u h3) (wanted_put oi a oj.dst u h3)
  have keepD : ∀ d, YieldsIf P ops S oi v { a with defers := d :: a.defers } := fun d => hy.of_same rfl rfl
  unfold wpOpIn at *
  simp only [hj] at *
  rw [wanted_put oj a oi.dst v h1, about_put oj w a oi.dst v h1] at h
  split
  · rename_i hw
    simp only [hw, if_true] at h
    unfold Oper.wpIn at *
    rw [about_put oj w a oi.dst v h1] at h
    refine ⟨h.1, ?_⟩
    have h := h.2
    rw [Oper.semAt_eq _ _ _ hdj, execOp_put oj hsj a oi.dst v h1] at h
    rw [Oper.semAt_eq _ _ _ hdj]
    generalize (execOp a.eval oj).run P w = r at *
    cases r with
    | ok x w' =>
      cases x <;> simp only [Oper.uponIn] at h ⊢
      case value u => exact ⟨keep a hy u, by rw [← Act.put_comm a v u h2]; exact h⟩
      case skip => exact ⟨keep a hy _, by rw [← Act.put_comm a v undef h2]; exact h⟩
      case defer d =>
        refine ⟨keep _ (keepD d) _, ?_⟩
        rw [← Act.put_comm _ v undef h2, ← Act.put_defers]
        exact h
      case enter f args =>
        refine ⟨h.1, CallsIn.mono h.2 fun e w'' he => ?_⟩
        cases e with
        | returned u => exact ⟨keep a hy u, by rw [← Act.put_comm a v u h2]; exact he⟩
        | panicked c => exact hQ _ _ _ he
        | outgrown => exact he
      case row row args => exact ⟨h.1, RowsIn.mono h.2 fun u w'' he => ⟨keep a hy u, by rw [← Act.put_comm a v u h2]; exact he⟩⟩
      case round l f tmps assign body =>
        refine ⟨h.1, RoundIn.mono h.2 fun e w'' he => ?_⟩
        cases e with
        | returned u => exact ⟨keep a hy u, by rw [← Act.put_comm a v u h2]; exact he⟩
        | panicked c => exact hQ _ _ _ he
        | outgrown => exact he
    | halt x w' =>
      cases x <;> simp only [Oper.uponIn] at h ⊢
      case panic u => exact hQ _ _ _ h
  · rename_i hw
    simp only [hw] at h
    exact ⟨h.1, keep a hy _, by rw [← Act.put_comm a v undef h2]; exact h.2⟩
def wpAnyHI (F : Fence) (n : Nat) (P : Program) (md : Region.Mode) (ops : Array Oper) (Q : Exit → Act → World → Prop) (S : World → Prop) : Nat → Array Bool → Act → World → Prop
  | 0, listed, a, w => Region.ready md ops listed = [] ∧ Q .normal a w
  | fuel + 1, listed, a, w =>
    (Region.ready md ops listed = [] → Q .normal a w) ∧
    ∀ i ∈ Region.ready md ops listed, wpOpIn F n P ops Q i (fun a' w' => S w' ∧ wpAnyHI F n P md ops Q S fuel (listed.setIfInBounds i true) a' w') a w
theorem wpAnyIn_of_held : ∀ (fuel : Nat) (listed : Array Bool) (a : Act) (w : World), wpAnyHI F n P md ops Q S fuel listed a w → wpAnyIn F n P md ops Q fuel listed a w
  | 0, _, _, _, h => h
  | fuel + 1, _, _, _, h => ⟨h.1, fun i hi => wpOpIn_mono (fun a' w' h' => wpAnyIn_of_held fuel _ a' w' h'.2) (h.2 i hi)⟩
theorem wpAnyHI_first (hL : Lets F n P) (hcm : calmB ops = true) {i : Nat} {oi : Oper} {v : Value} (hi : ops[i]? = some oi) (hsel : ∀ (j : Nat) (o : Oper) cs b, ops[j]? = some o → o.op ≠ .select cs b)
    (hQ : ∀ c a w, Q (.panic c) (a.put oi.dst v) w → Q (.panic c) a w) :
    ∀ (fuel : Nat) (listed : Array Bool) (a : Act) (w : World),
      (∀ j oj, ops[j]? = some oj → j ≠ i → listed.getD j true = false → (∀ e ∈ oj.after, Region.binds md e = true → e.on ≠ i) → oi.apart ops oj = true) →
      i ∈ Region.ready md ops listed → YieldsIf P ops S oi v a → S w →
      wpAnyHI F n P md ops Q S fuel (listed.setIfInBounds i true) (a.put oi.dst v) w → wpAnyHI F n P md ops Q S (fuel + 1) listed a w := by
  intro fuel
  induction fuel with
  | zero =>
    intro listed a w _ hr hy hS H
    refine ⟨fun h => (by rw [h] at hr; cases hr), fun j hj => ?_⟩
    by_cases hji : j = i
    · subst hji; exact yieldsIf_wpOpIn hL hi (calm_spec hcm hi) hy hS ⟨hS, H⟩
    · have := ready_mono hj hji
      rw [H.1] at this
      cases this
  | succ fuel ih =>
    intro listed a w hfree hr hy hS H
    refine ⟨fun h => (by rw [h] at hr; cases hr), fun j hj => ?_⟩
    by_cases hji : j = i
    · subst hji; exact yieldsIf_wpOpIn hL hi (calm_spec hcm hi) hy hS ⟨hS, H⟩
    · have h1 := H.2 j (ready_mono hj hji)
      obtain ⟨hjun, oj, hoj, hall⟩ := mem_ready.1 hj
      have hnot : ∀ e ∈ oj.after, Region.binds md e = true → e.on ≠ i := fun e he hb heq => by
        have h1 := hall e he hb
        have h0 := (mem_ready.1 hr).1
        rw [heq] at h1
        rcases Nat.lt_or_ge i listed.size with h' | h'
        · simp [h'] at h0 h1; rw [h0] at h1; cases h1
        · simp [Array.getElem?_eq_none h'] at h1
      have h2 := wpOpIn_putIf hL hoj (calm_spec hcm hoj) (hfree j oj hoj hji hjun hnot) (fun cs b => hsel i oi cs b hi) (fun cs b => hsel j oj cs b hoj) hQ hy h1
      have hfree' : ∀ k ok, ops[k]? = some ok → k ≠ i → (listed.setIfInBounds j true).getD k true = false →
          (∀ e ∈ ok.after, Region.binds md e = true → e.on ≠ i) → oi.apart ops ok = true := fun k ok hk hki hun hno => by
        refine hfree k ok hk hki ?_ hno
        by_cases hjk : j = k
        · subst hjk; exact hjun
        · rw [getD_set_ne true hjk] at hun; exact hun
      refine wpOpIn_mono (fun a' w' h3 => ⟨h3.2.1, ih (listed.setIfInBounds j true) a' w' hfree' (ready_mono hr (Ne.symm hji)) h3.1 h3.2.1 ?_⟩) h2
      rw [Array.setIfInBounds_comm _ _ hji]
      exact h3.2.2
theorem wpAnyHI_take (hL : Lets F n P) (hcm : calmB ops = true) {i : Nat} {oi : Oper} {v : Value} {fuel : Nat} {listed : Array Bool} {a : Act} {w : World} (hi : ops[i]? = some oi)
    (hs : Region.noSelect ops = true) (hf : Region.free md ops listed i = true) (hr : (Region.ready md ops listed).contains i = true)
    (hQ : ∀ c a w, Q (.panic c) (a.put oi.dst v) w → Q (.panic c) a w) (hy : YieldsIf P ops S oi v a) (hS : S w)
    (h : wpAnyHI F n P md ops Q S fuel (listed.setIfInBounds i true) (a.put oi.dst v) w) : wpAnyHI F n P md ops Q S (fuel + 1) listed a w :=
  wpAnyHI_first hL hcm hi (Region.noSelect_spec hs) hQ fuel listed a w (Region.free_spec hi hf) (by simpa using hr) hy hS h
def AllReadyHI (F : Fence) (n : Nat) (P : Program) (md : Region.Mode) (ops : Array Oper) (Q : Exit → Act → World → Prop) (S : World → Prop) (fuel : Nat) (listed : Array Bool) (a : Act) (w : World) (rs : List Nat) : Prop :=
  ∀ i ∈ rs, wpOpIn F n P ops Q i (fun a' w' => S w' ∧ wpAnyHI F n P md ops Q S fuel (listed.setIfInBounds i true) a' w') a w
theorem AllReadyHI.nil {fuel : Nat} {listed : Array Bool} {a : Act} {w : World} : AllReadyHI F n P md ops Q S fuel listed a w [] := fun _ h => by cases h
theorem AllReadyHI.cons {fuel : Nat} {listed : Array Bool} {a : Act} {w : World} {i : Nat} {o : Oper} {rs : List Nat} (ho : ops[i]? = some o)
    (h : ∀ K' : Act → World → Prop, Shut (∀ a w, S w → (S w → wpAnyHI F n P md ops Q S fuel (listed.setIfInBounds i true) a w) → K' a w) → if Region.wanted o (yielded ops a.tmps) = true then Oper.wpIn F n P o a w K' Q else (∀ f, o.about P w a.eval = some f → F.fn f) ∧ K' (a.put o.dst undef) w)
    (hs : AllReadyHI F n P md ops Q S fuel listed a w rs) : AllReadyHI F n P md ops Q S fuel listed a w (i :: rs) := fun j hj => by
  rcases List.mem_cons.1 hj with rfl | hj
  · exact wpOpIn_step ho (fun K' hK => h K' (fun a w hS hW => hK a w ⟨hS, hW hS⟩))
  · exact hs j hj
theorem wpAnyHI_ready {rs : List Nat} {fuel : Nat} {listed : Array Bool} {a : Act} {w : World} (hr : Region.ready md ops listed = rs) (hne : rs ≠ [])
    (h : AllReadyHI F n P md ops Q S fuel listed a w rs) : wpAnyHI F n P md ops Q S (fuel + 1) listed a w := ⟨fun h0 => absurd (hr ▸ h0) hne, hr ▸ h⟩
theorem wpAnyHI_done {listed : Array Bool} {a : Act} {w : World} (hr : Region.ready md ops listed = []) (h : Q .normal a w) :
    ∀ fuel, wpAnyHI F n P md ops Q S fuel listed a w
  | 0 => ⟨hr, h⟩
  | _ + 1 => ⟨fun _ => h, by rw [hr]; simp⟩
theorem wpIn_region_held_drew {id : Nat} {a : Act} {w : World} (hm : P.follows .mixedOrders = true) (hS : S w.drew)
    (h : S w.drew → wpAnyHI F n P .any ops Q S ops.size (Array.replicate ops.size false) a w.drew) : (Code.region id ops true).wpIn F n P Q a w :=
  wpIn_region_any hm (wpAnyIn_of_held _ _ _ _ (h hS))
end
end Go.Proofs.YtilpfhiebbbbjaaDoor
/- Inside a fence, in a round too: a region that draws its order: a head whose reads are taken first (HeldIn), a tail that waits for it. -/
namespace Go.Proofs.YtilpfhiebbbbjaaDoor
set_option linter.unusedVariables false
set_option linter.unusedSimpArgs false
open Go
section
variable {F : Fence} {n : Nat} {P : Program} {md : Region.Mode} {ops ops' : Array Oper} {S : World → Prop}
/-- What is asked behind the head; an end other than the normal one is as it was. -/
def endQ (Qt : Act → World → Prop) (Q : Exit → Act → World → Prop) (e : Exit) (a : Act) (w : World) : Prop :=
  match e with
  | .normal => Qt a w
  | e => Q e a w
theorem letsOut_endQ {Qt : Act → World → Prop} {Q : Exit → Act → World → Prop} (h : LetsOut (endQ Qt Q)) : LetsOut Q := h
theorem wpIn_endQ {o : Oper} {a : Act} {K K' : Act → World → Prop} {Qt : Act → World → Prop} {Q : Exit → Act → World → Prop} {w : World} (hK : ∀ a w, K a w → K' a w) (h : o.wpIn F n P a w K (endQ Qt Q)) : o.wpIn F n P a w K' Q := by
  unfold Oper.wpIn at *
  refine ⟨h.1, ?_⟩
  have hh := h.2
  generalize (o.semAt F.round a.eval).run P w = r at *
  cases r with
  | ok x w' =>
    cases x <;> simp only [Oper.uponIn] at hh ⊢
    case value u => exact hK _ _ hh
    case skip => exact hK _ _ hh
    case defer d => exact hK _ _ hh
    case enter f args =>
      refine ⟨hh.1, CallsIn.mono hh.2 fun e w'' he => ?_⟩
      cases e with
      | returned u => exact hK _ _ he
      | panicked c => exact he
      | outgrown => exact letsOut_endQ he
    case row row args => exact ⟨hh.1, RowsIn.mono hh.2 fun u w'' he => hK _ _ he⟩
    case round l f tmps assign body =>
      refine ⟨hh.1, RoundIn.mono hh.2 fun e w'' he => ?_⟩
      cases e with
      | returned u => exact hK _ _ he
      | panicked c => exact he
      | outgrown => exact letsOut_endQ he
  | halt x w' =>
    cases x <;> simp only [Oper.uponIn] at hh ⊢
    case panic u => exact hh
theorem qt_of_tail {m : Nat} {Qt : Act → World → Prop} {Q : Exit → Act → World → Prop} (hsz : ops'.size = ops.size) (hh : ∀ i, i < m → ops'[i]? = ops[i]?) (ht : ∀ i o, m ≤ i → ops[i]? = some o → ops'[i]? = some (idle o)) (hp : plainB md ops = true) :
    ∀ (fuel : Nat) (listed : Array Bool) (a : Act) (w : World), listed.size = ops.size → (∀ i, i < m → listed.getD i true = true) → wpAnyHI F n P md ops' (endQ Qt Q) S fuel listed a w → Qt a w
  | 0, _, _, _, _, _, h => h.2
  | fuel + 1, listed, a, w, hs, hd, h => by
    cases hr : Region.ready md ops' listed with
    | nil => exact h.1 hr
    | cons i r =>
      have hi : i ∈ Region.ready md ops' listed := by rw [hr]; exact List.mem_cons_self
      have hi2 := hi
      rw [ready_idles hsz hh ht] at hi2
      obtain ⟨hun, o, ho, _⟩ := mem_ready.1 hi2
      have him : m ≤ i := Nat.le_of_not_lt fun hlt => by rw [hd i hlt] at hun; cases hun
      have hq := h.2 i hi
      unfold wpOpIn at hq
      rw [ht i o him ho] at hq
      simp only [] at hq
      rw [if_pos (wanted_free (o := idle o) (plain_spec hp ho).1 _)] at hq
      have h2 := hq.2
      rw [Oper.semAt_eq _ _ _ (fun c e => by cases e)] at h2
      have h4 : wpAnyHI F n P md ops' (endQ Qt Q) S fuel (listed.setIfInBounds i true) a w := h2.2
      exact qt_of_tail hsz hh ht hp fuel _ a w (by rw [Array.size_setIfInBounds]; exact hs) (fun j hj => by rw [getD_set_ne true (by omega)]; exact hd j hj) h4
theorem wpAnyIn_of_idlesH {m : Nat} {Qt : Act → World → Prop} {Q' : Exit → Act → World → Prop} (hsz : ops'.size = ops.size) (hh : ∀ i, i < m → ops'[i]? = ops[i]?) (ht : ∀ i o, m ≤ i → ops[i]? = some o → ops'[i]? = some (idle o))
    (hmlt : m < ops.size) (hp : plainB md ops = true) (hk : (Region.sinkB md ops m && Region.chainB md ops m) = true)
    (hQ : ∀ a w g, Qt a w → wpAnyIn F n P md ops Q' (ops.size - m + g) (finAt m ops.size) a w) :
    ∀ (fuel : Nat) (listed : Array Bool) (a : Act) (w : World), HeadInv md ops m listed → unl listed ≤ fuel →
      wpAnyHI F n P md ops' (endQ Qt Q') S fuel listed a w → wpAnyIn F n P md ops Q' fuel listed a w := by
  have hkk := hk
  rw [Bool.and_eq_true] at hkk
  intro fuel
  induction fuel with
  | zero =>
    intro listed a w inv hu h
    have hs := inv.size
    have hun := inv.tail m (Nat.le_refl _) hmlt
    have := h.1
    rw [ready_idles hsz hh ht] at this
    exact absurd this (some_ready hp hs m hmlt hun)
  | succ fuel ih =>
    intro listed a w inv hu h
    have hs := inv.size
    have hun := inv.tail m (Nat.le_refl _) hmlt
    by_cases hmr : m ∈ Region.ready md ops listed
    · have hd : ∀ i, i < m → listed.getD i true = true := fun i hi => by
        cases hx : listed.getD i true with
        | true => rfl
        | false => exact absurd hmr (tail_waits hkk.1 hkk.2 hmlt inv _ i rfl hi hx m (Nat.le_refl _))
      have hqa := qt_of_tail hsz hh ht hp (fuel + 1) listed a w hs hd h
      have hf := fin_of (Nat.le_of_lt hmlt) inv hd
      rw [hf] at hu ⊢
      rw [unl_fin m ops.size (Nat.le_of_lt hmlt)] at hu
      have := hQ a w (fuel + 1 - (ops.size - m)) hqa
      rw [show ops.size - m + (fuel + 1 - (ops.size - m)) = fuel + 1 by omega] at this
      exact this
    · refine ⟨fun h0 => absurd h0 (some_ready hp hs m hmlt hun), fun i hi => ?_⟩
      have hq := h.2 i (by rw [ready_idles hsz hh ht]; exact hi)
      obtain ⟨hiun, oi, hoi, hall⟩ := mem_ready.1 hi
      have his : i < ops.size := (Array.getElem?_eq_some_iff.1 hoi).1
      have hlt : i < m := by
        refine Nat.lt_of_not_le fun him => ?_
        by_cases e : i = m
        · subst e; exact hmr hi
        · have h1 := List.all_eq_true.1 hkk.2 i (List.mem_range.2 his)
          simp only [Bool.or_eq_true, decide_eq_true_eq] at h1
          rcases h1 with h1 | h1
          · omega
          · obtain ⟨o', ho', e', he', hb', hon'⟩ := Region.waitsFor_spec h1
            have : o' = oi := Option.some.inj (ho'.symm.trans hoi)
            subst this
            have h2 := hall e' he' hb'
            rw [hon', getD_both (inv.tail (i - 1) (by omega) (by omega))] at h2
            cases h2
      unfold wpOpIn at hq ⊢
      rw [hh i hlt, hoi] at hq
      simp only [hoi] at hq ⊢
      rw [if_pos (wanted_free (plain_spec hp hoi).1 _)] at hq ⊢
      exact wpIn_endQ (fun a' w' hkq => ih (listed.setIfInBounds i true) a' w' (inv.set hi hlt) (by have := unl_set (listed := listed) (i := i) (by omega) hiun; omega) hkq.2) hq
/-- The head: m operations, S kept; then the tail, in the text's order. -/
theorem wpIn_region_heldtail {id : Nat} {Q : Exit → Act → World → Prop} {a : Act} {w : World} {L : List Oper} (m : Nat) (S : World → Prop) (hn : m < L.length) (hm : P.follows .mixedOrders = true)
    (hp : plainB .any L.toArray = true) (hk : (Region.sinkB .any L.toArray m && Region.chainB .any L.toArray m) = true) (hs : Region.seqB .any L.toArray (L.drop m).length m (finAt m L.toArray.size) = true)
    (hS : S w.drew)
    (h : S w.drew → wpAnyHI F n P .any (L.take m ++ (L.drop m).map idle).toArray (endQ (fun a' w' => wpListIn F n P L.toArray Q (L.drop m) a' w') Q) S L.toArray.size (Array.replicate L.toArray.size false) a w.drew) : (Code.region id L.toArray true).wpIn F n P Q a w := by
  have htl : (L.take m).length = m := by simp; omega
  have hsz : (L.take m ++ (L.drop m).map idle).toArray.size = L.toArray.size := by simp; omega
  have hh : ∀ i, i < m → (L.take m ++ (L.drop m).map idle).toArray[i]? = L.toArray[i]? := fun i hi => by
    rw [List.getElem?_toArray, List.getElem?_append_left (by omega), List.getElem?_toArray, List.getElem?_take, if_pos hi]
  have ht : ∀ i o, m ≤ i → L.toArray[i]? = some o → (L.take m ++ (L.drop m).map idle).toArray[i]? = some (idle o) := fun i o hi ho => by
    rw [List.getElem?_toArray] at ho
    rw [List.getElem?_toArray, List.getElem?_append_right (by omega), htl, List.getElem?_map, List.getElem?_drop, show m + (i - m) = i by omega, ho]; rfl
  have inv0 : HeadInv .any L.toArray m (Array.replicate L.toArray.size false) :=
    ⟨by simp, fun j oj _ hl => (by rw [getD_replicate_false] at hl; cases hl), fun t _ ht => getD_in (by simpa using ht) (getD_replicate_false _ _)⟩
  refine wpIn_region_any hm (wpAnyIn_of_idlesH (S := S) (m := m) (Qt := fun a' w' => wpListIn F n P L.toArray Q (L.drop m) a' w') hsz hh ht (by simpa using hn) hp hk (fun a w g hq => ?_) _ _ _ _ inv0 (unl_none _) (h hS))
  have e : L.toArray.size - m = (L.drop m).length := by simp
  rw [e]
  exact wpAnyIn_of_seq_more (L.drop m) m g _ a w (fun j => by rw [List.getElem?_toArray, List.getElem?_drop]) hs hq
end
end Go.Proofs.YtilpfhiebbbbjaaDoor
