/- A memory of found bounds whose keys lie on a list: it never has more entries than the list. -/
import Derived.Test.YtlnelmickndoaaaDoorMem
import Derived.Maps.AppendAt
import Derived.DeepKeys4
import Derived.WideKeyPair
namespace Go.Proofs.YtlnelmickndoaaaDoor
set_option linter.unusedVariables false
set_option linter.unusedSimpArgs false
open Go Go.RowKit Go.Maps Go.ChangeMaps
open Go.WideElems (Fit rd rg pl rd_val elemAt)
theorem pig {α : Type} : ∀ (l L : List α), l.Pairwise (fun a b => a ≠ b) → (∀ x ∈ l, x ∈ L) → l.length ≤ L.length := by
  classical
  intro l
  induction l with
  | nil => intro L _ _; simp
  | cons x r ih =>
    intro L hp hs
    rw [List.pairwise_cons] at hp
    have hx : x ∈ L := hs x (by simp)
    have h := ih (L.erase x) hp.2 (fun y hy => (List.mem_erase_of_ne (fun e => hp.1 y hy e.symm)).2 (hs y (by simp [hy])))
    rw [List.length_erase_of_mem hx] at h
    have : 0 < L.length := List.length_pos_of_mem hx
    simp; omega
theorem mem_insert {H : Type} (x p : Lit × DataW H) : ∀ l : List (Lit × DataW H), p ∈ DataW.insert x l ↔ p = x ∨ p ∈ l
  | [] => by simp [DataW.insert]
  | y :: r => by
    unfold DataW.insert
    split
    · simp
    · simp [mem_insert x p r]; constructor
      · rintro (h | h | h) <;> simp [h]
      · rintro (h | h | h) <;> simp [h]
theorem mem_sorted {H : Type} (p : Lit × DataW H) : ∀ l : List (Lit × DataW H), p ∈ l.foldr DataW.insert [] ↔ p ∈ l
  | [] => by simp
  | y :: r => by rw [List.foldr_cons, mem_insert, mem_sorted p r]; simp
/-- Its keys lie on L. -/
def InL (L : List Lit) (D : DataW Unit) : Prop := ∀ es, D = .map es → ∀ p ∈ es, p.1 ∈ L
theorem inL_empty (L : List Lit) : InL L (.map []) := fun es h p hp => by cases h; simp at hp
theorem InL.put {L : List Lit} {D : DataW Unit} (h : InL L D) (hD : IsMap D) {k : Lit} (hk : k ∈ L) (d : DataW Unit) : InL L (D.put k d) := by
  obtain ⟨es, rfl⟩ := hD
  intro es' he p hp
  rw [DataW.put_eq] at he
  cases he
  unfold putKey at hp
  rcases (mem_insert _ _ _).1 hp with rfl | h2
  · exact hk
  · exact h es rfl p (List.mem_filter.1 h2).1
theorem ownsMap_tight {kt : TypeId} {w : World} {R : Value → Option (DataW Unit × List MemPlace)} {b n : Nat} {D : DataW Unit} (K : Keyed Tryd.prog kt) (h : w.ownsMap Tryd.prog kt R b n D) {L : List Lit} (hL : InL L D) : w.ownsMap Tryd.prog kt R b L.length D := by
  obtain ⟨es, clock, hb, F, hs, hD⟩ := h
  refine ⟨es, clock, hb, F, ?_, hD⟩
  have hp := fit_apart K F
  have h1 : ((es.toList.map (rg Tryd.prog kt R)).map (·.1)).length ≤ L.length := by
    refine pig _ _ (by rw [List.pairwise_map]; exact hp) (fun x hx => ?_)
    obtain ⟨p, hpm, rfl⟩ := List.mem_map.1 hx
    exact hL _ hD p ((mem_sorted p _).2 hpm)
  simpa using h1
/-- Every entry holds what R says of its key. -/
def RightR (R : Lit → Int → Prop) (D : DataW Unit) : Prop :=
  IsMap D ∧ ∀ k c, Maps.has D k = true → D.atKey k (.lit (.int .i64 0)) = .lit (.int .i64 c) → R k c
theorem RightR.put {R : Lit → Int → Prop} {D : DataW Unit} (h : RightR R D) (k : Lit) (hk : WideAt.IsKeyLit k) {v : Int} (hv : R k v) : RightR R (D.put k (.lit (.int .i64 v))) := by
  refine ⟨h.1.put _ _, fun k' c hh hc => ?_⟩
  by_cases e : k' = k
  · subst e
    rw [atKey_put_same h.1 hk] at hc
    simp at hc
    exact hc ▸ hv
  · rw [atKey_put_other e] at hc
    rw [has_put_other e] at hh
    exact h.2 k' c hh hc
/-- A good memory lies in block mb. -/
def Good (kt : TypeId) (R : Lit → Int → Prop) (L : List Lit) (mb : Nat) (w : World) : Prop :=
  ∃ D, w.ownsMap Tryd.prog kt (plainElem (H := Unit) Tryd.prog 2) mb L.length D ∧ RightR R D ∧ InL L D
theorem Good.kept {kt : TypeId} {R : Lit → Int → Prop} {L : List Lit} {mb : Nat} {w w' : World} {row : Option Nat} (h : Good kt R L mb w) (hg : w.grownBy w' row) (hne : some mb ≠ row) : Good kt R L mb w' := by
  obtain ⟨D, h1, h2⟩ := h
  exact ⟨D, h1.kept hg hne, h2⟩
theorem Good.alloc {kt : TypeId} {R : Lit → Int → Prop} {L : List Lit} {mb : Nat} {w : World} (h : Good kt R L mb w) (o : Obj) : Good kt R L mb (w.alloc o) := h.kept (World.grownBy_alloc w o none) (by simp)
theorem Good.drew {kt : TypeId} {R : Lit → Int → Prop} {L : List Lit} {mb : Nat} {w : World} (h : Good kt R L mb w) : Good kt R L mb w.drew := h
theorem good_new {kt : TypeId} (R : Lit → Int → Prop) (L : List Lit) {w : World} : Good kt R L w.heap.size (w.alloc (.map #[] 0)) :=
  ⟨.map [], (World.ownsMap_made w Tryd.prog kt _).mono (by omega), ⟨isMap_empty, fun k c h _ => by simp [Maps.has] at h⟩, inL_empty L⟩
theorem good_put {kt : TypeId} {k : Lit} {v : Int} {R : Lit → Int → Prop} {L : List Lit} {mb n : Nat} {w : World} {D : DataW Unit} (K : Keyed Tryd.prog kt) (h : w.ownsMap Tryd.prog kt (plainElem (H := Unit) Tryd.prog 2) mb n (D.put k (.lit (.int .i64 v)))) (hR : RightR R D) (hI : InL L D) (hk : WideAt.IsKeyLit k) (hv : R k v) (hL : k ∈ L) : Good kt R L mb w :=
  ⟨_, ownsMap_tight K h (hI.put hR.1 hL _), hR.put k hk hv, hI.put hR.1 hL _⟩
end Go.Proofs.YtlnelmickndoaaaDoor
