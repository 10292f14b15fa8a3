/- The function that hands out all faults of a part: its promise. -/
import Derived.Test.YtidengcihakijaaRng
namespace Go.Proofs.Ytidengcihakijaa
set_option linter.unusedVariables false
set_option linter.unusedSimpArgs false
open Go Go.RowKit Go.Shelf
attribute [local go_sem] Oper.semAt_some
theorem round_any {n n' l l' : Nat} {f : FuncId} {tmps : Array Value} {assign body : Code} {w : World} {R : Ending → World → Prop} (h : RoundIn Fence.wide n Try.prog l f tmps assign body w R) : RoundIn (Fence.wide.inRound l') n' Try.prog l f tmps assign body w R :=
  ⟨trivial, fun c cs _ => h.2 c cs (fun d hd => by cases hd)⟩
/-- A mark among the deferred calls. -/
def mk (D : Nat) : Deferred := { target := .collected D, args := #[] }
/-- The blocks of marks, each of them empty. -/
def Mks (B : Nat) (Ds : List Nat) (W : World) : Prop := Ds.Nodup ∧ ∀ D, D ∈ Ds → B ≤ D ∧ W.heap[D]? = some (.deferred (some []))
theorem Mks.nil (B : Nat) (W : World) : Mks B [] W := ⟨List.nodup_nil, fun D h => by cases h⟩
theorem Mks.lt {B : Nat} {Ds : List Nat} {W : World} (h : Mks B Ds W) {D : Nat} (hD : D ∈ Ds) : D < W.heap.size := (Array.getElem?_eq_some_iff.1 (h.2 D hD).2).1
theorem Mks.below {B C : Nat} {Ds : List Nat} {W W' : World} (h : Mks B Ds W) (hC : ∀ D, D ∈ Ds → D < C) (hb : Below C W W') : Mks B Ds W' := ⟨h.1, fun D hD => ⟨(h.2 D hD).1, (hb.block D (hC D hD)).trans (h.2 D hD).2⟩⟩
theorem Mks.kx {B : Nat} {bs Ds : List Nat} {W W' : World} (h : Mks B Ds W) (hk : Kx bs B W W') : Mks B Ds W' := ⟨h.1, fun D hD => ⟨(h.2 D hD).1, (hk.2 D (h.lt hD) (.inl (h.2 D hD).1)).trans (h.2 D hD).2⟩⟩
theorem Mks.cons {B D : Nat} {Ds : List Nat} {W : World} (h : Mks B Ds W) (hB : B ≤ D) (hn : ¬ D ∈ Ds) (hD : W.heap[D]? = some (.deferred (some []))) : Mks B (D :: Ds) W :=
  ⟨List.nodup_cons.2 ⟨hn, h.1⟩, fun E hE => by
    rcases List.mem_cons.1 hE with rfl | hE
    · exact ⟨hB, hD⟩
    · exact h.2 E hE⟩
/-- A function without results leaves: its marks are taken one by one. -/
theorem leave_marks {n : Nat} {fn : Func} {tmps : Array Value} {R : Ending → World → Prop} {B : Nat} {v : Value} : ∀ (Ds : List Nat) (W : World), Mks B Ds W →
    (∀ W', Below B W W' → CKept W W' → (results fn tmps).run Try.prog W' = .ok v W' ∧ R (.returned v) W') → LeavesInM Fence.wide n Try.prog fn tmps R (Ds.map mk) .returning W
  | [], W, _, h => ⟨v, (h W (Below.refl _ _) (CKept.refl _)).1, (h W (Below.refl _ _) (CKept.refl _)).2⟩
  | D :: Ds, W, hm, h => by
    have hD := hm.2 D (by simp)
    have hn := List.nodup_cons.1 hm.1
    refine ⟨by simp, .inl ⟨D, _, rfl, run_takeDeferred hD.2, ?_⟩⟩
    refine leave_marks Ds _ ⟨hn.2, fun E hE => ⟨(hm.2 E (by simp [hE])).1, ?_⟩⟩ (fun W' hb hc => h W' ((below_put _ hD.1).trans hb) ((CKept.put hD.2 rfl _).trans hc))
    exact (World.putObj_heap_other (fun e => hn.1 (by rw [← e]; exact hE))).trans (hm.2 E (by simp [hE])).2
end Go.Proofs.Ytidengcihakijaa
