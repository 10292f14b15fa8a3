/- Marks laid into a list. -/
import Derived.Test.YtidengcihakijaaGe
/- Marks laid into a list: no other block turns. -/
namespace Go.Proofs.Ytidengcihakijaa
set_option linter.unusedVariables false
set_option linter.unusedSimpArgs false
open Go Go.RowKit
/-- Nothing has turned but the block at which a list lies. -/
def Only (a : Option Addr) (w w' : World) : Prop := (∀ B, B ≤ w.heap.size → (∀ p, a = some p → B ≤ p.block) → Below B w w') ∧ ∀ b, (∀ p, a = some p → b ≠ p.block) → w'.heap[b]? = w.heap[b]?
theorem Only.refl (a : Option Addr) (w : World) : Only a w w := ⟨fun B h _ => Below.refl _ _, fun _ _ => rfl⟩
theorem Only.blk {a : Option Addr} {w w' : World} (h : Only a w w') {b : Nat} {C : Array Value} {t : TypeId} (hb : Blk w b C t) (hne : ∀ p, a = some p → b ≠ p.block) : Blk w' b C t := by
  unfold Blk at *
  rw [h.2 b hne]; exact hb
theorem Only.own {a : Option Addr} {w w' : World} (h : Only a w w') {B : Nat} {a2 : Option Addr} {zs : List Int} (ho : OwnL w B a2 zs) (hne : ∀ p q, a = some p → a2 = some q → q.block ≠ p.block) : OwnL w' B a2 zs := by
  rcases ho with ho | ⟨g, C, h1, h2, h3, h4⟩
  · exact .inl ho
  · exact .inr ⟨g, C, h1, h2, h.blk h3 (fun p hp => hne p _ hp h2), h4⟩
/-- The same of a list that may be empty. -/
def MkOnly (zs : List Int) (a : Option Addr) (w w' : World) : Prop := (zs ≠ [] → Only a w w') ∧ (zs = [] → w = w')
theorem MkOnly.below {zs : List Int} {a : Option Addr} {w w' : World} (h : MkOnly zs a w w') {B : Nat} (ho : OwnL w B a zs) (hB : B ≤ w.heap.size) : Below B w w' := by
  by_cases e : zs = []
  · rw [← h.2 e]; exact Below.refl _ _
  · refine (h.1 e).1 B hB ?_
    rcases ho with ho | ⟨g, C, h1, h2, _⟩
    · exact absurd ho e
    · intro p hp; rw [h2] at hp; cases hp; exact h1
theorem MkOnly.own {zs : List Int} {a : Option Addr} {w w' : World} (h : MkOnly zs a w w') {B : Nat} {a2 : Option Addr} {zs2 : List Int} (ho : OwnL w B a2 zs2) (hne : zs ≠ [] → zs2 ≠ [] → ∀ p q, a = some p → a2 = some q → q.block ≠ p.block) : OwnL w' B a2 zs2 := by
  by_cases e : zs = []
  · rw [← h.2 e]; exact ho
  · by_cases e2 : zs2 = []
    · exact .inl e2
    · exact (h.1 e).own ho (hne e e2)
theorem MkOnly.blk {zs : List Int} {a : Option Addr} {w w' : World} (h : MkOnly zs a w w') {b : Nat} {C : Array Value} {t : TypeId} (hb : Blk w b C t) (hne : zs ≠ [] → ∀ p, a = some p → b ≠ p.block) : Blk w' b C t := by
  by_cases e : zs = []
  · rw [← h.2 e]; exact hb
  · exact (h.1 e).blk hb (hne e)
theorem MkOnly.size {zs : List Int} {a : Option Addr} {w w' : World} (h : MkOnly zs a w w') {B : Nat} (ho : OwnL w B a zs) (hB : B ≤ w.heap.size) : w.heap.size ≤ w'.heap.size := (h.below ho hB).size
def RelM2 (C : Array Value) (k : Int) (g : Nat) (w : World) (j : Nat) (D : Array Value) (wr : World) : Prop :=
  Blk wr g D 2 ∧ D.size = C.size ∧ (∀ m, m < j → D[m]? = some (.int .i64 (k + (m : Int)))) ∧ Below g w wr ∧ ∀ b, b ≠ g → wr.heap[b]? = w.heap[b]?
set_option maxRecDepth 100000 in
set_option maxHeartbeats 400000 in
theorem mark29o (n : Nat) (a : Option Addr) (cap : Nat) (B : Nat) (k : Int) (zs : List Int) (w : World) (hz : zs.length = n) (h : OwnL w B a zs) (hn : n ≤ 1048576) (hk0 : 0 ≤ k) (hk1 : k ≤ 1048576) :
    Calls Try.prog 9 #[.slice a n cap, .int .i64 k] w fun e w' => e = .returned (.int .i64 (k + n)) ∧ OwnL w' B a (marks k n) ∧ MkOnly zs a w w' := by
  rcases h with h | ⟨g, C, h1, h2, h3, h4, h5⟩
  · subst h
    simp at hz
    subst hz
    go_enter Try.func9, Try.ntmps9
    go_wp2
    refine wp_loop_rounds 1 ?_
    rw [rounds_succ]
    go_wp2
    go_ret
    exact ⟨by simp, .inl rfl, fun h => absurd rfl h, fun _ => rfl⟩
  · subst h2
    rw [hz] at h4
    have HNZ := hidd (show zs = [] → n = 0 from fun e => by rw [← hz, e]; rfl)
    clear h5 hz
    have hk := h3.lt
    go_enter Try.func9, Try.ntmps9
    go_wp2_with fail
    go_loopw [1, 5] (fun kk i wr => ∃ j : Nat, j ≤ n ∧ i = .int .i64 j ∧ kk = .int .i64 (k + j) ∧ Hid ((∃ D, RelM2 C k g w j D wr) ∧ (j = 0 → w = wr))) (fun _ i _ => n - (intOf i).toNat)
    case atStart => exact ⟨0, by omega, rfl, by simp, ⟨C, h3, rfl, fun m hm => absurd hm (by omega), Below.refl _ _, fun _ _ => rfl⟩, fun _ => rfl⟩
    case round =>
      obtain ⟨j, hj, rfl, rfl, HD⟩ := hrel
      obtain ⟨D, HR0⟩ := HD.out.1
      have HJ := hidd HD.out.2
      have HR := hidd HR0
      clear HD HR0
      by_cases hlt : j < n
      · obtain ⟨old, ho⟩ : ∃ old, wr.cell? ⟨g, j, none⟩ = some old := ⟨_, HR.out.1.cell (Array.getElem?_eq_getElem (by rw [HR.out.2.1]; omega))⟩
        have hf := HR.out.1.fro j
        have K := hidd (show RelM2 C k g w (j + 1) (D.setIfInBounds j (.int .i64 (k + (j : Int)))) (wr.setCell ⟨g, j, none⟩ (.int .i64 (k + (j : Int)))) from
          ⟨HR.out.1.same _ _, by simp [HR.out.2.1], fun m hm => by
            rw [Array.getElem?_setIfInBounds]
            by_cases e : j = m
            · subst e; rw [if_pos rfl, if_pos (by rw [HR.out.2.1]; omega)]
            · rw [if_neg e]; exact HR.out.2.2.1 m (by omega), HR.out.2.2.2.1.setCell (Nat.le_refl _) _, fun b hb => (heap_setCell_other wr ⟨g, j, none⟩ b _ hb).trans (HR.out.2.2.2.2 b hb)⟩)
        clear HR
        go_wp2_with fail
        go_roundw
        case rel => exact ⟨j + 1, by omega, by go_num, by congr 1; omega, ⟨_, K.out⟩, fun e => by omega⟩
        case measure => simp [intOf]; omega
      · have hje : j = n := by omega
        subst hje
        go_wp2_with fail
        go_ret
        exact ⟨rfl, .inr ⟨g, D, h1, rfl, HR.out.1, by rw [marks_len, HR.out.2.1]; exact h4, fun m hm => by
          rw [marks_len] at hm
          rw [HR.out.2.2.1 m hm, marks_get hm]⟩, fun _ => ⟨fun B' _ hB' => HR.out.2.2.2.1.mono (hB' _ rfl), fun b hb => HR.out.2.2.2.2 b (hb _ rfl)⟩, fun e => HJ.out (HNZ.out e)⟩
theorem OwnL.ge {w : World} {B : Nat} {a : Option Addr} {zs : List Int} (h : OwnL w B a zs) (h0 : zs ≠ []) : ∀ p, a = some p → B ≤ p.block := by
  rcases h with h | ⟨g, C, h1, h2, _⟩
  · exact absurd h h0
  · intro p hp; rw [h2] at hp; cases hp; exact h1
theorem OwnL.bas {w : World} {B B' : Nat} {a : Option Addr} {zs : List Int} (h : OwnL w B a zs) (hB : B' ≤ B) : OwnL w B' a zs := by
  rcases h with h | ⟨g, C, h1, h2⟩
  · exact .inl h
  · exact .inr ⟨g, C, by omega, h2⟩
theorem own_blk0 {w : World} {b : Nat} {zs : List Int} {B : Nat} (h : Blk w b (icells zs).toArray 2) (hB : B ≤ b) : OwnL w B (some ⟨b, 0, none⟩) zs :=
  .inr ⟨b, _, hB, rfl, h, by simp [icells_len], fun j hj => icells_get hj⟩
theorem OwnL.lt {w : World} {B : Nat} {a : Option Addr} {zs : List Int} (h : OwnL w B a zs) (h0 : zs ≠ []) : ∀ p, a = some p → p.block < w.heap.size := by
  rcases h with h | ⟨g, C, h1, h2, h3, _⟩
  · exact absurd h h0
  · intro p hp; rw [h2] at hp; cases hp; exact h3.lt
end Go.Proofs.Ytidengcihakijaa
