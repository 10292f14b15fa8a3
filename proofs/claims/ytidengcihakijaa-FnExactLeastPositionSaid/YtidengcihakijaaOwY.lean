/- Lists of a call's own that lie in a block of whatever type: marks laid into them and held. -/
import Derived.Test.YtidengcihakijaaOnly
namespace Go.Proofs.Ytidengcihakijaa
set_option linter.unusedVariables false
set_option linter.unusedSimpArgs false
open Go Go.RowKit
/-- A list of the call's own, from block B on, in a block of whatever type. -/
def OwnY (w : World) (B : Nat) (a : Option Addr) (zs : List Int) : Prop :=
  zs = [] ∨ ∃ g C t, B ≤ g ∧ a = some ⟨g, 0, none⟩ ∧ Blk w g C t ∧ zs.length ≤ C.size ∧ ∀ j, j < zs.length → C[j]? = some (.int .i64 (zs.getD j 0))
theorem OwnL.y {w : World} {B : Nat} {a : Option Addr} {zs : List Int} (h : OwnL w B a zs) : OwnY w B a zs := by
  rcases h with h | ⟨g, C, h⟩
  · exact .inl h
  · exact .inr ⟨g, C, 2, h⟩
theorem OwnY.below {w w' : World} {B : Nat} {a : Option Addr} {zs : List Int} (h : OwnY w B a zs) {B' : Nat} (hb : Below B' w w') (hB : w.heap.size ≤ B') : OwnY w' B a zs := by
  rcases h with h | ⟨g, C, t, h1, h2, h3, h4⟩
  · exact .inl h
  · exact .inr ⟨g, C, t, h1, h2, h3.below hb (by have := h3.lt; omega), h4⟩
theorem OwnY.sl {w : World} {B : Nat} {a : Option Addr} {zs : List Int} (h : OwnY w B a zs) : SlI w a zs := by
  rcases h with h | ⟨g, C, t, h1, h2, h3, h4, h5⟩
  · exact .inl h
  · exact .inr ⟨g, 0, h2, fun j hj => by rw [Nat.zero_add]; exact h3.cell (h5 j hj)⟩
theorem OwnY.ge {w : World} {B : Nat} {a : Option Addr} {zs : List Int} (h : OwnY w B a zs) (h0 : zs ≠ []) : ∀ p, a = some p → B ≤ p.block := by
  rcases h with h | ⟨g, C, t, h1, h2, _⟩
  · exact absurd h h0
  · intro p hp; rw [h2] at hp; cases hp; exact h1
theorem OwnY.lt {w : World} {B : Nat} {a : Option Addr} {zs : List Int} (h : OwnY w B a zs) (h0 : zs ≠ []) : ∀ p, a = some p → p.block < w.heap.size := by
  rcases h with h | ⟨g, C, t, h1, h2, h3, _⟩
  · exact absurd h h0
  · intro p hp; rw [h2] at hp; cases hp; exact h3.lt
theorem OwnY.bas {w : World} {B B' : Nat} {a : Option Addr} {zs : List Int} (h : OwnY w B a zs) (hB : B' ≤ B) : OwnY w B' a zs := by
  rcases h with h | ⟨g, C, t, h1, h2⟩
  · exact .inl h
  · exact .inr ⟨g, C, t, by omega, h2⟩
theorem Only.ownY {a : Option Addr} {w w' : World} (h : Only a w w') {B : Nat} {a2 : Option Addr} {zs : List Int} (ho : OwnY w B a2 zs) (hne : ∀ p q, a = some p → a2 = some q → q.block ≠ p.block) : OwnY w' B a2 zs := by
  rcases ho with ho | ⟨g, C, t, h1, h2, h3, h4⟩
  · exact .inl ho
  · exact .inr ⟨g, C, t, h1, h2, h.blk h3 (fun p hp => hne p _ hp h2), h4⟩
theorem MkOnly.ownY {zs : List Int} {a : Option Addr} {w w' : World} (h : MkOnly zs a w w') {B : Nat} {a2 : Option Addr} {zs2 : List Int} (ho : OwnY w B a2 zs2) (hne : zs ≠ [] → zs2 ≠ [] → ∀ p q, a = some p → a2 = some q → q.block ≠ p.block) : OwnY w' B a2 zs2 := by
  by_cases e : zs = []
  · rw [← h.2 e]; exact ho
  · by_cases e2 : zs2 = []
    · exact .inl e2
    · exact (h.1 e).ownY ho (hne e e2)
theorem MkOnly.belowY {zs : List Int} {a : Option Addr} {w w' : World} (h : MkOnly zs a w w') {B : Nat} (ho : OwnY w B a zs) (hB : B ≤ w.heap.size) : Below B w w' := by
  by_cases e : zs = []
  · rw [← h.2 e]; exact Below.refl _ _
  · exact (h.1 e).1 B hB (ho.ge e)
def RelMy (t : TypeId) (C : Array Value) (k : Int) (g : Nat) (w : World) (j : Nat) (D : Array Value) (wr : World) : Prop :=
  Blk wr g D t ∧ D.size = C.size ∧ (∀ m, m < j → D[m]? = some (.int .i64 (k + (m : Int)))) ∧ Below g w wr ∧ ∀ b, b ≠ g → wr.heap[b]? = w.heap[b]?
set_option maxRecDepth 100000 in
set_option maxHeartbeats 400000 in
theorem mark29y (n : Nat) (a : Option Addr) (cap : Nat) (B : Nat) (k : Int) (zs : List Int) (w : World) (hz : zs.length = n) (h : OwnY w B a zs) (hn : n ≤ 1048576) (hk0 : 0 ≤ k) (hk1 : k ≤ 1048576) :
    Calls Try.prog 9 #[.slice a n cap, .int .i64 k] w fun e w' => e = .returned (.int .i64 (k + n)) ∧ OwnY w' B a (marks k n) ∧ MkOnly zs a w w' := by
  rcases h with h | ⟨g, C, t, h1, h2, h3, h4, h5⟩
  · subst h
    simp at hz
    subst hz
    go_enter Try.func9, Try.ntmps9
    go_wp2
    refine wp_loop_rounds 1 ?_
    rw [rounds_succ]
    go_wp2
    go_ret
    exact ⟨by simp, .inl rfl, fun h => absurd rfl h, fun _ => rfl⟩
  · subst h2
    rw [hz] at h4
    have HNZ := hidd (show zs = [] → n = 0 from fun e => by rw [← hz, e]; rfl)
    clear h5 hz
    have hk := h3.lt
    go_enter Try.func9, Try.ntmps9
    go_wp2_with fail
    go_loopw [1, 5] (fun kk i wr => ∃ j : Nat, j ≤ n ∧ i = .int .i64 j ∧ kk = .int .i64 (k + j) ∧ Hid ((∃ D, RelMy t C k g w j D wr) ∧ (j = 0 → w = wr))) (fun _ i _ => n - (intOf i).toNat)
    case atStart => exact ⟨0, by omega, rfl, by simp, ⟨C, h3, rfl, fun m hm => absurd hm (by omega), Below.refl _ _, fun _ _ => rfl⟩, fun _ => rfl⟩
    case round =>
      obtain ⟨j, hj, rfl, rfl, HD⟩ := hrel
      obtain ⟨D, HR0⟩ := HD.out.1
      have HJ := hidd HD.out.2
      have HR := hidd HR0
      clear HD HR0
      by_cases hlt : j < n
      · obtain ⟨old, ho⟩ : ∃ old, wr.cell? ⟨g, j, none⟩ = some old := ⟨_, HR.out.1.cell (Array.getElem?_eq_getElem (by rw [HR.out.2.1]; omega))⟩
        have hf := HR.out.1.fro j
        have K := hidd (show RelMy t C k g w (j + 1) (D.setIfInBounds j (.int .i64 (k + (j : Int)))) (wr.setCell ⟨g, j, none⟩ (.int .i64 (k + (j : Int)))) from
          ⟨HR.out.1.same _ _, by simp [HR.out.2.1], fun m hm => by
            rw [Array.getElem?_setIfInBounds]
            by_cases e : j = m
            · subst e; rw [if_pos rfl, if_pos (by rw [HR.out.2.1]; omega)]
            · rw [if_neg e]; exact HR.out.2.2.1 m (by omega), HR.out.2.2.2.1.setCell (Nat.le_refl _) _, fun b hb => (heap_setCell_other wr ⟨g, j, none⟩ b _ hb).trans (HR.out.2.2.2.2 b hb)⟩)
        clear HR
        go_wp2_with fail
        go_roundw
        case rel => exact ⟨j + 1, by omega, by go_num, by congr 1; omega, ⟨_, K.out⟩, fun e => by omega⟩
        case measure => simp [intOf]; omega
      · have hje : j = n := by omega
        subst hje
        go_wp2_with fail
        go_ret
        exact ⟨rfl, .inr ⟨g, D, t, h1, rfl, HR.out.1, by rw [marks_len, HR.out.2.1]; exact h4, fun m hm => by
          rw [marks_len] at hm
          rw [HR.out.2.2.1 m hm, marks_get hm]⟩, fun _ => ⟨fun B' _ hB' => HR.out.2.2.2.1.mono (hB' _ rfl), fun b hb => HR.out.2.2.2.2 b (hb _ rfl)⟩, fun e => HJ.out (HNZ.out e)⟩
set_option maxRecDepth 100000 in
set_option maxHeartbeats 400000 in
theorem held30y (n : Nat) (a : Option Addr) (cap : Nat) (B : Nat) (k : Int) (w : World) (h : OwnY w B a (marks k n)) (hn : n ≤ 1048576) (hk0 : 0 ≤ k) (hk1 : k ≤ 1048576) :
    Calls Try.prog 10 #[.slice a n cap, .int .i64 k] w fun e w' => e = .returned (.int .i64 (k + n)) ∧ w = w' := by
  go_enter Try.func10, Try.ntmps10
  go_wp2_with fail
  go_loop [1, 5] (fun kk i => ∃ j : Nat, j ≤ n ∧ i = .int .i64 j ∧ kk = .int .i64 (k + j)) (fun _ i => n - (intOf i).toNat)
  case atStart => exact ⟨0, by omega, rfl, by simp⟩
  case round =>
    obtain ⟨j, hj, rfl, rfl⟩ := hrel
    by_cases hlt : j < n
    · rcases h with h | ⟨g, C, t, h1, h2, h3, h4, h5⟩
      · have := marks_len k n
        rw [h] at this; simp at this; omega
      · subst h2
        have hc := h3.cell (h5 j (by rw [marks_len]; exact hlt))
        rw [marks_get hlt] at hc
        have hne : (k + (j : Int) != k + (j : Int)) = false := by simp
        have HH := hidd h5
        clear h5
        go_wp2_with fail
        go_round
        case rel => exact ⟨j + 1, by omega, by go_num, by congr 1; omega⟩
        case measure => simp [intOf]; omega
    · have hje : j = n := by omega
      subst hje
      go_wp2_with fail
      go_ret
      exact ⟨rfl, rfl⟩
/-- What a function hands back: a list of its own, in a block of whatever type, and a code. -/
def LOutY (w : World) (zs : List Int) (code : Int) (e : Ending) (w' : World) : Prop :=
  ∃ a cap, e = .returned (.tuple #[.slice a zs.length cap, .int .i64 code]) ∧ OwnY w' w.heap.size a zs ∧ Below w.heap.size w w'
end Go.Proofs.Ytidengcihakijaa
