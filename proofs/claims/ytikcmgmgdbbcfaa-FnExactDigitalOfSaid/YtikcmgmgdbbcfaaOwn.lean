/- Lists that a call makes: what is owned, marked and held. -/
import Derived.Test.YtikcmgmgdbbcfaaLists
namespace Go.Proofs.Ytikcmgmgdbbcfaa
set_option linter.unusedVariables false
set_option linter.unusedSimpArgs false
open Go Go.RowKit
theorem own_below {w w' : World} {base : Nat} {e : TypeId} {size : Nat} {v : Value} {n : Nat} {xs : List Value} (h : w.ownsRow base e size v n xs) {B : Nat} (hb : Below B w w') (hB : w.heap.size ≤ B) : w'.ownsRow base e size v n xs := by
  refine ⟨h.1, ?_⟩
  rcases h.2 with h2 | ⟨g, cap, cur, hv, hg, hc, r⟩
  · exact .inl h2
  · have hlt : g < w.heap.size := (Array.getElem?_eq_some_iff.1 hc).1
    exact .inr ⟨g, cap, cur, hv, hg, by rw [hb.block g (by omega)]; exact hc, r⟩
/-- A list of the call's own, from block B on. -/
def OwnL (w : World) (B : Nat) (a : Option Addr) (zs : List Int) : Prop :=
  zs = [] ∨ ∃ g C, B ≤ g ∧ a = some ⟨g, 0, none⟩ ∧ Blk w g C 2 ∧ zs.length ≤ C.size ∧ ∀ j, j < zs.length → C[j]? = some (.int .i64 (zs.getD j 0))
theorem OwnL.below {w w' : World} {B : Nat} {a : Option Addr} {zs : List Int} (h : OwnL w B a zs) {B' : Nat} (hb : Below B' w w') (hB : w.heap.size ≤ B') : OwnL w' B a zs := by
  rcases h with h | ⟨g, C, h1, h2, h3, h4⟩
  · exact .inl h
  · exact .inr ⟨g, C, h1, h2, h3.below hb (by have := h3.lt; omega), h4⟩
/-- What lies wholly below a block that is written stays. -/
theorem OwnL.sl {w : World} {B : Nat} {a : Option Addr} {zs : List Int} (h : OwnL w B a zs) : SlI w a zs := by
  rcases h with h | ⟨g, C, h1, h2, h3, h4, h5⟩
  · exact .inl h
  · exact .inr ⟨g, 0, h2, fun j hj => by rw [Nat.zero_add]; exact h3.cell (h5 j hj)⟩
theorem own_list {w : World} {B : Nat} {v : Value} {zs : List Int} (h : w.ownsRow B 2 1 v zs.length (icells zs)) : ∃ a cap, v = .slice a zs.length cap ∧ OwnL w B a zs := by
  obtain ⟨_, h | ⟨g, cap, cur, hv, hg, hc, hn, _, hs, ht⟩⟩ := h
  · obtain ⟨rfl, h0⟩ := h
    have hz : zs = [] := List.length_eq_zero_iff.1 h0
    subst hz
    exact ⟨none, 0, rfl, .inl rfl⟩
  · refine ⟨some ⟨g, 0, none⟩, cap, hv, .inr ⟨g, cur, hg, rfl, hc, by omega, fun j hj => ?_⟩⟩
    have h1 : (cur.toList.take (zs.length * 1))[j]? = (icells zs)[j]? := by rw [ht]
    rw [List.getElem?_take, if_pos (by omega)] at h1
    have h2 := icells_get hj
    simp only [List.getElem?_toArray] at h2
    rw [h2] at h1
    simpa using h1
/-- The numbers that the laws lay into a list. -/
def marks (k : Int) (n : Nat) : List Int := (List.range n).map fun (j : Nat) => k + (j : Int)
theorem marks_len (k : Int) (n : Nat) : (marks k n).length = n := by simp [marks]
theorem marks_get {k : Int} {n j : Nat} (h : j < n) : (marks k n).getD j 0 = k + (j : Int) := by simp [marks, List.getD, h]
def RelM (C : Array Value) (k : Int) (g : Nat) (w : World) (j : Nat) (D : Array Value) (wr : World) : Prop :=
  Blk wr g D 2 ∧ D.size = C.size ∧ (∀ m, m < j → D[m]? = some (.int .i64 (k + (m : Int)))) ∧ Below g w wr
set_option maxRecDepth 100000 in
set_option maxHeartbeats 400000 in
theorem mark29 (n : Nat) (a : Option Addr) (cap : Nat) (B : Nat) (k : Int) (zs : List Int) (w : World) (hz : zs.length = n) (h : OwnL w B a zs) (hB : B ≤ w.heap.size) (hn : n ≤ 1048576) (hk0 : 0 ≤ k) (hk1 : k ≤ 1048576) :
    Calls Try.prog 30 #[.slice a n cap, .int .i64 k] w fun e w' => e = .returned (.int .i64 (k + n)) ∧ OwnL w' B a (marks k n) ∧ Below B w w' := by
  rcases h with h | ⟨g, C, h1, h2, h3, h4, h5⟩
  · subst h
    simp at hz
    subst hz
    go_enter Try.func30, Try.ntmps30
    go_wp2
    refine wp_loop_rounds 1 ?_
    rw [rounds_succ]
    go_wp2
    go_ret
    exact ⟨by simp, .inl rfl, Below.refl _ _⟩
  · subst h2
    rw [hz] at h4
    clear h5 hz
    have hk := h3.lt
    go_enter Try.func30, Try.ntmps30
    go_wp2_with fail
    go_loopw [1, 5] (fun kk i wr => ∃ j : Nat, j ≤ n ∧ i = .int .i64 j ∧ kk = .int .i64 (k + j) ∧ ∃ D, RelM C k g w j D wr) (fun _ i _ => n - (intOf i).toNat)
    case atStart => exact ⟨0, by omega, rfl, by simp, C, h3, rfl, fun m hm => absurd hm (by omega), Below.refl _ _⟩
    case round =>
      obtain ⟨j, hj, rfl, rfl, D, HR⟩ := hrel
      by_cases hlt : j < n
      · obtain ⟨old, ho⟩ : ∃ old, wr.cell? ⟨g, j, none⟩ = some old := ⟨_, HR.1.cell (Array.getElem?_eq_getElem (by rw [HR.2.1]; omega))⟩
        have hf := HR.1.fro j
        have K := hidd (show RelM C k g w (j + 1) (D.setIfInBounds j (.int .i64 (k + (j : Int)))) (wr.setCell ⟨g, j, none⟩ (.int .i64 (k + (j : Int)))) from
          ⟨HR.1.same _ _, by simp [HR.2.1], fun m hm => by
            rw [Array.getElem?_setIfInBounds]
            by_cases e : j = m
            · subst e; rw [if_pos rfl, if_pos (by rw [HR.2.1]; omega)]
            · rw [if_neg e]; exact HR.2.2.1 m (by omega), HR.2.2.2.setCell (Nat.le_refl _) _⟩)
        clear HR
        go_wp2_with fail
        go_roundw
        case rel => exact ⟨j + 1, by omega, by go_num, by congr 1; omega, _, K.out⟩
        case measure => simp [intOf]; omega
      · have hje : j = n := by omega
        subst hje
        go_wp2_with fail
        go_ret
        exact ⟨rfl, .inr ⟨g, D, h1, rfl, HR.1, by rw [marks_len, HR.2.1]; exact h4, fun m hm => by
          rw [marks_len] at hm
          rw [HR.2.2.1 m hm, marks_get hm]⟩, HR.2.2.2.mono h1⟩
set_option maxRecDepth 100000 in
set_option maxHeartbeats 400000 in
theorem held30 (n : Nat) (a : Option Addr) (cap : Nat) (B : Nat) (k : Int) (w : World) (h : OwnL w B a (marks k n)) (hn : n ≤ 1048576) (hk0 : 0 ≤ k) (hk1 : k ≤ 1048576) :
    Calls Try.prog 31 #[.slice a n cap, .int .i64 k] w fun e w' => e = .returned (.int .i64 (k + n)) ∧ w = w' := by
  go_enter Try.func31, Try.ntmps31
  go_wp2_with fail
  go_loop [1, 5] (fun kk i => ∃ j : Nat, j ≤ n ∧ i = .int .i64 j ∧ kk = .int .i64 (k + j)) (fun _ i => n - (intOf i).toNat)
  case atStart => exact ⟨0, by omega, rfl, by simp⟩
  case round =>
    obtain ⟨j, hj, rfl, rfl⟩ := hrel
    by_cases hlt : j < n
    · rcases h with h | ⟨g, C, h1, h2, h3, h4, h5⟩
      · have := marks_len k n
        rw [h] at this; simp at this; omega
      · subst h2
        have hc := h3.cell (h5 j (by rw [marks_len]; exact hlt))
        rw [marks_get hlt] at hc
        have hne : (k + (j : Int) != k + (j : Int)) = false := by simp
        have HH := hidd h5
        clear h5
        go_wp2_with fail
        go_round
        case rel => exact ⟨j + 1, by omega, by go_num, by congr 1; omega⟩
        case measure => simp [intOf]; omega
    · have hje : j = n := by omega
      subst hje
      go_wp2_with fail
      go_ret
      exact ⟨rfl, rfl⟩
end Go.Proofs.Ytikcmgmgdbbcfaa
