/- CliqueNumbers: the model's text. -/
import Derived.Test.YtkiocedhibeieaaDoorCnM
namespace Go.Proofs.YtkiocedhibeieaaDoor
set_option linter.unusedVariables false
set_option linter.unusedSimpArgs false
open Go Go.RowKit Go.Shelf
theorem ll_one {w : World} {v : Value} {z : List Int} (h : LL w v [z]) : ∃ g cap, v = .slice (some ⟨g, 0, none⟩) 1 cap ∧ ∃ a c, w.cell? ⟨g, 0, none⟩ = some (.slice a z.length c) := by
  obtain ⟨xs, ⟨hxl, h1⟩, h2⟩ := h
  obtain ⟨a, c, hx, _⟩ := h2 0 z rfl
  rcases h1 with h1 | ⟨g, cap, cur, hv, hg, hc, hle, hmx, hsz, htk⟩
  · simp at h1
  · refine ⟨g, cap, hv, a, c, ?_⟩
    have hb : Blk w g cur 25 := hc
    refine hb.cell ?_
    rw [← htk, List.getElem?_take_of_lt (by simp)] at hx
    simpa using hx
def sliLen : Value → Nat
  | .slice _ n _ => n
  | _ => 0
set_option maxRecDepth 100000 in
set_option maxHeartbeats 1000000 in
theorem greatest32 (N : Nat) (k : Int) (bs : List Nat) (hb : Bys bs) (c : Int) (n1 : 1 ≤ N) (hN17 : N ≤ 17) (w : World) :
    Calls Tryd.prog 49 #[.agg (ccells (N : Int) k bs).toArray, .int .i64 c] w fun e w' => ∃ a cap, e = .returned (.slice a (gsz N bs c) cap) ∧ Below w.heap.size w w' := by
  have HS := hidd (size_c26 (N : Int) k hb)
  have HLI := hidd (fun (m : Nat) (hm : m ≤ 18) (W : World) => list45 N k bs hb c m 1 n1 hN17 hm (by omega) (by omega) W)
  have h1 : 1 ≤ gsz N bs c := gsz_pos n1 hN17
  have h17 : gsz N bs c ≤ N := gsz_le hN17
  have HE := hidd (fun (m : Nat) (h : gsz N bs c < m) => gsz_none hN17 h)
  have HF := hidd (fun (m : Nat) (h0 : m ≠ 0) (h : m ≤ gsz N bs c) => gsz_some hN17 h0 h)
  obtain ⟨G, hG⟩ : ∃ G, G = gsz N bs c := ⟨_, rfl⟩
  rw [← hG] at h1 h17 HE HF ⊢
  clear hG
  go_enter Tryd.func49, Tryd.ntmps49
  go_wp2_with fail
  go_loopw [5, 6] (fun v nx wr => ∃ (L : Nat) (a : Option Addr) (cap : Nat), 1 ≤ L ∧ L ≤ G ∧ v = .slice a L cap ∧ Hid (Blk wr w.heap.size (ccells (N : Int) k bs).toArray 28 ∧ Below w.heap.size w wr)) (fun v _ _ => 18 - sliLen v)
  case atStart => exact ⟨1, _, _, Nat.le_refl _, h1, rfl, (Blk.new _ _ _ _ rfl).alloc _, ((Below.refl _ _).alloc (Nat.le_refl _) _).alloc (by simp) _⟩
  case round =>
    obtain ⟨L, a, cap, hL1, hLG, rfl, HK⟩ := hrel
    obtain ⟨m, hm⟩ : ∃ m, m = L + 1 := ⟨_, rfl⟩
    have hwl : IntKind.i64.wrap ((L : Int) + 1) = (m : Int) := by rw [IntWalk.i64_in _ (by omega)]; omega
    by_cases hlt : L < G
    · have hx := HF.out m (by omega) (by omega)
      obtain ⟨z, hz, hzm⟩ : ∃ z, (clqL bs c N m).take 1 = [z] ∧ z.length = m := by
        cases hl : clqL bs c N m with
        | nil => rw [hl] at hx; simp at hx
        | cons z l => exact ⟨z, rfl, clqL_len (bs := bs) (c := c) (N := N) (m := m) (by omega) (by rw [hl]; exact List.mem_cons_self ..)⟩
      have HLM := hidd (show ∀ W, Calls Tryd.prog 42 #[.agg (ccells (N : Int) k bs).toArray, .int .i64 c, .int .i64 (m : Int), .int .i64 1] W fun e w' => ∃ a' c', e = .returned (.slice a' 1 c') ∧ LL w' (.slice a' 1 c') [z] ∧ Below W.heap.size W w' from fun W => by
        have h := HLI.out m (by omega) W
        rw [hz] at h
        exact h)
      have HM := hidd (And.intro hzm hm)
      clear hz hx hm hzm
      go_wp2_with (refine wpList_load_row rfl 28 (.tmp 2) rfl w.heap.size rfl 28 _ (0,0) _ HK.out.1 Tryd.underlying28 rfl HS.out ?_)
      refine (HLM.out _).mono ?_
      rintro e w1 ⟨a1, c1, rfl, hLL, hb1⟩
      obtain ⟨g, cap1, hv, a2, c2, hcell⟩ := ll_one hLL
      cases hv
      rw [HM.out.1] at hcell
      have K1 := hidd (And.intro (HK.out.1.below hb1 HK.out.1.lt) (HK.out.2.trans (hb1.mono HK.out.2.size)))
      clear hb1 hLL
      go_wp2_with fail
      go_roundw
      case rel => exact ⟨m, a2, c2, by have := HM.out.2; omega, by have := HM.out.2; omega, rfl, K1.out⟩
      case measure => have := HM.out.2; simp [sliLen]; omega
    · have hLe : L = G := by omega
      have hx := HE.out m (by omega)
      have hz : (clqL bs c N m).take 1 = [] := by rw [List.isEmpty_iff.1 hx]; rfl
      have HLM := hidd (show ∀ W, Calls Tryd.prog 42 #[.agg (ccells (N : Int) k bs).toArray, .int .i64 c, .int .i64 (m : Int), .int .i64 1] W fun e w' => ∃ a' c', e = .returned (.slice a' 0 c') ∧ Below W.heap.size W w' from fun W => by
        have h := HLI.out m (by omega) W
        rw [hz] at h
        exact h.mono fun e w' h => by obtain ⟨a', c', h1, h2, h3⟩ := h; exact ⟨a', c', h1, h3⟩)
      have HLE := hidd hLe
      clear hz hx hm hLe
      go_wp2_with (refine wpList_load_row rfl 28 (.tmp 2) rfl w.heap.size rfl 28 _ (0,0) _ HK.out.1 Tryd.underlying28 rfl HS.out ?_)
      refine (HLM.out _).mono ?_
      rintro e w1 ⟨a1, c1, rfl, hb1⟩
      have K1 := hidd (HK.out.2.trans (hb1.mono HK.out.2.size))
      clear hb1
      go_wp2_with fail
      go_ret
      exact ⟨a, cap, by rw [HLE.out]; rfl, K1.out⟩
def RelCn (N : Nat) (bs : List Nat) (C : Array Value) (w : World) (g d : Nat) (v : Value) (wr : World) : Prop :=
  Blk wr w.heap.size C 28 ∧ wr.ownsRow g 2 1 v (fillA (cnF N bs) d).length (icells (fillA (cnF N bs) d)) ∧ Below w.heap.size w wr ∧ w.heap.size < g
end Go.Proofs.YtkiocedhibeieaaDoor
