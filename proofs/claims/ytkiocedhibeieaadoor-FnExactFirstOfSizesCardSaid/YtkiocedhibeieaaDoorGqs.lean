/- GreatestClique: its model. -/
import Derived.Test.YtkiocedhibeieaaDoorGre
import Derived.Test.YtkiocedhibeieaaDoorGcl
import Derived.Test.YtkiocedhibeieaaDoorGiv
namespace Go.Proofs.YtkiocedhibeieaaDoor
set_option linter.unusedVariables false
set_option linter.unusedSimpArgs false
open Go Go.RowKit Go.Shelf
/-- A list and a code; the list need not be new. -/
def LOut0 (w : World) (zs : List Int) (code : Int) (e : Ending) (w' : World) : Prop :=
  ∃ a cap, e = .returned (.tuple #[.slice a zs.length cap, .int .i64 code]) ∧ OwnL w' 0 a zs ∧ Below w.heap.size w w'
theorem ll_first {w : World} {v : Value} {z : List Int} (h : LL w v [z]) : ∃ g cap, v = .slice (some ⟨g, 0, none⟩) 1 cap ∧ ∃ a c, w.cell? ⟨g, 0, none⟩ = some (.slice a z.length c) ∧ OwnL w 0 a z := by
  obtain ⟨xs, ⟨hxl, h1⟩, h2⟩ := h
  obtain ⟨a, c, hx, ho⟩ := h2 0 z rfl
  rcases h1 with h1 | ⟨g, cap, cur, hv, hg, hc, hle, hmx, hsz, htk⟩
  · simp at h1
  · refine ⟨g, cap, hv, a, c, ?_, ho⟩
    have hb : Blk w g cur 25 := hc
    refine hb.cell ?_
    rw [← htk, List.getElem?_take_of_lt (by simp)] at hx
    simpa using hx
/-- The greatest clique as a list. -/
def gcL (N : Nat) (bs : List Nat) (c : Int) : List Int := rv (gcS N bs c)
theorem gcL_len (N : Nat) (bs : List Nat) (c : Int) : (gcL N bs c).length = gsz N bs c := by unfold gcL; rw [rv_len, gcS_len]
set_option maxRecDepth 100000 in
set_option maxHeartbeats 1000000 in
theorem greatest49 (N : Nat) (k : Int) (bs : List Nat) (hb : Bys bs) (c : Int) (n1 : 1 ≤ N) (hN17 : N ≤ 17) (w : World) :
    Calls Tryd.prog 49 #[.agg (ccells (N : Int) k bs).toArray, .int .i64 c] w fun e w' => ∃ a cap, e = .returned (.slice a (gcL N bs c).length cap) ∧ OwnL w' 0 a (gcL N bs c) ∧ Below w.heap.size w w' := by
  have HS := hidd (size_c26 (N : Int) k hb)
  have HLI := hidd (fun (m : Nat) (hm : m ≤ 18) (W : World) => list45 N k bs hb c m 1 n1 hN17 hm (by omega) (by omega) W)
  have h1 : 1 ≤ gsz N bs c := gsz_pos n1 hN17
  have h17 : gsz N bs c ≤ N := gsz_le hN17
  have HE := hidd (fun (m : Nat) (h : gsz N bs c < m) => gsz_none hN17 h)
  have HF := hidd (fun (m : Nat) (h0 : m ≠ 0) (h : m ≤ gsz N bs c) => gsz_some hN17 h0 h)
  have hlast := gcS_take (bs := bs) (c := c) n1 hN17
  have hone := clq_one (bs := bs) (c := c) n1
  have hgl := gcL_len N bs c
  have hgd : gcL N bs c = rv (gcS N bs c) := rfl
  rw [← hgd] at hlast
  obtain ⟨GL, hGL⟩ : ∃ GL, GL = gcL N bs c := ⟨_, rfl⟩
  obtain ⟨G, hG⟩ : ∃ G, G = gsz N bs c := ⟨_, rfl⟩
  rw [← hGL] at hlast hgl
  rw [← hG] at h1 h17 HE HF hlast hgl
  rw [← hGL]
  have HGL := hidd (And.intro hlast (And.intro hone hgl))
  clear hG hGL hlast hone hgl hgd
  go_enter Tryd.func49, Tryd.ntmps49
  go_wp2_with fail
  go_loopw [5, 6] (fun v nx wr => ∃ (L : Nat) (a : Option Addr) (cap : Nat), 1 ≤ L ∧ L ≤ G ∧ v = .slice a L cap ∧ Hid ((Blk wr w.heap.size (ccells (N : Int) k bs).toArray 28 ∧ Below w.heap.size w wr) ∧ ∃ z, z.length = L ∧ OwnL wr 0 a z ∧ (clqL bs c N L).take 1 = [z])) (fun v _ _ => 18 - sliLen v)
  case atStart => exact ⟨1, _, _, Nat.le_refl _, h1, rfl, ⟨(Blk.new _ _ _ _ rfl).alloc _, ((Below.refl _ _).alloc (Nat.le_refl _) _).alloc (by simp) _⟩, [0], rfl, .inr ⟨w.heap.size + 1, #[.int .i64 0], Nat.zero_le _, by simp, Blk.new _ _ _ _ (by simp), Nat.le_refl _, fun j hj => by
    have : j = 0 := by simp at hj; omega
    subst this; rfl⟩, HGL.out.2.1⟩
  case round =>
    obtain ⟨L, a, cap, hL1, hLG, rfl, HKZ⟩ := hrel
    have HK := hidd HKZ.out.1
    have HZZ := hidd HKZ.out.2
    clear HKZ
    obtain ⟨m, hm⟩ : ∃ m, m = L + 1 := ⟨_, rfl⟩
    have hwl : IntKind.i64.wrap ((L : Int) + 1) = (m : Int) := by rw [IntWalk.i64_in _ (by omega)]; omega
    by_cases hlt : L < G
    · have hx := HF.out m (by omega) (by omega)
      obtain ⟨z, hz, hzm⟩ : ∃ z, (clqL bs c N m).take 1 = [z] ∧ z.length = m := by
        cases hl : clqL bs c N m with
        | nil => rw [hl] at hx; simp at hx
        | cons z l => exact ⟨z, rfl, clqL_len (bs := bs) (c := c) (N := N) (m := m) (by omega) (by rw [hl]; exact List.mem_cons_self ..)⟩
      have HLM := hidd (show ∀ W, Calls Tryd.prog 42 #[.agg (ccells (N : Int) k bs).toArray, .int .i64 c, .int .i64 (m : Int), .int .i64 1] W fun e w' => ∃ a' c', e = .returned (.slice a' 1 c') ∧ LL w' (.slice a' 1 c') [z] ∧ Below W.heap.size W w' from fun W => by
        have h := HLI.out m (by omega) W
        rw [hz] at h
        exact h)
      have HM := hidd (And.intro hzm (And.intro hm hz))
      clear hz hx hm hzm
      go_wp2_with (refine wpList_load_row rfl 28 (.tmp 2) rfl w.heap.size rfl 28 _ (0,0) _ HK.out.1 Tryd.underlying28 rfl HS.out ?_)
      refine (HLM.out _).mono ?_
      rintro e w1 ⟨a1, c1, rfl, hLL, hb1⟩
      obtain ⟨g, cap1, hv, a2, c2, hcell, hown⟩ := ll_first hLL
      cases hv
      rw [HM.out.1] at hcell
      have HOW := hidd hown
      have K1 := hidd (And.intro (HK.out.1.below hb1 HK.out.1.lt) (HK.out.2.trans (hb1.mono HK.out.2.size)))
      clear hb1 hLL hown
      go_wp2_with fail
      go_roundw
      case rel => exact ⟨m, a2, c2, by have := HM.out.2.1; omega, by have := HM.out.2.1; omega, rfl, K1.out, z, HM.out.1, HOW.out, HM.out.2.2⟩
      case measure => have := HM.out.2.1; simp [sliLen]; omega
    · have hLe : L = G := by omega
      have hx := HE.out m (by omega)
      have hz : (clqL bs c N m).take 1 = [] := by rw [List.isEmpty_iff.1 hx]; rfl
      have HLM := hidd (show ∀ W, Calls Tryd.prog 42 #[.agg (ccells (N : Int) k bs).toArray, .int .i64 c, .int .i64 (m : Int), .int .i64 1] W fun e w' => ∃ a' c', e = .returned (.slice a' 0 c') ∧ Below W.heap.size W w' from fun W => by
        have h := HLI.out m (by omega) W
        rw [hz] at h
        exact h.mono fun e w' h => by obtain ⟨a', c', h1, h2, h3⟩ := h; exact ⟨a', c', h1, h3⟩)
      obtain ⟨z, hz1, hz2, hz3⟩ := HZZ.out
      have hzG : z = GL := by
        have h := HGL.out.1
        rw [← hLe, hz3] at h
        simpa using h
      subst hzG
      have HLE := hidd (And.intro hLe (And.intro hz1 hz2))
      clear hz hx hm hLe hz1 hz2 hz3
      go_wp2_with (refine wpList_load_row rfl 28 (.tmp 2) rfl w.heap.size rfl 28 _ (0,0) _ HK.out.1 Tryd.underlying28 rfl HS.out ?_)
      refine (HLM.out _).mono ?_
      rintro e w1 ⟨a1, c1, rfl, hb1⟩
      have K1 := hidd (And.intro (HK.out.2.trans (hb1.mono HK.out.2.size)) (HLE.out.2.2.below hb1 (Nat.le_refl _)))
      clear hb1
      go_wp2_with fail
      go_ret
      exact ⟨a, cap, by rw [HLE.out.2.1]; rfl, K1.out.2, K1.out.1⟩
theorem sl_none (w : World) : SlI w none [] := .inl rfl
set_option maxRecDepth 100000 in
set_option maxHeartbeats 1000000 in
theorem spec20 (n k : Int) (bs : List Nat) (hb : Bys bs) (c : Int) (w : World) :
    Calls Tryd.prog 20 #[.agg (ccells n k bs).toArray, .int .i64 c] w (LOut0 w (gcList n k bs c) (given n k bs c [])) := by
  have HS := hidd (size_c26 n k hb)
  have HG := hidd (fun W => given56 n k bs hb c [] none 0 W (sl_none W) (by simp))
  cases hq : decide (given n k bs c [] = 0) with
  | false =>
    have h0 : given n k bs c [] ≠ 0 := of_decide_eq_false hq
    have e1 : gcList n k bs c = [] := by unfold gcList; rw [if_neg h0]
    rw [e1]
    obtain ⟨cd, hcd⟩ : ∃ cd, cd = given n k bs c [] := ⟨_, rfl⟩
    rw [← hcd] at HG h0 ⊢
    have hne : (cd != 0) = true := by rw [bne_iff_ne]; exact h0
    clear hq h0 e1 hcd
    go_enter Tryd.func20, Tryd.ntmps20
    go_wp2_with (refine wpList_load_row rfl 28 (.tmp 2) rfl w.heap.size rfl 28 _ (0,0) _ (Blk.new _ _ _ _ rfl) Tryd.underlying28 rfl HS.out ?_)
    refine (HG.out _).mono ?_
    rintro e w1 ⟨rfl, hb1⟩
    have G := hidd (((Below.refl w.heap.size w).alloc (Nat.le_refl _) (.cells (ccells n k bs).toArray 28)).trans (hb1.mono (by simp)))
    clear hb1
    go_wp2_with fail
    go_ret2
    exact ⟨none, 0, rfl, .inl rfl, G.out⟩
  | true =>
    have h0 : given n k bs c [] = 0 := of_decide_eq_true hq
    have e1 : gcList n k bs c = gcL n.toNat bs c := by unfold gcList; rw [if_pos h0]; rfl
    obtain ⟨n1, n2, k1, k2⟩ := isCol_bd (given_ok h0).1
    rw [e1, h0]
    rw [h0] at HG
    obtain ⟨N, rfl⟩ := Int.eq_ofNat_of_zero_le (show 0 ≤ n by omega)
    rw [Int.toNat_natCast]
    have HQ := hidd (fun W => greatest49 N k bs hb c (by omega) (by omega) W)
    clear hq h0 e1
    go_enter Tryd.func20, Tryd.ntmps20
    go_wp2_with (refine wpList_load_row rfl 28 (.tmp 2) rfl w.heap.size rfl 28 _ (0,0) _ (Blk.new _ _ _ _ rfl) Tryd.underlying28 rfl HS.out ?_)
    refine (HG.out _).mono ?_
    rintro e w1 ⟨rfl, hb1⟩
    have hB := (Blk.new w (ccells (N : Int) k bs).toArray 28 _ rfl).below hb1 (by simp)
    have G := hidd (And.intro (((Below.refl w.heap.size w).alloc (Nat.le_refl _) (.cells (ccells (N : Int) k bs).toArray 28)).trans (hb1.mono (by simp))) hB)
    clear hb1 hB
    go_wp2_with (refine wpList_load_row rfl 28 (.tmp 2) rfl w.heap.size rfl 28 _ (0,0) _ G.out.2 Tryd.underlying28 rfl HS.out ?_)
    refine (HQ.out _).mono ?_
    rintro e w2 ⟨a, cap, rfl, ho, hb2⟩
    have G2 := hidd (And.intro ho (G.out.1.trans (hb2.mono G.out.1.size)))
    clear hb2 ho
    go_wp2_with fail
    go_ret2
    exact ⟨a, cap, rfl, G2.out.1, G2.out.2⟩
end Go.Proofs.YtkiocedhibeieaaDoor
