/- The recursion of binomial bounds through the memory. -/
import Derived.Test.YtlnelmickndoaaaDoorBrl
namespace Go.Proofs.YtlnelmickndoaaaDoor
set_option linter.unusedVariables false
set_option linter.unusedSimpArgs false
open Go Go.RowKit Go.Maps Go.ChangeMaps
set_option maxRecDepth 100000 in
set_option maxHeartbeats 2000000 in
theorem memo54 (kb rb bb mb : Nat) : ∀ (N : Nat) (a b : Int), in16 a → in16 b → (a + b).toNat ≤ N → ∀ w, StB kb rb bb mb w →
    Calls Tryd.prog 17 #[.agg #[.int .i64 a, .int .i64 b], .pointer (some ⟨kb, 0, none⟩), .pointer (some ⟨rb, 0, none⟩), .pointer (some ⟨bb, 0, none⟩)] w fun e w' => e = .returned (.int .i64 (binV a b)) ∧ LfB mb w w' := by
  intro N
  induction N with
  | zero => intro a b ha hb h; unfold in16 at ha hb; omega
  | succ N ih =>
    intro a b ha hb hN w hS
    have ha2 : 1 ≤ a ∧ a ≤ 16 := ha
    have hb2 : 1 ≤ b ∧ b ≤ 16 := hb
    obtain ⟨W1, hW1⟩ : ∃ W1, W1 = w.alloc (.cells #[.int .i64 a, .int .i64 b] 31) := ⟨_, rfl⟩
    have hS1 : StB kb rb bb mb W1 := by rw [hW1]; exact hS.alloc _
    have hR := rule35 a b ha hb kb rb bb mb W1 hS1
      (fun h W hW => ih (a - 1) b ⟨by omega, by omega⟩ hb (by omega) W hW) (fun h W hW => ih a (b - 1) ha ⟨by omega, by omega⟩ (by omega) W hW)
    have hne : some w.heap.size ≠ some mb := by have := hS.good.lt; simp; omega
    have hB1 : Blk W1 w.heap.size #[.int .i64 a, .int .i64 b] 31 := by rw [hW1]; exact Blk.new _ _ _ _ rfl
    have hG1 : w.grownBy W1 (some mb) := by rw [hW1]; exact World.grownBy_alloc w _ _
    have hv := bin_at ha hb
    obtain ⟨V, hV⟩ : ∃ V, V = binV a b := ⟨_, rfl⟩
    have hbR : binR (klP a b) V := by rw [hV]; exact binR_mk ha hb
    rw [← hV] at hR hv ⊢
    have hw : (Lit.int .i64 V).wf = true := WalkArith.wf_i64 (by omega)
    obtain ⟨D, hown, hright, hin⟩ := hS1.good
    have HR := hidd hR
    have HK := hidd (key38 (in16_wf ha) (in16_wf hb))
    have HO := hidd (show W1.ownsMap Tryd.prog 31 (plainElem (H := Unit) Tryd.prog 2) mb keysP.length D from hown)
    have HG := hidd (And.intro hright (And.intro hin (And.intro hG1 hne)))
    have HW := hidd (And.intro hw (And.intro hbR hV))
    have HS1 := hidd hS1
    have HL := hidd (And.intro (keysP_mem ha hb) keysP_len)
    have HB1 := hidd hB1
    have k1 := hS1.k
    have r1 := hS1.r
    have q1 := hS1.b
    have heg := ent35
    have c0 : W1.cell? ⟨w.heap.size, 0, none⟩ = some (.int .i64 a) := hB1.cell rfl
    have c1 : W1.cell? ⟨w.heap.size, 1, none⟩ = some (.int .i64 b) := hB1.cell rfl
    subst hW1
    clear hR ih hown hright hin hG1 hne hw hbR hV hv hS hS1 hB1 ha hb hN
    cases hhas : Maps.has D (klP a b) with
    | true =>
      have HH := hidd hhas
      clear hhas
      go_enter Tryd.func17, Tryd.ntmps17
      go_wp2_with (first | (at_lookup; refine wpList_lookup_own_ok_int _ rfl _ _ 39 rfl 31 2 .i64 law38 Tryd.underlying39 Tryd.underlying2 (zero2 _) mb keysP.length D rfl HO.out _ _ rfl HK.out ?_; intro c hat hwc; rw [show Maps.has D (.string (keyBytes [.int .i64 a, .int .i64 b])) = true from HH.out]))
      have HC := hidd (HG.out.1.2 _ c HH.out hat a b ⟨by omega, by omega⟩ ⟨by omega, by omega⟩ rfl)
      clear hat hwc
      go_wp2_with fail
      go_ret
      refine ⟨?_, ⟨D, HO.out, HG.out.1, HG.out.2.1⟩, HG.out.2.2.1⟩
      rw [HW.out.2.2, ← HC.out]
      rfl
    | false =>
      have HH := hidd hhas
      clear hhas
      go_enter Tryd.func17, Tryd.ntmps17
      go_wp2_with (first | (at_lookup; refine wpList_lookup_own_ok_int _ rfl _ _ 39 rfl 31 2 .i64 law38 Tryd.underlying39 Tryd.underlying2 (zero2 _) mb keysP.length D rfl HO.out _ _ rfl HK.out ?_; intro c hat hwc; rw [show Maps.has D (.string (keyBytes [.int .i64 a, .int .i64 b])) = false from HH.out]; clear hat hwc))
      refine HR.out.mono ?_
      rintro e w2 ⟨rfl, hgd, hg2⟩
      have hS2 := HS1.out.left hgd hg2
      obtain ⟨D2, hown2, hright2, hin2⟩ := hgd
      have k2 := hS2.k
      have c2 : w2.cell? ⟨w.heap.size, 0, none⟩ = some (.int .i64 a) := hg2.cell (HB1.out.cell rfl) HG.out.2.2.2
      have c3 : w2.cell? ⟨w.heap.size, 1, none⟩ = some (.int .i64 b) := hg2.cell (HB1.out.cell rfl) HG.out.2.2.2
      have HO2 := hidd hown2
      have HG2 := hidd (And.intro hright2 (And.intro hin2 hg2))
      clear hown2 hright2 hin2 hg2 hS2
      go_wp2_with (first | (at_mapUpdate; refine wpList_mapUpdate_own _ rfl _ _ _ 39 rfl 31 2 law38 Tryd.underlying39 _ mb keysP.length D2 rfl HO2.out HL.out.2 _ _ _ rfl rfl HK.out _ [] (plainElem_int Tryd.underlying2 HW.out.1) ?_; intro w3 hown3 hg3; have HZ := hidd (And.intro hown3 hg3); clear hown3 hg3))
      go_ret
      exact ⟨rfl, good_put law38 HZ.out.1 HG2.out.1 HG2.out.2.1 (by trivial) HW.out.2.1 HL.out.1, (HG.out.2.2.1.trans HG2.out.2.2).trans HZ.out.2⟩
end Go.Proofs.YtlnelmickndoaaaDoor
