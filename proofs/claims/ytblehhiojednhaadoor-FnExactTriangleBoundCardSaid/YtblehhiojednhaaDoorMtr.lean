/- TriangleBound: the recursion through the memory. -/
import Derived.Test.YtblehhiojednhaaDoorMem
import Derived.Maps.AppendAt
namespace Go.Proofs.YtblehhiojednhaaDoor
set_option linter.unusedVariables false
set_option linter.unusedSimpArgs false
open Go Go.RowKit Go.Maps
theorem ent50 (args : Array Value) (w : World) : (callFunc 50 args).run Tryd.prog w = .ok (.enter 50 args) w := by kernel_rfl
theorem ent59 (args : Array Value) (w : World) : (callFunc 59 args).run Tryd.prog w = .ok (.enter 59 args) w := by kernel_rfl
/-- What a call of the recursion at k leaves. -/
def Lft (w : World) (mb n : Nat) (w' : World) : Prop := ∃ D', w'.ownsMap Tryd.prog 2 (plainElem (H := Unit) Tryd.prog 2) mb n D' ∧ Right triL D' ∧ w.grownBy w' (some mb)
theorem triV_step {k : Nat} (h1 : 1 ≤ k) (h2 : k ≠ 1) : triV k = (k : Int) * triV (k - 1) - (k : Int) + 2 := by
  obtain ⟨j, rfl⟩ : ∃ j, k = j + 2 := ⟨k - 2, by omega⟩
  simp [triV]
set_option maxRecDepth 100000 in
set_option maxHeartbeats 1000000 in
/-- triangleRule, over the contract of what it is handed. -/
theorem rule50 (k : Nat) (h1 : 1 ≤ k) (h10 : k ≤ 10) (kb rb bb mb n : Nat) (w : World) (hD : ∃ D, w.ownsMap Tryd.prog 2 (plainElem (H := Unit) Tryd.prog 2) mb n D ∧ Right triL D)
    (hIH : k ≠ 1 → Calls Tryd.prog 59 #[.int .i64 ((k : Int) - 1), .pointer (some ⟨kb, 0, none⟩), .pointer (some ⟨rb, 0, none⟩), .pointer (some ⟨bb, 0, none⟩)] w fun e w' => e = .returned (.int .i64 (triV (k - 1))) ∧ Lft w mb (n + (k - 1)) w') :
    Calls Tryd.prog 50 #[.int .i64 (k : Int), .func (.func 59) #[] #[.pointer (some ⟨kb, 0, none⟩), .pointer (some ⟨rb, 0, none⟩), .pointer (some ⟨bb, 0, none⟩)]] w fun e w' => e = .returned (.int .i64 (triV k)) ∧ Lft w mb (n + (k - 1)) w' := by
  have heg := ent59
  by_cases hk : k = 1
  · subst hk
    obtain ⟨D, hD1, hD2⟩ := hD
    have HD := hidd (show Lft w mb (n + (1 - 1)) w from ⟨D, hD1, hD2, World.grownBy.refl _ _⟩)
    clear hD1 hD2 hIH
    go_enter Tryd.func50, Tryd.ntmps50
    go_wp2
    go_ret
    exact ⟨rfl, HD.out⟩
  · have HI := hidd (hIH hk)
    have HV := hidd (triV_step h1 hk)
    have hv := triV_bd (k - 1) (by omega)
    have hv2 := triV_bd k (by omega)
    obtain ⟨s, hs⟩ : ∃ s, s = triV (k - 1) := ⟨_, rfl⟩
    rw [← hs] at HI HV hv
    have hm1 : 0 ≤ (k : Int) * s := Int.mul_nonneg (by omega) hv.1
    have hm2 : (k : Int) * s ≤ 1000000000 := Int.le_trans (Int.mul_le_mul (show (k : Int) ≤ 10 by omega) hv.2 hv.1 (by omega)) (by omega)
    clear hs hIH hD
    have hk2 : ((k : Int) == 1) = false := by simp; omega
    go_enter Tryd.func50, Tryd.ntmps50
    go_wp2_with fail
    refine HI.out.mono ?_
    rintro e w1 ⟨rfl, hl⟩
    have HL := hidd hl
    clear hl
    go_wp2
    go_ret
    refine ⟨?_, HL.out⟩
    rw [HV.out]
    rfl
theorem wf_key {k : Nat} (h : k ≤ 10) : (Lit.int .i64 (k : Int)).wf = true := by
  have : k = 0 ∨ k = 1 ∨ k = 2 ∨ k = 3 ∨ k = 4 ∨ k = 5 ∨ k = 6 ∨ k = 7 ∨ k = 8 ∨ k = 9 ∨ k = 10 := by omega
  rcases this with rfl | rfl | rfl | rfl | rfl | rfl | rfl | rfl | rfl | rfl | rfl <;> decide
set_option maxRecDepth 100000 in
set_option maxHeartbeats 1000000 in
theorem memo59 (kb rb bb mb : Nat) (n1 : kb ≠ mb) (n2 : rb ≠ mb) (n3 : bb ≠ mb) : ∀ (k : Nat), 1 ≤ k → k ≤ 10 → ∀ (n : Nat) (w : World), n + k ≤ 1000 → (∃ D, w.ownsMap Tryd.prog 2 (plainElem (H := Unit) Tryd.prog 2) mb n D ∧ Right triL D) →
    w.cell? ⟨kb, 0, none⟩ = some (.map (some mb)) → w.cell? ⟨rb, 0, none⟩ = some (.func (.func 50) #[] #[]) → w.cell? ⟨bb, 0, none⟩ = some (.func (.func 59) #[] #[.pointer (some ⟨kb, 0, none⟩), .pointer (some ⟨rb, 0, none⟩), .pointer (some ⟨bb, 0, none⟩)]) →
    Calls Tryd.prog 59 #[.int .i64 (k : Int), .pointer (some ⟨kb, 0, none⟩), .pointer (some ⟨rb, 0, none⟩), .pointer (some ⟨bb, 0, none⟩)] w fun e w' => e = .returned (.int .i64 (triV k)) ∧ Lft w mb (n + k) w' := by
  intro k
  induction k with
  | zero => intro h; omega
  | succ j ih =>
    intro h1 h10 n w hn hD hk hr hb
    have hIH : j + 1 ≠ 1 → Calls Tryd.prog 59 #[.int .i64 (((j + 1 : Nat) : Int) - 1), .pointer (some ⟨kb, 0, none⟩), .pointer (some ⟨rb, 0, none⟩), .pointer (some ⟨bb, 0, none⟩)] w fun e w' => e = .returned (.int .i64 (triV (j + 1 - 1))) ∧ Lft w mb (n + (j + 1 - 1)) w' := by
      intro h
      have hx := ih (by omega) (by omega) n w (by omega) hD hk hr hb
      have e1 : ((j + 1 : Nat) : Int) - 1 = (j : Int) := by omega
      rw [e1]
      exact hx
    have HR := hidd (rule50 (j + 1) h1 h10 kb rb bb mb n w hD hIH)
    obtain ⟨D, hown, hright⟩ := hD
    have HO := hidd hown
    have HG := hidd hright
    have HK := hidd (And.intro hk (And.intro hr hb))
    have HX := hidd (show (Lit.int .i64 ((j + 1 : Nat) : Int)).wf = true from wf_key h10)
    have heg := ent50
    obtain ⟨K, hK⟩ : ∃ K : Int, K = ((j + 1 : Nat) : Int) := ⟨_, rfl⟩
    have hV : triL (.int .i64 K) = triV (j + 1) := by rw [hK]; rfl
    rw [← hK] at HR HX ⊢
    have HV := hidd hV
    obtain ⟨V, hVV⟩ : ∃ V : Int, V = triV (j + 1) := ⟨_, rfl⟩
    have hw : (Lit.int .i64 V).wf = true := by
      have := triV_bd (j + 1) h10
      rw [hVV]
      exact WalkArith.wf_i64 (by omega)
    rw [← hVV] at HR HV ⊢
    have HW := hidd hw
    clear hown hright hIH ih hw hV hVV hK
    cases hhas : Maps.has D (.int .i64 K) with
    | true =>
      have HH := hidd hhas
      clear hhas
      go_enter Tryd.func59, Tryd.ntmps59
      go_wp2_with (first | (at_lookup; refine wpList_lookup_own_ok_int _ rfl _ _ 62 rfl 2 2 .i64 law2 Tryd.underlying62 Tryd.underlying2 (zero2 _) mb n D rfl HO.out _ _ rfl (keyOf_int_mk Tryd.underlying2 HX.out) ?_; intro c hat hwc; rw [HH.out]) | go_in)
      have HC := hidd (HG.out.2 _ c HH.out hat)
      clear hat hwc
      go_ret
      refine ⟨?_, D, HO.out.mono (by omega), HG.out, World.grownBy.refl _ _⟩
      rw [← HV.out, ← HC.out]
      rfl
    | false =>
      have HH := hidd hhas
      clear hhas
      go_enter Tryd.func59, Tryd.ntmps59
      go_wp2_with (first | (at_lookup; refine wpList_lookup_own_ok_int _ rfl _ _ 62 rfl 2 2 .i64 law2 Tryd.underlying62 Tryd.underlying2 (zero2 _) mb n D rfl HO.out _ _ rfl (keyOf_int_mk Tryd.underlying2 HX.out) ?_; intro c hat hwc; rw [HH.out]; clear hat hwc))
      refine HR.out.mono ?_
      rintro e w1 ⟨rfl, D1, hown1, hright1, hg1⟩
      have hk1 := hg1.cell HK.out.1 (by simp [n1])
      have HO1 := hidd hown1
      have HG1 := hidd (And.intro hright1 hg1)
      clear hown1 hright1 hg1
      go_wp2_with (first | (at_mapUpdate; refine wpList_mapUpdate_own _ rfl _ _ _ 62 rfl 2 2 law2 Tryd.underlying62 _ mb (n + (j + 1 - 1)) D1 rfl HO1.out (by unfold maxLen; omega) _ _ _ rfl rfl (keyOf_int_mk Tryd.underlying2 HX.out) _ [] (plainElem_int Tryd.underlying2 HW.out) ?_; intro w2 hown2 hg2; have HZ := hidd (And.intro hown2 hg2); clear hown2 hg2))
      go_ret
      refine ⟨rfl, _, HZ.out.1, ?_, HG1.out.2.trans HZ.out.2⟩
      have h5 := HG1.out.1.put (.int .i64 K) (by trivial)
      rw [HV.out] at h5
      exact h5
end Go.Proofs.YtblehhiojednhaaDoor
