/- LeadsTo: the program. -/
import Derived.Test.YthcfcgknkheleaaLds
namespace Go.Proofs.Ythcfcgknkheleaa
set_option linter.unusedVariables false
set_option linter.unusedSimpArgs false
open Go Go.RowKit Go.Shelf
theorem rnCode_out {n k : Int} {bs : List Nat} {zs : List Int} : rnCode n k bs zs = 0 ∨ (rnCode n k bs zs ≠ 0 ∧ rnN n k bs zs = 0) := by
  by_cases h : rnCode n k bs zs = 0
  · exact .inl h
  · exact .inr ⟨h, by simp [rnN, h]⟩
theorem ld_eq {n k : Int} {bs : List Nat} {m l : Int} {cs : List Nat} {zs : List Int} (hy : isCol m l cs = true) : ldV n k bs m l cs zs = eqB (rnN n k bs zs) (rnK n k bs zs) (rnBB n k bs zs) m l cs := by
  have b2 := isCol_bd hy
  have hc : ldC n k bs m l cs zs = rnCode n k bs zs := by simp [ldC, hy]
  unfold ldV
  rw [hc]
  rcases rnCode_out (n := n) (k := k) (bs := bs) (zs := zs) with h | ⟨h, h0⟩
  · simp [rnN, rnK, h]
  · rw [decide_eq_false h, h0]
    have e : ((0 : Int) == m) = false := by simp; omega
    simp [eqB, e]
set_option maxRecDepth 100000 in
set_option maxHeartbeats 4000000 in
theorem impl7 (n k : Int) (bs : List Nat) (hb : Bys bs) (m l : Int) (cs : List Nat) (hcb : Bys cs) (zs : List Int) (a : Option Addr) (cap : Nat) (w : World) (hs : SlI w a zs) (hl : zs.length ≤ 9223372036854775807) :
    Calls Try.prog 7 #[.agg (ccells n k bs).toArray, .agg (ccells m l cs).toArray, .slice a zs.length cap] w fun e w' => e = .returned (.tuple #[.bool (ldV n k bs m l cs zs), .int .i64 (ldC n k bs m l cs zs)]) ∧ Below w.heap.size w w' := by
  have HS := hidd (size_c26 n k hb)
  have HT := hidd (size_c26 m l hcb)
  have Hz := zero26
  have HSL := hidd hs
  have HWX := hidd (show Blk ((w.alloc (.cells (ccells n k bs).toArray 28)).alloc (.cells (ccells m l cs).toArray 28)) w.heap.size (ccells n k bs).toArray 28 ∧ Blk ((w.alloc (.cells (ccells n k bs).toArray 28)).alloc (.cells (ccells m l cs).toArray 28)) (w.heap.size + 1) (ccells m l cs).toArray 28 ∧ Below w.heap.size w ((w.alloc (.cells (ccells n k bs).toArray 28)).alloc (.cells (ccells m l cs).toArray 28)) from
    ⟨(Blk.new _ _ _ _ rfl).alloc _, Blk.new _ _ _ _ (by simp), ((Below.refl w.heap.size w).alloc (Nat.le_refl _) _).alloc (by simp) _⟩)
  obtain ⟨V, hV⟩ : ∃ V, V = ldV n k bs m l cs zs := ⟨_, rfl⟩
  obtain ⟨cd, hcd⟩ : ∃ cd, cd = ldC n k bs m l cs zs := ⟨_, rfl⟩
  rw [← hV, ← hcd]
  have HV := hidd hV
  have HCD := hidd hcd
  clear hV hcd hs
  cases hx : isCol n k bs with
  | false =>
    obtain rfl : cd = 1 := by rw [HCD.out]; unfold ldC; split <;> simp [rnCode, hx]
    obtain rfl : V = false := by rw [HV.out]; unfold ldV; rw [← HCD.out]; rfl
    have HX := hidd hx
    clear hx
    go_enter Try.func7, Try.ntmps7
    go_wp2_with (refine wpList_load_row rfl 28 (.tmp 3) rfl w.heap.size rfl 28 _ (0,0) _ HWX.out.1 Try.underlying28 rfl HS.out ?_)
    refine (implIs_any n k bs hb _).mono ?_
    rintro e w1 ⟨rfl, hb1⟩
    rw [HX.out]
    have G := hidd (HWX.out.2.2.trans (hb1.mono HWX.out.2.2.size))
    clear hb1
    go_wp2_with fail
    go_ret2
    exact ⟨rfl, G.out⟩
  | true =>
    have b1 := isCol_bd hx
    cases hy : isCol m l cs with
    | false =>
      obtain rfl : cd = 1 := by rw [HCD.out]; simp [ldC, hy]
      obtain rfl : V = false := by rw [HV.out]; unfold ldV; rw [← HCD.out]; rfl
      have HX := hidd hx
      have HY := hidd hy
      clear hx hy
      go_enter Try.func7, Try.ntmps7
      go_wp2_with (refine wpList_load_row rfl 28 (.tmp 3) rfl w.heap.size rfl 28 _ (0,0) _ HWX.out.1 Try.underlying28 rfl HS.out ?_)
      refine (implIs_any n k bs hb _).mono ?_
      rintro e w1 ⟨rfl, hb1⟩
      rw [HX.out]
      have G1 := hidd (And.intro (HWX.out.2.1.below hb1 HWX.out.2.1.lt) (HWX.out.2.2.trans (hb1.mono HWX.out.2.2.size)))
      clear hb1
      go_wp2_with (refine wpList_load_if rfl 28 (.tmp 4) rfl (w.heap.size + 1) rfl 28 _ _ G1.out.1 Try.underlying28 rfl HT.out ?_)
      refine (implIs_any m l cs hcb _).mono ?_
      rintro e w2 ⟨rfl, hb1⟩
      rw [HY.out]
      have G := hidd (G1.out.2.trans (hb1.mono G1.out.2.size))
      clear hb1
      go_wp2_with fail
      go_ret2
      exact ⟨rfl, G.out⟩
    | true =>
      have HCD2 := hidd (show cd = rnCode n k bs zs by rw [HCD.out]; simp [ldC, hy])
      have HVE := hidd (show V = eqB (rnN n k bs zs) (rnK n k bs zs) (rnBB n k bs zs) m l cs by rw [HV.out]; exact ld_eq hy)
      have hrb := rnBB_bys n k hb zs
      have HRI := hidd (fun W h => impl32r n k bs hb zs a cap W h hl)
      have HX := hidd hx
      have HY := hidd hy
      obtain ⟨rn, hrn⟩ : ∃ v, v = rnN n k bs zs := ⟨_, rfl⟩
      obtain ⟨rk, hrk⟩ : ∃ v, v = rnK n k bs zs := ⟨_, rfl⟩
      obtain ⟨rb, hrb2⟩ : ∃ v, v = rnBB n k bs zs := ⟨_, rfl⟩
      have HRO := hidd (show rnOut n k bs zs = .tuple #[.agg (ccells rn rk rb).toArray, .int .i64 cd] by rw [hrn, hrk, hrb2, HCD2.out]; rfl)
      rw [← hrn, ← hrk, ← hrb2] at HVE
      rw [← hrb2] at hrb
      have HSR := hidd (size_c26 rn rk hrb)
      have HOR := hidd (size_cc 0 0 rn rk zbl_bys hrb)
      have HAR := hidd (ccells_one rn rk rb)
      have HBY := hidd hrb
      clear hx hy hrn hrk hrb2 hrb
      go_enter Try.func7, Try.ntmps7
      go_wp2_with (refine wpList_load_row rfl 28 (.tmp 3) rfl w.heap.size rfl 28 _ (0,0) _ HWX.out.1 Try.underlying28 rfl HS.out ?_)
      refine (implIs_any n k bs hb _).mono ?_
      rintro e w1 ⟨rfl, hb1⟩
      rw [HX.out]
      have G1 := hidd (And.intro (HWX.out.2.1.below hb1 HWX.out.2.1.lt) (And.intro (HWX.out.2.2.trans (hb1.mono HWX.out.2.2.size)) (HWX.out.1.below hb1 HWX.out.1.lt)))
      clear hb1
      go_wp2_with (refine wpList_load_if rfl 28 (.tmp 4) rfl (w.heap.size + 1) rfl 28 _ _ G1.out.1 Try.underlying28 rfl HT.out ?_)
      refine (implIs_any m l cs hcb _).mono ?_
      rintro e w2 ⟨rfl, hb1⟩
      rw [HY.out]
      have G := hidd (And.intro (G1.out.2.1.trans (hb1.mono G1.out.2.1.size)) (And.intro (G1.out.2.2.below hb1 G1.out.2.2.lt) (G1.out.1.below hb1 G1.out.1.lt)))
      clear hb1
      go_wp2_with (refine wpList_load_row rfl 28 (.tmp 3) rfl w.heap.size rfl 28 _ (0,0) _ G.out.2.1 Try.underlying28 rfl HS.out ?_)
      refine (HRI.out _ (sl_below2 HSL.out G.out.1)).mono ?_
      rintro e w3 ⟨rfl, hb3⟩
      rw [HRO.out]
      have g1 := G.out.1.trans (hb3.mono G.out.1.size)
      have g2 := G.out.2.2.below hb3 G.out.2.2.lt
      have n1 := Blk.new w3 (ccells 0 0 zbl).toArray 28 _ rfl
      have K := hidd (And.intro (n1.rowSame (ccells rn rk rb).toArray) (And.intro ((g2.alloc (.cells (ccells 0 0 zbl).toArray 28)).rowOther w3.heap.size (ccells rn rk rb).toArray (by have := g2.lt; omega)) (below_setRow (g1.alloc g1.size (.cells (ccells 0 0 zbl).toArray 28)) (g := w3.heap.size) g1.size (ccells rn rk rb).toArray)))
      clear hb3 g1 g2 n1
      go_wp2_with (first
        | (refine wpList_store_row rfl 28 (.tmp 8) (.tmp 22) rfl w3.heap.size _ rfl rfl 28 _ (Blk.new _ _ _ _ rfl) HSR.out HOR.out HAR.out ?_)
        | (refine wpList_load_row rfl 28 (.tmp 8) rfl w3.heap.size rfl 28 _ (0,0) _ K.out.1 Try.underlying28 rfl HSR.out ?_)
        | (refine wpList_load_row rfl 28 (.tmp 4) rfl (w.heap.size + 1) rfl 28 _ (0,0) _ K.out.2.1 Try.underlying28 rfl HT.out ?_)
        | (refine wpList_eqlG rfl (.tmp 24) (.tmp 25) rfl rn rk m l rb cs HBY.out hcb rfl rfl ?_))
      go_ret2
      exact ⟨by rw [HVE.out]; rfl, K.out.2.2⟩
end Go.Proofs.Ythcfcgknkheleaa
