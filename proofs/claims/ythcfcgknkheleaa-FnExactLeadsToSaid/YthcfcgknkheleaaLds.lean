/- LeadsTo: its model and the program. -/
import Derived.Test.YthcfcgknkheleaaLdt
import Derived.Test.YthcfcgknkheleaaOrM
namespace Go.Proofs.Ythcfcgknkheleaa
set_option linter.unusedVariables false
set_option linter.unusedSimpArgs false
open Go Go.RowKit Go.Shelf
theorem wp_region_quiet_at {P : Program} {id : Nat} {Q : Exit → Act → World → Prop} {a : Act} {w : World} {l : List Oper} (C : World → Prop) (hm : P.follows .mixedOrders = true) (hB : Region.lexB .any l.toArray = true) (hC : C w.drew)
    (h : wpQuiet P l.toArray C (fun a' => ∀ w', C w' → Q .normal a' w') l a) : (Code.region id l.toArray true).wp P Q a w :=
  wp_region_quiet (C := C) hm hB hC (by simpa using h)
theorem sl_below2 {w w' : World} {a : Option Addr} {zs : List Int} (h : SlI w a zs) (hb : Below w.heap.size w w') : SlI w' a zs := h.below hb (Nat.le_refl _)
set_option maxRecDepth 100000 in
set_option maxHeartbeats 4000000 in
theorem spec4 (n k : Int) (bs : List Nat) (hb : Bys bs) (m l : Int) (cs : List Nat) (hcb : Bys cs) (zs : List Int) (a : Option Addr) (cap : Nat) (w : World) (hs : SlI w a zs) (hl : zs.length ≤ 9223372036854775807) :
    Calls Try.prog 4 #[.agg (ccells n k bs).toArray, .agg (ccells m l cs).toArray, .slice a zs.length cap] w fun e w' => e = .returned (.tuple #[.bool (ldV n k bs m l cs zs), .int .i64 (ldC n k bs m l cs zs)]) ∧ Below w.heap.size w w' := by
  have HS := hidd (size_c26 n k hb)
  have HT := hidd (size_c26 m l hcb)
  have HSL := hidd hs
  have HWX := hidd (show Blk ((w.alloc (.cells (ccells n k bs).toArray 28)).alloc (.cells (ccells m l cs).toArray 28)) w.heap.size (ccells n k bs).toArray 28 ∧ Blk ((w.alloc (.cells (ccells n k bs).toArray 28)).alloc (.cells (ccells m l cs).toArray 28)) (w.heap.size + 1) (ccells m l cs).toArray 28 ∧ Below w.heap.size w ((w.alloc (.cells (ccells n k bs).toArray 28)).alloc (.cells (ccells m l cs).toArray 28)) from
    ⟨(Blk.new _ _ _ _ rfl).alloc _, Blk.new _ _ _ _ (by simp), ((Below.refl w.heap.size w).alloc (Nat.le_refl _) _).alloc (by simp) _⟩)
  obtain ⟨V, hV⟩ : ∃ V, V = ldV n k bs m l cs zs := ⟨_, rfl⟩
  obtain ⟨cd, hcd⟩ : ∃ cd, cd = ldC n k bs m l cs zs := ⟨_, rfl⟩
  rw [← hV, ← hcd]
  have HV := hidd hV
  have HCD := hidd hcd
  clear hV hcd hs
  cases hx : isCol n k bs with
  | false =>
    obtain rfl : cd = 1 := by rw [HCD.out]; unfold ldC; split <;> simp [rnCode, hx]
    obtain rfl : V = false := by rw [HV.out]; unfold ldV; rw [← HCD.out]; rfl
    have HX := hidd hx
    clear hx
    go_enter Try.func4, Try.ntmps4
    go_wp2_with (refine wpList_load_row rfl 28 (.tmp 3) rfl w.heap.size rfl 28 _ (0,0) _ HWX.out.1 Try.underlying28 rfl HS.out ?_)
    refine (l01Is_any n k bs hb _).mono ?_
    rintro e w1 ⟨rfl, hb1⟩
    rw [HX.out]
    have G := hidd (HWX.out.2.2.trans (hb1.mono HWX.out.2.2.size))
    clear hb1
    go_wp2_with fail
    go_ret2
    exact ⟨rfl, G.out⟩
  | true =>
    have b1 := isCol_bd hx
    cases hy : isCol m l cs with
    | false =>
      obtain rfl : cd = 1 := by rw [HCD.out]; simp [ldC, hy]
      obtain rfl : V = false := by rw [HV.out]; unfold ldV; rw [← HCD.out]; rfl
      have HX := hidd hx
      have HY := hidd hy
      clear hx hy
      go_enter Try.func4, Try.ntmps4
      go_wp2_with (refine wpList_load_row rfl 28 (.tmp 3) rfl w.heap.size rfl 28 _ (0,0) _ HWX.out.1 Try.underlying28 rfl HS.out ?_)
      refine (l01Is_any n k bs hb _).mono ?_
      rintro e w1 ⟨rfl, hb1⟩
      rw [HX.out]
      have G1 := hidd (And.intro (HWX.out.2.1.below hb1 HWX.out.2.1.lt) (HWX.out.2.2.trans (hb1.mono HWX.out.2.2.size)))
      clear hb1
      go_wp2_with (refine wpList_load_if rfl 28 (.tmp 4) rfl (w.heap.size + 1) rfl 28 _ _ G1.out.1 Try.underlying28 rfl HT.out ?_)
      refine (l01Is_any m l cs hcb _).mono ?_
      rintro e w2 ⟨rfl, hb1⟩
      rw [HY.out]
      have G := hidd (G1.out.2.trans (hb1.mono G1.out.2.size))
      clear hb1
      go_wp2_with fail
      go_ret2
      exact ⟨rfl, G.out⟩
    | true =>
      obtain ⟨N, rfl⟩ : ∃ N : Nat, n = (N : Int) := ⟨n.toNat, by omega⟩
      have HCD2 := hidd (show cd = rnCode (N : Int) k bs zs by rw [HCD.out]; simp [ldC, hy])
      have HX := hidd hx
      have HY := hidd hy
      have HO := hidd (fun W h => order63 zs a cap (N : Int) W h hl b1.1 b1.2.1)
      have hN1 : 1 ≤ N := by omega
      have hN17 : N ≤ 17 := by omega
      cases ho : ordB zs (N : Int) with
      | false =>
        obtain rfl : cd = 2 := by rw [HCD2.out]; exact rnCode_2 hx ho
        obtain rfl : V = false := by rw [HV.out]; unfold ldV; rw [← HCD.out]; rfl
        have HOB := hidd ho
        clear hx hy ho
        go_enter Try.func4, Try.ntmps4
        go_wp2_with (refine wpList_load_row rfl 28 (.tmp 3) rfl w.heap.size rfl 28 _ (0,0) _ HWX.out.1 Try.underlying28 rfl HS.out ?_)
        refine (l01Is_any (N : Int) k bs hb _).mono ?_
        rintro e w1 ⟨rfl, hb1⟩
        rw [HX.out]
        have G1 := hidd (And.intro (HWX.out.2.1.below hb1 HWX.out.2.1.lt) (And.intro (HWX.out.2.2.trans (hb1.mono HWX.out.2.2.size)) (HWX.out.1.below hb1 HWX.out.1.lt)))
        clear hb1
        go_wp2_with (refine wpList_load_if rfl 28 (.tmp 4) rfl (w.heap.size + 1) rfl 28 _ _ G1.out.1 Try.underlying28 rfl HT.out ?_)
        refine (l01Is_any m l cs hcb _).mono ?_
        rintro e w2 ⟨rfl, hb1⟩
        rw [HY.out]
        have c0 := (G1.out.2.2.below hb1 G1.out.2.2.lt).cell (j := 0) (show _ = some (Value.int .i64 (N : Int)) from rfl)
        have G := hidd (G1.out.2.1.trans (hb1.mono G1.out.2.1.size))
        clear hb1
        go_wp2_with fail
        refine (HO.out _ (sl_below2 HSL.out G.out)).mono ?_
        rintro e w3 ⟨rfl, hb3⟩
        rw [HOB.out]
        have G3 := hidd (G.out.trans (hb3.mono G.out.size))
        clear hb3 c0
        go_wp2_with fail
        go_ret2
        exact ⟨rfl, G3.out⟩
      | true =>
        have HRN := hidd (rnCode_0 hx ho)
        obtain rfl : cd = 0 := by rw [HCD2.out]; exact HRN.out
        have HVE := hidd (show V = eqB (N : Int) k (rnB N zs bs) m l cs by rw [HV.out]; unfold ldV; rw [← HCD.out]; simp [rnBB, HRN.out])
        have HRB := hidd (show Bys (rnB N zs bs) by have h := rnBB_bys (N : Int) k hb zs; unfold rnBB at h; rw [HRN.out, if_pos rfl] at h; simpa using h)
        have HRE := hidd (fun W h => renamed64 N k bs hb zs a cap W h hN1 hN17 ho)
        have HOB := hidd ho
        clear hx hy ho
        go_enter Try.func4, Try.ntmps4
        go_wp2_with (refine wpList_load_row rfl 28 (.tmp 3) rfl w.heap.size rfl 28 _ (0,0) _ HWX.out.1 Try.underlying28 rfl HS.out ?_)
        refine (l01Is_any (N : Int) k bs hb _).mono ?_
        rintro e w1 ⟨rfl, hb1⟩
        rw [HX.out]
        have G1 := hidd (And.intro (HWX.out.2.1.below hb1 HWX.out.2.1.lt) (And.intro (HWX.out.2.2.trans (hb1.mono HWX.out.2.2.size)) (HWX.out.1.below hb1 HWX.out.1.lt)))
        clear hb1
        go_wp2_with (refine wpList_load_if rfl 28 (.tmp 4) rfl (w.heap.size + 1) rfl 28 _ _ G1.out.1 Try.underlying28 rfl HT.out ?_)
        refine (l01Is_any m l cs hcb _).mono ?_
        rintro e w2 ⟨rfl, hb1⟩
        rw [HY.out]
        have c0 := (G1.out.2.2.below hb1 G1.out.2.2.lt).cell (j := 0) (show _ = some (Value.int .i64 (N : Int)) from rfl)
        have G := hidd (And.intro (G1.out.2.1.trans (hb1.mono G1.out.2.1.size)) (And.intro (G1.out.2.2.below hb1 G1.out.2.2.lt) (G1.out.1.below hb1 G1.out.1.lt)))
        clear hb1
        go_wp2_with fail
        refine (HO.out _ (sl_below2 HSL.out G.out.1)).mono ?_
        rintro e w3 ⟨rfl, hb3⟩
        rw [HOB.out]
        have G3 := hidd (And.intro (G.out.1.trans (hb3.mono G.out.1.size)) (And.intro (G.out.2.1.below hb3 G.out.2.1.lt) (G.out.2.2.below hb3 G.out.2.2.lt)))
        clear hb3 c0
        go_wp2_with fail
        refine wp_region_quiet_at (fun w' => Below w3.heap.size w3 w') rfl (by kernel_rfl) ((Below.refl _ _).drew) ?_
        refine qs rfl (fun KQ hKQ => ?_)
        apply Exists.intro
        refine ⟨fun w' hw' => ?_, ?_⟩
        · exact quietRow 28 (.tmp 3) rfl w.heap.size rfl 28 _ _ (G3.out.2.1.below hw' G3.out.2.1.lt) Try.underlying28 rfl HS.out
        go_simp
        refine hKQ _ ?_
        clear hKQ KQ
        refine qs rfl (fun KQ hKQ => ?_)
        apply Exists.intro
        refine ⟨fun w' hw' => ?_, ?_⟩
        · go_simp; exact rfl
        go_simp
        refine hKQ _ ?_
        clear hKQ KQ
        refine qs rfl (fun KQ hKQ => ?_)
        apply Exists.intro
        refine ⟨fun w' hw' => ?_, ?_⟩
        · go_simp; exact (HRE.out _ (sl_below2 HSL.out (G3.out.1.trans (hw'.mono G3.out.1.size)))).mono fun _ _ h => ⟨h.1, hw'.trans (h.2.mono hw'.size)⟩
        go_simp
        refine hKQ _ ?_
        clear hKQ KQ
        refine qs rfl (fun KQ hKQ => ?_)
        apply Exists.intro
        refine ⟨fun w' hw' => ?_, ?_⟩
        · exact quietRow 28 (.tmp 4) rfl (w.heap.size + 1) rfl 28 _ _ (G3.out.2.2.below hw' G3.out.2.2.lt) Try.underlying28 rfl HT.out
        go_simp
        refine hKQ _ ?_
        clear hKQ KQ
        refine qs rfl (fun KQ hKQ => ?_)
        apply Exists.intro
        refine ⟨fun w' hw' => ?_, ?_⟩
        · exact quietEqlG (.tmp 25) (.tmp 26) rfl (N : Int) k m l (rnB N zs bs) cs HRB.out hcb rfl rfl
        go_simp
        refine hKQ _ ?_
        clear hKQ KQ
        refine qs rfl (fun KQ hKQ => ?_)
        apply Exists.intro
        refine ⟨fun w' hw' => ?_, ?_⟩
        · go_simp; exact rfl
        go_simp
        refine hKQ _ ?_
        clear hKQ KQ
        refine qs rfl (fun KQ hKQ => ?_)
        apply Exists.intro
        refine ⟨fun w' hw' => ?_, ?_⟩
        · go_simp; exact rfl
        go_simp
        refine hKQ _ ?_
        clear hKQ KQ
        refine wpQuiet_nil ?_
        intro w' hw'
        have G4 := hidd (G3.out.1.trans (hw'.mono G3.out.1.size))
        clear hw'
        go_wp2_with fail
        go_ret2
        exact ⟨by rw [HVE.out]; rfl, G4.out⟩
end Go.Proofs.Ythcfcgknkheleaa
