/- textOf: the walk. -/
import Derived.Test.YtilpfhiebbbbjaaDoorTof
import Derived.Test.YtilpfhiebbbbjaaDoorHdt
namespace Go.Proofs.YtilpfhiebbbbjaaDoor
set_option linter.unusedVariables false
set_option linter.unusedSimpArgs false
open Go Go.RowKit Go.Shelf
attribute [local go_sem] Oper.semAt_some
set_option maxRecDepth 100000 in
set_option maxHeartbeats 4000000 in
theorem tof11 (N : Nat) (k : Int) (bs : List Nat) (hb : Bys bs) (w : World) (hi : isCol (N : Int) k bs = true) :
    Calls Tryd.prog 11 #[.agg (ccells (N : Int) k bs).toArray] w fun e w' => e = .returned (.string (strOfNums (txF (N : Int) k bs (eseq N)))) ∧ Below w.heap.size w w' := by
  obtain ⟨N1, N2, K1, K2⟩ := isCol_bd hi
  have HI := hidd hi
  have HC0 := hidd (show (ccells (N : Int) k bs).toArray[0]? = some (.int .i64 (N : Int)) from rfl)
  have HC1 := hidd (show (ccells (N : Int) k bs).toArray[1]? = some (.int .i64 k) from rfl)
  have HBY := hidd hb
  have l1 := dg_len (N : Int)
  have l2 := dg_len k
  have HA1 := hidd (fun W hB hown => appi17 (N : Int) (by omega) (by omega) (w.heap.size + 1) (.slice none 0 0) [] (by simp) W hB hown)
  have HA2 := hidd (fun a l c (hl : l = (dg (N : Int) ++ [44]).length) W hB (hown : W.ownsRow (w.heap.size + 1) 5 1 (.slice a l c) l (bI (dg (N : Int) ++ [44]))) => appi17 k (by omega) (by omega) (w.heap.size + 1) (.slice a l c) (dg (N : Int) ++ [44]) (by simp; omega) W hB (by rw [← hl]; exact hown))
  have HT := hidd (show ((dg (N : Int) ++ [44]) ++ dg k) ++ [58] = txF (N : Int) k bs [] from by rw [txF_nil]; rfl)
  obtain ⟨A1, hA1⟩ : ∃ A1, A1 = dg (N : Int) := ⟨_, rfl⟩
  obtain ⟨A2, hA2⟩ : ∃ A2, A2 = dg k := ⟨_, rfl⟩
  rw [← hA1] at HA1 HA2 HT l1
  rw [← hA2] at HA2 HT l2
  have HL := hidd (And.intro l1 l2)
  obtain ⟨A3, hA3⟩ : ∃ A3, A3 = A1 ++ [44] := ⟨_, rfl⟩
  rw [← hA3] at HA2 HT
  obtain ⟨A4, hA4⟩ : ∃ A4, A4 = A3 ++ A2 := ⟨_, rfl⟩
  rw [← hA4] at HT
  have E3 := hidd hA3.symm
  have E4 := hidd hA4.symm
  have N3 := hidd (show A3.length ≤ 3 by rw [hA3, List.length_append]; simp; omega)
  have N4 := hidd (show A4.length ≤ 5 by rw [hA4, hA3, List.length_append, List.length_append]; simp; omega)
  clear hA3 hA4
  obtain ⟨t0, hi2, hz0, hz1, hz3⟩ := info_parts info5
  have HIF := hidd (And.intro hi2 (And.intro hz0 (And.intro hz1 hz3)))
  clear hi2 hz0 hz1 hz3 hA1 hA2 l1 l2 hi hb
  have hfn : ∀ f, Fence.wide.fn f := fun _ => trivial
  have H0 := hidd (show Blk (w.alloc (.cells (ccells (N : Int) k bs).toArray 27)) w.heap.size (ccells (N : Int) k bs).toArray 27 from Blk.new _ _ _ _ rfl)
  have hc0 := H0.out.cell HC0.out
  refine (callsIn_wide (n := 8)).1 (callsIn_of_wp_marks Tryd.func11 rfl trivial ?_ rfl)
  simp only [Tryd.ntmps11, List.size_toArray, List.length_cons, List.length_nil, Nat.reduceAdd, Nat.reduceSub, Array.replicate_succ, Array.replicate_zero, List.push_toArray, List.append_toArray, List.nil_append, List.cons_append]
  gi_wp2_with fail
  refine (callsIn_wide.2 (HA1.out _ (by simp) (nil_own _ _))).mono ?_
  rintro e W1 ⟨v1, rfl, ho1, hg1⟩
  obtain ⟨a1, c1, rfl⟩ := own_shape ho1
  have hB1 := hidd (app_below (nil_own (w.alloc (.cells (ccells (N : Int) k bs).toArray 27)) (w.heap.size + 1)) hg1 (by simp))
  have hbw : Below w.heap.size w W1 := ((Below.refl _ _).alloc (Nat.le_refl _) _).trans (hB1.out.mono (by omega))
  have hC1 := H0.out.below hB1.out (by omega)
  rw [show ([] : List Int).length + A1.length = A1.length by simp] at ho1 ⊢
  obtain ⟨m1, hm1⟩ : ∃ m1, m1 = A1.length := ⟨_, rfl⟩
  rw [← hm1] at ho1 ⊢
  have R1 := hidd (show RX (ccells (N : Int) k bs).toArray w W1.heap.size a1 m1 c1 A1 (W1.alloc (.cells #[.slice a1 m1 c1] 38)) from
    ⟨hC1.alloc _, Blk.new _ _ _ _ rfl, own_below (by simpa using ho1) ((Below.refl W1.heap.size W1).alloc (Nat.le_refl _) _) (Nat.le_refl _), hbw.alloc hbw.size _, hC1.lt, hm1⟩)
  have HLWb := hidd (show m1 ≤ 2 by have := HL.out.1; omega)
  have c9 := R1.out.2.1.cell (j := 0) rfl
  clear ho1 hg1 hB1 hbw hC1 hc0 H0 hm1
  have ALWb := hidd (R1.out.below ((Below.refl (W1.alloc (.cells #[.slice a1 m1 c1] 38)).heap.size (W1.alloc (.cells #[.slice a1 m1 c1] 38))).alloc (Nat.le_refl _) (.cells #[.int .u8 44] 5)))
  gi_wp2_with (gi_at_builtin; refine wpListIn_append_own _ rfl _ _ 38 rfl (w.heap.size + 1) 5 t0 (.int .u8 0) 1 1 Tryd.underlying38 HIF.out.1 HIF.out.2.1 HIF.out.2.2.1 HIF.out.2.2.2 rfl (by decide) _ _ _ rfl ALWb.out.2.2.1 ⟨W1.heap.size + 1, 0, none⟩ 1 1 [.int .u8 44] rfl rfl ?c1 ?c2 ?c3 ?c4 ?c5 ?_)
  case c1 => intro j u hu; have h1 := one_new (W1.alloc (.cells #[.slice a1 m1 c1] 38)) (.int .u8 44) 5 j u hu; rw [show (W1.alloc (.cells #[.slice a1 m1 c1] 38)).heap.size = W1.heap.size + 1 from by simp] at h1; exact h1
  case c2 => intro u hu; simp at hu; subst hu; rfl
  case c3 => unfold maxLen; have := HLWb.out; omega
  case c4 => have := HLWb.out; omega
  case c5 => have := R1.out.1.lt; simp at this ⊢; omega
  intro v' wWb hown' hgrow _
  obtain ⟨a2, l2, c2, rfl, hlWb, h38, RR, hstay, hkeep⟩ := ALWb.out.grown hown' hgrow (d := [44]) rfl rfl
  rw [E3.out] at RR hlWb
  have WbR := hidd RR
  have STWb := hidd hstay
  have KEWb := hidd hkeep
  have s9 := h38.cell (j := 0) rfl
  have f9 := h38.fro 0
  have HLc := hidd hlWb
  have c11 := RR.2.1.cell (j := 0) rfl
  have ck := RR.1.cell HC1.out
  clear c9 hown' hgrow hlWb h38 RR hstay hkeep
  gi_wp2_with fail
  refine (callsIn_wide.2 (HA2.out a2 l2 c2 HLc.out _ (by have := WbR.out.1.lt; omega) WbR.out.2.2.1)).mono ?_
  rintro e W3 ⟨v3, rfl, ho3, hg3⟩
  obtain ⟨a3, l3, c3, rfl, hl3, h38, RR, hstay, hkeep⟩ := WbR.out.grown ho3 hg3 (d := A2) (by rw [HLc.out]) (bI_app _ _)
  rw [E4.out] at RR hl3
  have R3 := hidd RR
  have s9 := h38.cell (j := 0) rfl
  have f9 := h38.fro 0
  have HL3 := hidd hl3
  have HLWd := hidd (show l3 ≤ 5 by rw [hl3]; exact N4.out)
  have c16 := RR.2.1.cell (j := 0) rfl
  clear c11 ck ho3 hg3 hl3 h38 RR hstay hkeep
  have ALWd := hidd (R3.out.below ((Below.refl (W3.setCell ⟨W1.heap.size, 0, none⟩ (.slice a3 l3 c3)).heap.size (W3.setCell ⟨W1.heap.size, 0, none⟩ (.slice a3 l3 c3))).alloc (Nat.le_refl _) (.cells #[.int .u8 58] 5)))
  gi_wp2_with (gi_at_builtin; refine wpListIn_append_own _ rfl _ _ 38 rfl (w.heap.size + 1) 5 t0 (.int .u8 0) 1 1 Tryd.underlying38 HIF.out.1 HIF.out.2.1 HIF.out.2.2.1 HIF.out.2.2.2 rfl (by decide) _ _ _ rfl ALWd.out.2.2.1 ⟨W3.heap.size, 0, none⟩ 1 1 [.int .u8 58] rfl rfl ?c1 ?c2 ?c3 ?c4 ?c5 ?_)
  case c1 => intro j u hu; have h1 := one_new (W3.setCell ⟨W1.heap.size, 0, none⟩ (.slice a3 l3 c3)) (.int .u8 58) 5 j u hu; rw [show (W3.setCell ⟨W1.heap.size, 0, none⟩ (.slice a3 l3 c3)).heap.size = W3.heap.size from by simp] at h1; exact h1
  case c2 => intro u hu; simp at hu; subst hu; rfl
  case c3 => unfold maxLen; have := HLWd.out; omega
  case c4 => have := HLWd.out; omega
  case c5 => have := R3.out.1.lt; simp at this ⊢; omega
  intro v' wWd hown' hgrow _
  obtain ⟨a4, l4, c4, rfl, hlWd, h38, RR, hstay, hkeep⟩ := ALWd.out.grown hown' hgrow (d := [58]) rfl rfl
  rw [HT.out] at RR hlWd
  have WdR := hidd RR
  have STWd := hidd hstay
  have KEWd := hidd hkeep
  have s9 := h38.cell (j := 0) rfl
  have f9 := h38.fro 0
  have HL4 := hidd hlWd
  have c16 := RR.1.cell HC0.out
  clear hown' hgrow hlWd h38 RR hstay hkeep
  gi_wp2_with (gi_at_call 18; refine (callsIn_wide.2 (edges66 _ _)).mono ?_; rintro e w' ⟨rfl, rfl⟩)
  obtain ⟨b3, hb3⟩ : ∃ b3, b3 = W1.heap.size := ⟨_, rfl⟩
  rw [← hb3] at WdR ⊢
  obtain ⟨W0, hW0⟩ : ∃ W0, W0 = (wWd.setCell ⟨b3, 0, none⟩ (.slice a4 l4 c4)).alloc (.cells #[.int .i64 (N : Int)] 2) := ⟨_, rfl⟩
  have hRX0 : RX (ccells (N : Int) k bs).toArray w b3 a4 l4 c4 (txF (N : Int) k bs []) W0 := by rw [hW0]; exact WdR.out.below ((Below.refl _ _).alloc (Nat.le_refl _) _)
  have hBn : Blk W0 wWd.heap.size #[.int .i64 (N : Int)] 2 := by rw [hW0]; exact Blk.new _ _ _ _ (by simp)
  have hWs : W0.heap.size = wWd.heap.size + 1 := by rw [hW0]; simp
  have hww := hRX0.2.2.2.1.size
  rw [← hW0]
  clear hW0 hb3
  refine wpIn_rangeFunc_ownH rfl (by omega) (gf := 22) (lb := #[.pointer (some ⟨wWd.heap.size, 0, none⟩)]) rfl trivial (enters_of Tryd.func22 (by kernel_rfl) rfl)
    (seq80 6 wWd.heap.size N (by omega) (by omega) W0 hBn) kpB_t (kpB_b hBn.lt) (Below.refl _ _) (fun _ => rfl)
    (fun pre W => (∃ a l c, RX (ccells (N : Int) k bs).toArray w b3 a l c (txF (N : Int) k bs (pre.map Edg.v)) W) ∧ Blk W wWd.heap.size #[.int .i64 (N : Int)] 2)
    (fun _ _ _ => False)
    (fun s A B row hs hg hr => ⟨by obtain ⟨a, l, c, h⟩ := hs.1; exact ⟨a, l, c, h.own hww hg hr⟩, blk_own hs.2 hg hr⟩)
    (fun _ _ _ _ _ hs _ _ => hs)
    ⟨⟨_, _, _, hRX0⟩, hBn⟩
    (fun x a' W => ∃ b y6 y7 y8 y9 y10 y11 y12 y13 y14 y15 y16 y17 y18 y19 y20 y21, a' = { tmps := #[.agg (ccells (N : Int) k bs).toArray, .pointer (some ⟨w.heap.size, 0, none⟩), .string { data := #[] }, .pointer (some ⟨b3, 0, none⟩), .int .i64 (x.1.1 : Int), .pointer (some ⟨b, 0, none⟩), y6, y7, y8, y9, y10, y11, y12, y13, y14, y15, y16, y17, y18, y19, y20, y21, .int .i64 (x.1.1 : Int), .agg #[.int .i64 (x.1.2.1 : Int), .int .i64 (x.1.2.2 : Int)], undef, undef, undef, undef, undef, undef, undef, undef, undef, undef, undef, undef, undef, undef, undef, undef, undef, undef, undef, undef, undef], defers := [] } ∧ Blk W b #[.int .i64 (x.1.2.1 : Int), .int .i64 (x.1.2.2 : Int)] 44)
    (fun x a' s A B row hs hg hr => by obtain ⟨b, y6, y7, y8, y9, y10, y11, y12, y13, y14, y15, y16, y17, y18, y19, y20, y21, h1, h2⟩ := hs; exact ⟨b, y6, y7, y8, y9, y10, y11, y12, y13, y14, y15, y16, y17, y18, y19, y20, y21, h1, blk_own h2 hg hr⟩) ?assign ?body ?done ?stop
  case assign =>
    intro l pre x W Kx hI hK
    have HI := hidd hI
    have HK := hidd hK
    clear hI hK
    dsimp only [encE]
    gi_wp2
    refine HK.out _ _ ((KeepsOthers.alloc W _).from _) ?_ ?_ ?_
    · exact Below.heap_alloc W _ _ HI.out.2.lt
    · exact ⟨by obtain ⟨a, l, c, h⟩ := HI.out.1; exact ⟨a, l, c, h.below ((Below.refl _ _).alloc (Nat.le_refl _) _)⟩, HI.out.2.alloc _⟩
    · exact ⟨W.heap.size, _, _, _, _, _, _, _, _, _, _, _, _, _, _, _, _, rfl, Blk.new _ _ _ _ rfl⟩
  case body =>
    rintro l pre x a' W hl _ ⟨⟨a5, l5, c5, hR⟩, hBn'⟩ ⟨b, y6, y7, y8, y9, y10, y11, y12, y13, y14, y15, y16, y17, y18, y19, y20, y21, rfl, h7⟩ hlen
    obtain ⟨hx1, hx2, hx3⟩ := x.2
    have hxl := x.lt
    have h17 := eN_17 (show N ≤ 17 by omega)
    obtain ⟨j, hj⟩ : ∃ j, j = x.1.1 := ⟨_, rfl⟩
    obtain ⟨lo, hlo⟩ : ∃ lo, lo = x.1.2.1 := ⟨_, rfl⟩
    obtain ⟨hi, hhi⟩ : ∃ hi, hi = x.1.2.2 := ⟨_, rfl⟩
    rw [← hlo, ← hhi] at h7 hx2
    rw [← hj] at hxl ⊢
    rw [← hlo, ← hhi]
    have hxv : Edg.v x = (j, lo, hi) := by show x.1 = _; rw [hj, hlo, hhi]
    have hj136 : j < 136 := by omega
    have hjI : (j : Int) < 136 := by omega
    obtain ⟨y, hy⟩ : ∃ y, y = bs.getD j 0 := ⟨_, rfl⟩
    have hyk : y < 4 := by
      have h5 := col_lt HI.out (j := j) (by rw [← eN_edg]; omega) hj136
      have h6 := isCol_bd HI.out
      rw [hy]; omega
    have HY := hidd hy
    have hwu : IntKind.u8.wrap (48 + (y : Int)) = 48 + (y : Int) := by simp [IntKind.wrap, IntKind.bits, IntKind.signed]; omega
    have hsn := txF_snoc (N : Int) k bs (pre.map Edg.v) (j, lo, hi)
    rw [show pre.map Edg.v ++ [(j, lo, hi)] = (pre ++ [x]).map Edg.v from by rw [List.map_append, ← hxv]; rfl, show ed bs (j, lo, hi) = 48 + (y : Int) from by rw [hy]; rfl] at hsn
    have hTl := txF_len (N : Int) k bs (pre.map Edg.v)
    rw [List.length_map] at hTl
    obtain ⟨T2, hT2⟩ : ∃ T2, T2 = txF (N : Int) k bs ((pre ++ [x]).map Edg.v) := ⟨_, rfl⟩
    obtain ⟨T, hT⟩ : ∃ T, T = txF (N : Int) k bs (pre.map Edg.v) := ⟨_, rfl⟩
    rw [← hT] at hR hTl hsn
    rw [← hT2] at hsn
    have HT2 := hidd hT2
    have HR := hidd hR
    have HBn := hidd hBn'
    have H7 := hidd h7
    have HTl0 := hidd (show l5 ≤ 300 by rw [hR.2.2.2.2.2]; omega)
    have hKd : KeepsFrom (wWd.heap.size + 1) W W := KeepsFrom.refl _ _
    have HKd := hidd hKd
    have d0 := h7.cell (j := 0) (show _ = some (Value.int .i64 (lo : Int)) from rfl)
    have d1 := h7.cell (j := 1) (show _ = some (Value.int .i64 (hi : Int)) from rfl)
    rw [hWs]
    clear hj hlo hhi hxv hy hT hT2 hR hBn' h7 hx1 hx3 hxl hTl hKd
    rcases (show ((lo : Int) == 0) = true ∨ ((lo : Int) == 0) = false from by cases ((lo : Int) == 0) <;> simp) with hq1 | hq1
    · rcases (show decide ((1 : Int) < (hi : Int)) = true ∨ decide ((1 : Int) < (hi : Int)) = false from by cases decide ((1 : Int) < (hi : Int)) <;> simp) with hq2 | hq2
      · obtain ⟨TC, hTC⟩ : ∃ TC, TC = T ++ [44] := ⟨_, rfl⟩
        have HTC := hidd hTC.symm
        have HTX := hidd (show TC ++ [48 + (y : Int)] = T2 from by rw [hTC, hsn, cm_yes ⟨by simpa using hq1, by have := of_decide_eq_true hq2; show 1 < hi; omega⟩])
        have HLwC := hidd (show l5 ≤ 300 from HTl0.out)
        have e9 := HR.out.2.1.cell (j := 0) rfl
        clear hsn hTC
        have ALwC := hidd (HR.out.below ((Below.refl W.heap.size W).alloc (Nat.le_refl _) (.cells #[.int .u8 44] 5)))
        gi_wp2_with (gi_at_builtin; refine wpListIn_append_own _ rfl _ _ 38 rfl (w.heap.size + 1) 5 t0 (.int .u8 0) 1 1 Tryd.underlying38 HIF.out.1 HIF.out.2.1 HIF.out.2.2.1 HIF.out.2.2.2 rfl (by decide) _ _ _ rfl ALwC.out.2.2.1 ⟨W.heap.size, 0, none⟩ 1 1 [.int .u8 44] rfl rfl ?c1 ?c2 ?c3 ?c4 ?c5 ?_)
        case c1 => intro j u hu; have h1 := one_new W (.int .u8 44) 5 j u hu; rw [show W.heap.size = W.heap.size from by simp] at h1; exact h1
        case c2 => intro u hu; simp at hu; subst hu; rfl
        case c3 => unfold maxLen; have := HLwC.out; omega
        case c4 => have := HLwC.out; omega
        case c5 => have := HR.out.1.lt; simp at this ⊢; omega
        intro v' wwC hown' hgrow _
        obtain ⟨aC, lC, cC, rfl, hlwC, h38, RR, hstay, hkeep⟩ := ALwC.out.grown hown' hgrow (d := [44]) rfl rfl
        rw [HTC.out] at RR hlwC
        have wCR := hidd RR
        have STwC := hidd hstay
        have KEwC := hidd hkeep
        have s9 := h38.cell (j := 0) rfl
        have f9 := h38.fro 0
        have HTl := hidd (show lC ≤ 301 by rw [hlwC, ← HTC.out, List.length_append, ← HR.out.2.2.2.2.2]; simp; exact HTl0.out)
        have HBC := hidd (STwC.out _ _ _ (HBn.out.alloc _) (by decide) (by decide))
        have HKC := hidd (((KeepsOthers.alloc W (.cells #[.int .u8 44] 5)).from (wWd.heap.size + 1)).trans (KEwC.out _))
        clear e9 hown' hgrow hlwC h38 RR hstay hkeep
        gi_wp2_with fail
        have e38 := wCR.out.2.1.cell (j := 0) rfl
        have c0 := wCR.out.1.cell (HBY.out.cget (N : Int) k hj136)
        rw [← HY.out] at c0
        refine wpIn_region_heldtail 7 (fun W' => W'.cell? ⟨b3, 0, none⟩ = some (.slice aC lC cC) ∧ W'.cell? ⟨w.heap.size, 2 + j, none⟩ = some (.int .u8 (y : Int))) (by decide) (by kernel_rfl) (by kernel_rfl) (by kernel_rfl) (by kernel_rfl) ?_ (fun hHeld => ?_)
        · exact ⟨e38, c0⟩
        simp only [List.take_succ_cons, List.take_zero, List.drop_succ_cons, List.drop_zero, List.map_cons, List.map_nil, List.cons_append, List.nil_append, idle]
        refine wpAnyHI_take (lets_round l _) (by kernel_rfl) (i := 0) (oi := _) (v := ?_) rfl (by kernel_rfl) (by kernel_rfl) (by kernel_rfl) (fun _ _ _ h => h) (Or.inl ⟨by rfl, ?_⟩) (by assumption) ?_
        rotate_left
        · intro wX hSw; (try dsimp only at hSw); (try obtain ⟨hs1, hs2⟩ := hSw); go_simp; first | done | with_reducible rfl
        simp only [List.getElem_toArray, List.getElem_cons_succ, List.getElem_cons_zero, Act.put, List.setIfInBounds_toArray, List.set_cons_zero, List.set_cons_succ]
        refine wpAnyHI_take (lets_round l _) (by kernel_rfl) (i := 1) (oi := _) (v := ?_) rfl (by kernel_rfl) (by kernel_rfl) (by kernel_rfl) (fun _ _ _ h => h) (Or.inl ⟨by rfl, ?_⟩) (by assumption) ?_
        rotate_left
        · intro wX hSw; (try dsimp only at hSw); (try obtain ⟨hs1, hs2⟩ := hSw); go_simp; first | done | with_reducible rfl
        simp only [List.getElem_toArray, List.getElem_cons_succ, List.getElem_cons_zero, Act.put, List.setIfInBounds_toArray, List.set_cons_zero, List.set_cons_succ]
        refine wpAnyHI_take (lets_round l _) (by kernel_rfl) (i := 2) (oi := _) (v := ?_) rfl (by kernel_rfl) (by kernel_rfl) (by kernel_rfl) (fun _ _ _ h => h) (Or.inl ⟨by rfl, ?_⟩) (by assumption) ?_
        rotate_left
        · intro wX hSw; (try dsimp only at hSw); (try obtain ⟨hs1, hs2⟩ := hSw); go_simp; first | done | with_reducible rfl
        simp only [List.getElem_toArray, List.getElem_cons_succ, List.getElem_cons_zero, Act.put, List.setIfInBounds_toArray, List.set_cons_zero, List.set_cons_succ]
        refine wpAnyHI_take (lets_round l _) (by kernel_rfl) (i := 3) (oi := _) (v := ?_) rfl (by kernel_rfl) (by kernel_rfl) (by kernel_rfl) (fun _ _ _ h => h) (Or.inl ⟨by rfl, ?_⟩) (by assumption) ?_
        rotate_left
        · intro wX hSw; (try dsimp only at hSw); (try obtain ⟨hs1, hs2⟩ := hSw); go_simp; first | done | with_reducible rfl
        simp only [List.getElem_toArray, List.getElem_cons_succ, List.getElem_cons_zero, Act.put, List.setIfInBounds_toArray, List.set_cons_zero, List.set_cons_succ]
        refine wpAnyHI_take (lets_round l _) (by kernel_rfl) (i := 4) (oi := _) (v := ?_) rfl (by kernel_rfl) (by kernel_rfl) (by kernel_rfl) (fun _ _ _ h => h) (Or.inl ⟨by rfl, ?_⟩) (by assumption) ?_
        rotate_left
        · intro wX hSw; (try dsimp only at hSw); (try obtain ⟨hs1, hs2⟩ := hSw); go_simp; first | done | with_reducible rfl
        simp only [List.getElem_toArray, List.getElem_cons_succ, List.getElem_cons_zero, Act.put, List.setIfInBounds_toArray, List.set_cons_zero, List.set_cons_succ]
        refine wpAnyHI_take (lets_round l _) (by kernel_rfl) (i := 5) (oi := _) (v := ?_) rfl (by kernel_rfl) (by kernel_rfl) (by kernel_rfl) (fun _ _ _ h => h) (Or.inl ⟨by rfl, ?_⟩) (by assumption) ?_
        rotate_left
        · intro wX hSw; (try dsimp only at hSw); (try obtain ⟨hs1, hs2⟩ := hSw); go_simp; first | done | with_reducible rfl
        simp only [List.getElem_toArray, List.getElem_cons_succ, List.getElem_cons_zero, Act.put, List.setIfInBounds_toArray, List.set_cons_zero, List.set_cons_succ]
        refine wpAnyHI_ready (rs := [6]) (by kernel_rfl) (by simp) (AllReadyHI.cons (o := _) rfl (fun KQ hKQ => ?_) AllReadyHI.nil)
        go_simp
        have ALt := hidd (wCR.out.below ((((Below.refl (wwC.setCell ⟨b3, 0, none⟩ (.slice aC lC cC)).heap.size (wwC.setCell ⟨b3, 0, none⟩ (.slice aC lC cC))).alloc (Nat.le_refl _) (.cells #[.int .u8 (48 + (y : Int))] 5))).drew))
        refine hKQ.out _ _ ?_ (fun hNext => ?_)
        · exact ⟨ALt.out.2.1.cell (j := 0) rfl, by have := ALt.out.1.cell (HBY.out.cget (N : Int) k hj136); rw [← HY.out] at this; exact this⟩
        clear hKQ KQ hHeld
        have hHeld := hNext
        clear hNext
        refine wpAnyHI_take (lets_round l _) (by kernel_rfl) (i := 7) (oi := _) (v := ?_) rfl (by kernel_rfl) (by kernel_rfl) (by kernel_rfl) (fun _ _ _ h => h) (Or.inl ⟨by rfl, ?_⟩) (by assumption) ?_
        rotate_left
        · intro wX hSw; (try dsimp only at hSw); (try obtain ⟨hs1, hs2⟩ := hSw); go_simp; first | done | with_reducible rfl
        simp only [List.getElem_toArray, List.getElem_cons_succ, List.getElem_cons_zero, Act.put, List.setIfInBounds_toArray, List.set_cons_zero, List.set_cons_succ]
        refine wpAnyHI_take (lets_round l _) (by kernel_rfl) (i := 8) (oi := _) (v := ?_) rfl (by kernel_rfl) (by kernel_rfl) (by kernel_rfl) (fun _ _ _ h => h) (Or.inl ⟨by rfl, ?_⟩) (by assumption) ?_
        rotate_left
        · intro wX hSw; (try dsimp only at hSw); (try obtain ⟨hs1, hs2⟩ := hSw); go_simp; first | done | with_reducible rfl
        simp only [List.getElem_toArray, List.getElem_cons_succ, List.getElem_cons_zero, Act.put, List.setIfInBounds_toArray, List.set_cons_zero, List.set_cons_succ]
        refine wpAnyHI_done (by kernel_rfl) ?_ _
        simp only [endQ]
        refine wpListIn_append_own _ rfl _ _ 38 rfl (w.heap.size + 1) 5 t0 (.int .u8 0) 1 1 Tryd.underlying38 HIF.out.1 HIF.out.2.1 HIF.out.2.2.1 HIF.out.2.2.2 rfl (by decide) _ _ _ rfl ALt.out.2.2.1 ⟨wwC.heap.size, 0, none⟩ 1 1 [.int .u8 (48 + (y : Int))] rfl rfl ?c1 ?c2 ?c3 ?c4 ?c5 ?_
        case c1 => intro j u hu; have h1 := one_new (wwC.setCell ⟨b3, 0, none⟩ (.slice aC lC cC)) (.int .u8 (48 + (y : Int))) 5 j u hu; rw [show (wwC.setCell ⟨b3, 0, none⟩ (.slice aC lC cC)).heap.size = wwC.heap.size from by simp [World.setCell]] at h1; exact h1
        case c2 => intro u hu; simp at hu; subst hu; rfl
        case c3 => unfold maxLen; have := HTl.out; omega
        case c4 => have := HTl.out; omega
        case c5 => have := wCR.out.1.lt; simp at this ⊢; omega
        intro v' wZ hown' hgrow _
        obtain ⟨aZ, lZ, cZ, rfl, hlZ, h38, RR, hstay, hkeep⟩ := ALt.out.grown hown' hgrow (d := [48 + (y : Int)]) rfl rfl
        rw [HTX.out] at RR
        have s9 := h38.cell (j := 0) rfl
        have f9 := h38.fro 0
        have hBZ := hstay _ _ _ ((HBC.out.alloc (.cells #[.int .u8 (48 + (y : Int))] 5)).drew) (by decide) (by decide)
        have KZ := hidd (show KeepsFrom (wWd.heap.size + 1) W (wZ.setCell ⟨b3, 0, none⟩ (.slice aZ lZ cZ)) from (HKC.out.trans ((((KeepsOthers.alloc (wwC.setCell ⟨b3, 0, none⟩ (.slice aC lC cC)) (.cells #[.int .u8 (48 + (y : Int))] 5)).trans (ko_drew _)).from _).trans (hkeep _))))
        have RZ := hidd (And.intro RR hBZ)
        clear e38 c0 hHeld hown' hgrow hlZ h38 RR hstay hkeep hBZ
        gi_wp2_with fail
        exact ⟨KZ.out, RZ.out.2.trans HBn.out.symm, ⟨_, _, _, by rw [← HT2.out]; exact RZ.out.1⟩, RZ.out.2⟩
      · have HTX := hidd (show T ++ [48 + (y : Int)] = T2 from by rw [hsn, cm_no (fun h => by have := of_decide_eq_false hq2; have h2 : 1 < hi := h.2; omega), List.append_nil])
        have HTl := HTl0
        clear hsn
        gi_wp2_with fail
        have e38 := HR.out.2.1.cell (j := 0) rfl
        have c0 := HR.out.1.cell (HBY.out.cget (N : Int) k hj136)
        rw [← HY.out] at c0
        refine wpIn_region_heldtail 7 (fun W' => W'.cell? ⟨b3, 0, none⟩ = some (.slice a5 l5 c5) ∧ W'.cell? ⟨w.heap.size, 2 + j, none⟩ = some (.int .u8 (y : Int))) (by decide) (by kernel_rfl) (by kernel_rfl) (by kernel_rfl) (by kernel_rfl) ?_ (fun hHeld => ?_)
        · exact ⟨e38, c0⟩
        simp only [List.take_succ_cons, List.take_zero, List.drop_succ_cons, List.drop_zero, List.map_cons, List.map_nil, List.cons_append, List.nil_append, idle]
        refine wpAnyHI_take (lets_round l _) (by kernel_rfl) (i := 0) (oi := _) (v := ?_) rfl (by kernel_rfl) (by kernel_rfl) (by kernel_rfl) (fun _ _ _ h => h) (Or.inl ⟨by rfl, ?_⟩) (by assumption) ?_
        rotate_left
        · intro wX hSw; (try dsimp only at hSw); (try obtain ⟨hs1, hs2⟩ := hSw); go_simp; first | done | with_reducible rfl
        simp only [List.getElem_toArray, List.getElem_cons_succ, List.getElem_cons_zero, Act.put, List.setIfInBounds_toArray, List.set_cons_zero, List.set_cons_succ]
        refine wpAnyHI_take (lets_round l _) (by kernel_rfl) (i := 1) (oi := _) (v := ?_) rfl (by kernel_rfl) (by kernel_rfl) (by kernel_rfl) (fun _ _ _ h => h) (Or.inl ⟨by rfl, ?_⟩) (by assumption) ?_
        rotate_left
        · intro wX hSw; (try dsimp only at hSw); (try obtain ⟨hs1, hs2⟩ := hSw); go_simp; first | done | with_reducible rfl
        simp only [List.getElem_toArray, List.getElem_cons_succ, List.getElem_cons_zero, Act.put, List.setIfInBounds_toArray, List.set_cons_zero, List.set_cons_succ]
        refine wpAnyHI_take (lets_round l _) (by kernel_rfl) (i := 2) (oi := _) (v := ?_) rfl (by kernel_rfl) (by kernel_rfl) (by kernel_rfl) (fun _ _ _ h => h) (Or.inl ⟨by rfl, ?_⟩) (by assumption) ?_
        rotate_left
        · intro wX hSw; (try dsimp only at hSw); (try obtain ⟨hs1, hs2⟩ := hSw); go_simp; first | done | with_reducible rfl
        simp only [List.getElem_toArray, List.getElem_cons_succ, List.getElem_cons_zero, Act.put, List.setIfInBounds_toArray, List.set_cons_zero, List.set_cons_succ]
        refine wpAnyHI_take (lets_round l _) (by kernel_rfl) (i := 3) (oi := _) (v := ?_) rfl (by kernel_rfl) (by kernel_rfl) (by kernel_rfl) (fun _ _ _ h => h) (Or.inl ⟨by rfl, ?_⟩) (by assumption) ?_
        rotate_left
        · intro wX hSw; (try dsimp only at hSw); (try obtain ⟨hs1, hs2⟩ := hSw); go_simp; first | done | with_reducible rfl
        simp only [List.getElem_toArray, List.getElem_cons_succ, List.getElem_cons_zero, Act.put, List.setIfInBounds_toArray, List.set_cons_zero, List.set_cons_succ]
        refine wpAnyHI_take (lets_round l _) (by kernel_rfl) (i := 4) (oi := _) (v := ?_) rfl (by kernel_rfl) (by kernel_rfl) (by kernel_rfl) (fun _ _ _ h => h) (Or.inl ⟨by rfl, ?_⟩) (by assumption) ?_
        rotate_left
        · intro wX hSw; (try dsimp only at hSw); (try obtain ⟨hs1, hs2⟩ := hSw); go_simp; first | done | with_reducible rfl
        simp only [List.getElem_toArray, List.getElem_cons_succ, List.getElem_cons_zero, Act.put, List.setIfInBounds_toArray, List.set_cons_zero, List.set_cons_succ]
        refine wpAnyHI_take (lets_round l _) (by kernel_rfl) (i := 5) (oi := _) (v := ?_) rfl (by kernel_rfl) (by kernel_rfl) (by kernel_rfl) (fun _ _ _ h => h) (Or.inl ⟨by rfl, ?_⟩) (by assumption) ?_
        rotate_left
        · intro wX hSw; (try dsimp only at hSw); (try obtain ⟨hs1, hs2⟩ := hSw); go_simp; first | done | with_reducible rfl
        simp only [List.getElem_toArray, List.getElem_cons_succ, List.getElem_cons_zero, Act.put, List.setIfInBounds_toArray, List.set_cons_zero, List.set_cons_succ]
        refine wpAnyHI_ready (rs := [6]) (by kernel_rfl) (by simp) (AllReadyHI.cons (o := _) rfl (fun KQ hKQ => ?_) AllReadyHI.nil)
        go_simp
        have ALt := hidd (HR.out.below ((((Below.refl W.heap.size W).alloc (Nat.le_refl _) (.cells #[.int .u8 (48 + (y : Int))] 5))).drew))
        refine hKQ.out _ _ ?_ (fun hNext => ?_)
        · exact ⟨ALt.out.2.1.cell (j := 0) rfl, by have := ALt.out.1.cell (HBY.out.cget (N : Int) k hj136); rw [← HY.out] at this; exact this⟩
        clear hKQ KQ hHeld
        have hHeld := hNext
        clear hNext
        refine wpAnyHI_take (lets_round l _) (by kernel_rfl) (i := 7) (oi := _) (v := ?_) rfl (by kernel_rfl) (by kernel_rfl) (by kernel_rfl) (fun _ _ _ h => h) (Or.inl ⟨by rfl, ?_⟩) (by assumption) ?_
        rotate_left
        · intro wX hSw; (try dsimp only at hSw); (try obtain ⟨hs1, hs2⟩ := hSw); go_simp; first | done | with_reducible rfl
        simp only [List.getElem_toArray, List.getElem_cons_succ, List.getElem_cons_zero, Act.put, List.setIfInBounds_toArray, List.set_cons_zero, List.set_cons_succ]
        refine wpAnyHI_take (lets_round l _) (by kernel_rfl) (i := 8) (oi := _) (v := ?_) rfl (by kernel_rfl) (by kernel_rfl) (by kernel_rfl) (fun _ _ _ h => h) (Or.inl ⟨by rfl, ?_⟩) (by assumption) ?_
        rotate_left
        · intro wX hSw; (try dsimp only at hSw); (try obtain ⟨hs1, hs2⟩ := hSw); go_simp; first | done | with_reducible rfl
        simp only [List.getElem_toArray, List.getElem_cons_succ, List.getElem_cons_zero, Act.put, List.setIfInBounds_toArray, List.set_cons_zero, List.set_cons_succ]
        refine wpAnyHI_done (by kernel_rfl) ?_ _
        simp only [endQ]
        refine wpListIn_append_own _ rfl _ _ 38 rfl (w.heap.size + 1) 5 t0 (.int .u8 0) 1 1 Tryd.underlying38 HIF.out.1 HIF.out.2.1 HIF.out.2.2.1 HIF.out.2.2.2 rfl (by decide) _ _ _ rfl ALt.out.2.2.1 ⟨W.heap.size, 0, none⟩ 1 1 [.int .u8 (48 + (y : Int))] rfl rfl ?c1 ?c2 ?c3 ?c4 ?c5 ?_
        case c1 => intro j u hu; have h1 := one_new W (.int .u8 (48 + (y : Int))) 5 j u hu; exact h1
        case c2 => intro u hu; simp at hu; subst hu; rfl
        case c3 => unfold maxLen; have := HTl.out; omega
        case c4 => have := HTl.out; omega
        case c5 => have := HR.out.1.lt; simp at this ⊢; omega
        intro v' wZ hown' hgrow _
        obtain ⟨aZ, lZ, cZ, rfl, hlZ, h38, RR, hstay, hkeep⟩ := ALt.out.grown hown' hgrow (d := [48 + (y : Int)]) rfl rfl
        rw [HTX.out] at RR
        have s9 := h38.cell (j := 0) rfl
        have f9 := h38.fro 0
        have hBZ := hstay _ _ _ ((HBn.out.alloc (.cells #[.int .u8 (48 + (y : Int))] 5)).drew) (by decide) (by decide)
        have KZ := hidd (show KeepsFrom (wWd.heap.size + 1) W (wZ.setCell ⟨b3, 0, none⟩ (.slice aZ lZ cZ)) from (HKd.out.trans ((((KeepsOthers.alloc W (.cells #[.int .u8 (48 + (y : Int))] 5)).trans (ko_drew _)).from _).trans (hkeep _))))
        have RZ := hidd (And.intro RR hBZ)
        clear e38 c0 hHeld hown' hgrow hlZ h38 RR hstay hkeep hBZ
        gi_wp2_with fail
        exact ⟨KZ.out, RZ.out.2.trans HBn.out.symm, ⟨_, _, _, by rw [← HT2.out]; exact RZ.out.1⟩, RZ.out.2⟩
    · have HTX := hidd (show T ++ [48 + (y : Int)] = T2 from by rw [hsn, cm_no (fun h => by have h2 : lo = 0 := h.1; rw [h2] at hq1; simp at hq1), List.append_nil])
      have HTl := HTl0
      clear hsn
      gi_wp2_with fail
      have e38 := HR.out.2.1.cell (j := 0) rfl
      have c0 := HR.out.1.cell (HBY.out.cget (N : Int) k hj136)
      rw [← HY.out] at c0
      refine wpIn_region_heldtail 7 (fun W' => W'.cell? ⟨b3, 0, none⟩ = some (.slice a5 l5 c5) ∧ W'.cell? ⟨w.heap.size, 2 + j, none⟩ = some (.int .u8 (y : Int))) (by decide) (by kernel_rfl) (by kernel_rfl) (by kernel_rfl) (by kernel_rfl) ?_ (fun hHeld => ?_)
      · exact ⟨e38, c0⟩
      simp only [List.take_succ_cons, List.take_zero, List.drop_succ_cons, List.drop_zero, List.map_cons, List.map_nil, List.cons_append, List.nil_append, idle]
      refine wpAnyHI_take (lets_round l _) (by kernel_rfl) (i := 0) (oi := _) (v := ?_) rfl (by kernel_rfl) (by kernel_rfl) (by kernel_rfl) (fun _ _ _ h => h) (Or.inl ⟨by rfl, ?_⟩) (by assumption) ?_
      rotate_left
      · intro wX hSw; (try dsimp only at hSw); (try obtain ⟨hs1, hs2⟩ := hSw); go_simp; first | done | with_reducible rfl
      simp only [List.getElem_toArray, List.getElem_cons_succ, List.getElem_cons_zero, Act.put, List.setIfInBounds_toArray, List.set_cons_zero, List.set_cons_succ]
      refine wpAnyHI_take (lets_round l _) (by kernel_rfl) (i := 1) (oi := _) (v := ?_) rfl (by kernel_rfl) (by kernel_rfl) (by kernel_rfl) (fun _ _ _ h => h) (Or.inl ⟨by rfl, ?_⟩) (by assumption) ?_
      rotate_left
      · intro wX hSw; (try dsimp only at hSw); (try obtain ⟨hs1, hs2⟩ := hSw); go_simp; first | done | with_reducible rfl
      simp only [List.getElem_toArray, List.getElem_cons_succ, List.getElem_cons_zero, Act.put, List.setIfInBounds_toArray, List.set_cons_zero, List.set_cons_succ]
      refine wpAnyHI_take (lets_round l _) (by kernel_rfl) (i := 2) (oi := _) (v := ?_) rfl (by kernel_rfl) (by kernel_rfl) (by kernel_rfl) (fun _ _ _ h => h) (Or.inl ⟨by rfl, ?_⟩) (by assumption) ?_
      rotate_left
      · intro wX hSw; (try dsimp only at hSw); (try obtain ⟨hs1, hs2⟩ := hSw); go_simp; first | done | with_reducible rfl
      simp only [List.getElem_toArray, List.getElem_cons_succ, List.getElem_cons_zero, Act.put, List.setIfInBounds_toArray, List.set_cons_zero, List.set_cons_succ]
      refine wpAnyHI_take (lets_round l _) (by kernel_rfl) (i := 3) (oi := _) (v := ?_) rfl (by kernel_rfl) (by kernel_rfl) (by kernel_rfl) (fun _ _ _ h => h) (Or.inl ⟨by rfl, ?_⟩) (by assumption) ?_
      rotate_left
      · intro wX hSw; (try dsimp only at hSw); (try obtain ⟨hs1, hs2⟩ := hSw); go_simp; first | done | with_reducible rfl
      simp only [List.getElem_toArray, List.getElem_cons_succ, List.getElem_cons_zero, Act.put, List.setIfInBounds_toArray, List.set_cons_zero, List.set_cons_succ]
      refine wpAnyHI_take (lets_round l _) (by kernel_rfl) (i := 4) (oi := _) (v := ?_) rfl (by kernel_rfl) (by kernel_rfl) (by kernel_rfl) (fun _ _ _ h => h) (Or.inl ⟨by rfl, ?_⟩) (by assumption) ?_
      rotate_left
      · intro wX hSw; (try dsimp only at hSw); (try obtain ⟨hs1, hs2⟩ := hSw); go_simp; first | done | with_reducible rfl
      simp only [List.getElem_toArray, List.getElem_cons_succ, List.getElem_cons_zero, Act.put, List.setIfInBounds_toArray, List.set_cons_zero, List.set_cons_succ]
      refine wpAnyHI_take (lets_round l _) (by kernel_rfl) (i := 5) (oi := _) (v := ?_) rfl (by kernel_rfl) (by kernel_rfl) (by kernel_rfl) (fun _ _ _ h => h) (Or.inl ⟨by rfl, ?_⟩) (by assumption) ?_
      rotate_left
      · intro wX hSw; (try dsimp only at hSw); (try obtain ⟨hs1, hs2⟩ := hSw); go_simp; first | done | with_reducible rfl
      simp only [List.getElem_toArray, List.getElem_cons_succ, List.getElem_cons_zero, Act.put, List.setIfInBounds_toArray, List.set_cons_zero, List.set_cons_succ]
      refine wpAnyHI_ready (rs := [6]) (by kernel_rfl) (by simp) (AllReadyHI.cons (o := _) rfl (fun KQ hKQ => ?_) AllReadyHI.nil)
      go_simp
      have ALt := hidd (HR.out.below ((((Below.refl W.heap.size W).alloc (Nat.le_refl _) (.cells #[.int .u8 (48 + (y : Int))] 5))).drew))
      refine hKQ.out _ _ ?_ (fun hNext => ?_)
      · exact ⟨ALt.out.2.1.cell (j := 0) rfl, by have := ALt.out.1.cell (HBY.out.cget (N : Int) k hj136); rw [← HY.out] at this; exact this⟩
      clear hKQ KQ hHeld
      have hHeld := hNext
      clear hNext
      refine wpAnyHI_take (lets_round l _) (by kernel_rfl) (i := 7) (oi := _) (v := ?_) rfl (by kernel_rfl) (by kernel_rfl) (by kernel_rfl) (fun _ _ _ h => h) (Or.inl ⟨by rfl, ?_⟩) (by assumption) ?_
      rotate_left
      · intro wX hSw; (try dsimp only at hSw); (try obtain ⟨hs1, hs2⟩ := hSw); go_simp; first | done | with_reducible rfl
      simp only [List.getElem_toArray, List.getElem_cons_succ, List.getElem_cons_zero, Act.put, List.setIfInBounds_toArray, List.set_cons_zero, List.set_cons_succ]
      refine wpAnyHI_take (lets_round l _) (by kernel_rfl) (i := 8) (oi := _) (v := ?_) rfl (by kernel_rfl) (by kernel_rfl) (by kernel_rfl) (fun _ _ _ h => h) (Or.inl ⟨by rfl, ?_⟩) (by assumption) ?_
      rotate_left
      · intro wX hSw; (try dsimp only at hSw); (try obtain ⟨hs1, hs2⟩ := hSw); go_simp; first | done | with_reducible rfl
      simp only [List.getElem_toArray, List.getElem_cons_succ, List.getElem_cons_zero, Act.put, List.setIfInBounds_toArray, List.set_cons_zero, List.set_cons_succ]
      refine wpAnyHI_done (by kernel_rfl) ?_ _
      simp only [endQ]
      refine wpListIn_append_own _ rfl _ _ 38 rfl (w.heap.size + 1) 5 t0 (.int .u8 0) 1 1 Tryd.underlying38 HIF.out.1 HIF.out.2.1 HIF.out.2.2.1 HIF.out.2.2.2 rfl (by decide) _ _ _ rfl ALt.out.2.2.1 ⟨W.heap.size, 0, none⟩ 1 1 [.int .u8 (48 + (y : Int))] rfl rfl ?c1 ?c2 ?c3 ?c4 ?c5 ?_
      case c1 => intro j u hu; have h1 := one_new W (.int .u8 (48 + (y : Int))) 5 j u hu; exact h1
      case c2 => intro u hu; simp at hu; subst hu; rfl
      case c3 => unfold maxLen; have := HTl.out; omega
      case c4 => have := HTl.out; omega
      case c5 => have := HR.out.1.lt; simp at this ⊢; omega
      intro v' wZ hown' hgrow _
      obtain ⟨aZ, lZ, cZ, rfl, hlZ, h38, RR, hstay, hkeep⟩ := ALt.out.grown hown' hgrow (d := [48 + (y : Int)]) rfl rfl
      rw [HTX.out] at RR
      have s9 := h38.cell (j := 0) rfl
      have f9 := h38.fro 0
      have hBZ := hstay _ _ _ ((HBn.out.alloc (.cells #[.int .u8 (48 + (y : Int))] 5)).drew) (by decide) (by decide)
      have KZ := hidd (show KeepsFrom (wWd.heap.size + 1) W (wZ.setCell ⟨b3, 0, none⟩ (.slice aZ lZ cZ)) from (HKd.out.trans ((((KeepsOthers.alloc W (.cells #[.int .u8 (48 + (y : Int))] 5)).trans (ko_drew _)).from _).trans (hkeep _))))
      have RZ := hidd (And.intro RR hBZ)
      clear e38 c0 hHeld hown' hgrow hlZ h38 RR hstay hkeep hBZ
      gi_wp2_with fail
      exact ⟨KZ.out, RZ.out.2.trans HBn.out.symm, ⟨_, _, _, by rw [← HT2.out]; exact RZ.out.1⟩, RZ.out.2⟩
  case done =>
    rintro D xs W hD hxs ⟨⟨a5, l5, c5, hR⟩, hBn'⟩ hK
    have hxs' : xs.map Edg.v = eseq N := hxs
    rw [hxs'] at hR
    have hl5 := hR.2.2.2.2.2
    have hln : 1 ≤ (txF (N : Int) k bs (eseq N)).length := by
      unfold txF hdT
      simp only [List.length_append, List.length_cons, List.length_nil]
      omega
    obtain ⟨T, hT⟩ : ∃ T, T = txF (N : Int) k bs (eseq N) := ⟨_, rfl⟩
    rw [← hT] at hR hl5 hln
    have HTT := hidd hT
    have e38 := hR.2.1.cell (j := 0) rfl
    rcases hR.2.2.1.2 with ⟨h1, h0⟩ | ⟨g, cc, cur, hv, hBg, hblk, hcn, hx1, hx2, hx3⟩
    · omega
    · cases hv
      have hcell : ∀ i, i < T.length → W.cell? ⟨g, 0 + i, none⟩ = some (.int .u8 (T.getD i 0)) := fun i hi => by
        have h1 : (cur.toList.take (l5 * 1))[i]? = (bI T)[i]? := by rw [hx3]
        rw [List.getElem?_take, if_pos (by omega)] at h1
        rw [Nat.zero_add, cell_of_row W g i cur 5 (0, 0) hblk, ← Array.getElem?_toList, h1]
        simp [bI, List.getD, hi]
      have hcv := run_convert_bytes_arg (P := Tryd.prog) W 38 5 Tryd.underlying38 Tryd.underlying5 g 0 T.length c5 T rfl hcell 9 Tryd.underlying9
      rw [← hl5] at hcv
      have HBW := hidd hR.2.2.2.1
      have HKD := hidd hK
      have HDD := hidd (show W0.heap.size ≤ D from hD)
      clear hcell hx1 hx2 hx3 hT hcn hblk hBg hR hl5 hln hxs hxs' hBn' hK hD
      gi_wp2_with fail
      refine ⟨by simp, .inl ⟨_, _, rfl, run_takeDeferred HKD.out, ?_⟩⟩
      refine ⟨_, results_tmp rfl _ _ _, ?_⟩
      exact ⟨by rw [← HTT.out]; rfl, HBW.out.grown (grownBy_putObj' W D (.deferred none)) HBW.out.size (fun k e => by cases e; have := HDD.out; omega)⟩
  case stop =>
    rintro D c pre W _ _ h _
    exact h.elim
end Go.Proofs.YtilpfhiebbbbjaaDoor
