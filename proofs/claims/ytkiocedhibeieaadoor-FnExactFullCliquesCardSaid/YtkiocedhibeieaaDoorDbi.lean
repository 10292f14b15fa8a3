/- The greatest double or book: the program's loops. -/
import Derived.Test.YtkiocedhibeieaaDoorAbv
namespace Go.Proofs.YtkiocedhibeieaaDoor
set_option linter.unusedVariables false
set_option linter.unusedSimpArgs false
open Go Go.RowKit Go.Shelf
theorem foldl_snoc {α β : Type} (f : β → α → β) (s : β) (l : List α) (m : Nat) (x : α) (h : l[m]? = some x) : (l.take (m + 1)).foldl f s = f ((l.take m).foldl f s) x := by
  have hm := (List.getElem?_eq_some_iff.1 h)
  obtain ⟨hlt, hx⟩ := hm
  rw [List.take_succ_eq_append_getElem hlt, List.foldl_append, List.foldl_cons, List.foldl_nil, hx]
theorem dbU_yes {R : Nat → Nat} {i j : Nat} {s : Int × Nat × Nat} (h : s.1 < (ones (R i &&& R j) : Nat)) : dbU R i s j = (((ones (R i &&& R j) : Nat) : Int), i, j) := if_pos h
theorem dbU_no {R : Nat → Nat} {i j : Nat} {s : Int × Nat × Nat} (h : ¬ s.1 < (ones (R i &&& R j) : Nat)) : dbU R i s j = s := if_neg h
set_option maxRecDepth 100000 in
set_option maxHeartbeats 4000000 in
theorem greatest83 (N : Nat) (F : Nat → Nat) (bk : Bool) (w : World) (N1 : 1 ≤ N) (N2 : N ≤ 17) (hF : ∀ p, F p < 2 ^ 17) (hT : Tz w) (hw0 : 0 < w.heap.size) :
    Calls Tryd.prog 83 #[.agg (gcell (2 ^ N - 1) F).toArray, .bool bk] w fun e w' => e = .returned (.tuple #[.agg (ecell (dbA F bk N N).2.1 (dbA F bk N N).2.2), .int .i64 (dbA F bk N N).1]) ∧ Below w.heap.size w w' := by
  have hU17 := pow_lt17 N2
  have hP := fun W hW h0 => points47X (2 ^ N - 1) hU17 W hW h0
  rw [setL_full N2] at hP
  obtain ⟨zs, hzs⟩ : ∃ zs, zs = (List.range N).map fun (x : Nat) => (x : Int) := ⟨_, rfl⟩
  have hzl : zs.length = N := by rw [hzs]; simp
  have hzg : ∀ j, j < N → zs.getD j 0 = (j : Int) := fun j hj => by rw [hzs]; simp [List.getD, hj]
  rw [← hzs, hzl] at hP
  have HP := hidd hP
  have HZL := hidd hzl
  have HZG := hidd hzg
  have HAB := hidd (fun p (hp : p < N) W => above91 (2 ^ N - 1) hU17 F p (by omega) W)
  have HOF := hidd (fun p (hp : p < N) => oth_false F N2 hp)
  have HOT := hidd (fun p (hp : p < N) => oth_true F N2 hp)
  have HOL := hidd (fun b p => othX_lt F b N2 p)
  obtain ⟨U, hU⟩ : ∃ U, U = 2 ^ N - 1 := ⟨_, rfl⟩
  rw [← hU] at HP HAB HOF ⊢
  have HSZ := hidd (fun X (h : X < 2 ^ 17) W => size34 X h W)
  have HFF := hidd hF
  have HT := hidd hT
  have HZ1 := hidd (size79 U F)
  have Hz := zero101
  clear hP hzl hzg hzs hU hF hT hU17
  have H6 := hidd (show RelGd U F [] none w (-1, 0, 0) (((w.alloc (.cells (gcell U F).toArray 79)).alloc (.cells (ecell 0 0) 101)).alloc (.cells (ecell 0 0) 101)) from
    ⟨((Blk.new _ _ _ _ rfl).alloc _).alloc _, (Blk.new _ _ _ _ (by simp)).alloc _, Blk.new _ _ _ _ (by simp), .inl rfl, (((Below.refl _ _).alloc (Nat.le_refl _) _).alloc (by simp) _).alloc (by simp; omega) _⟩)
  have H7 := hidd (show RelGd U F [] none w (-1, 0, 0) ((((w.alloc (.cells (gcell U F).toArray 79)).alloc (.cells (ecell 0 0) 101)).alloc (.cells (ecell 0 0) 101)).setRow (w.heap.size + 1 + 1) (ecell 0 0)) from
    ⟨H6.out.1.rowOther _ _ (by omega), H6.out.2.1.rowOther _ _ (by omega), H6.out.2.2.1.rowSame _, .inl rfl, below_setRow H6.out.2.2.2.2 (by omega) _⟩)
  have c0 := H7.out.1.cell (show (gcell U F).toArray[0]? = some (.int .u32 (U : Int)) from rfl)
  go_enter Tryd.func83, Tryd.ntmps83
  go_wp2_with (first
    | (refine wpList_zero101 rfl rfl ?_)
    | (refine wpList_store_row rfl 101 (.tmp 6) (.tmp 14) rfl (w.heap.size + 1 + 1) _ rfl rfl 101 _ H6.out.2.2.1 (size101 0 0) rfl (ecell_one 0 0) ?_))
  refine (HP.out _ (HT.out.below H7.out.2.2.2.2 hw0) (by have := H7.out.2.2.2.2.size; omega)).mono ?_
  rintro e w1 ⟨al, capl, rfl, ho, hb1⟩
  have G := hidd (show RelGd U F zs al w (dbA F bk N 0) w1 from by
    obtain ⟨h1, h2, h3, _, h5⟩ := H7.out.below hb1
    exact ⟨h1, h2, h3, ownL_base ho H7.out.2.2.1.lt, h5⟩)
  clear hb1 ho c0
  go_wp2_with fail
  go_loopw [7, 19] (fun b i wr => ∃ I : Nat, I ≤ N ∧ i = .int .i64 (I : Int) ∧ b = .int .i64 (dbA F bk N I).1 ∧ Hid (RelGd U F zs al w (dbA F bk N I) wr)) (fun _ i _ => N - (intOf i).toNat)
  case atStart => exact ⟨0, by omega, rfl, rfl, G.out⟩
  case round =>
    obtain ⟨I, hI, rfl, rfl, HK⟩ := hrel
    by_cases hlt : I < N
    · have hltI : decide ((I : Int) < (N : Int)) = true := by simp; omega
      obtain ⟨s, hs⟩ : ∃ s, s = dbA F bk N I := ⟨_, rfl⟩
      have HSS := hidd (show dbA F bk N (I + 1) = (dbL F bk N I).foldl (dbU F I) s by rw [dbL_fold N2, hs]; rfl)
      rw [← hs] at HK ⊢
      clear hs
      rcases HK.out.2.2.2.1.sl with hz | ⟨bl, off, ha, hc⟩
      · have := HZL.out; rw [hz] at this; simp at this; omega
      · subst ha
        have cI := hc I (by rw [HZL.out]; exact hlt)
        rw [HZG.out I hlt] at cI
        obtain ⟨X0, hX0⟩ : ∃ X0, X0 = adn U (2 ^ (I + 1) - 1) := ⟨_, rfl⟩
        have hx0f := HOF.out I hlt
        rw [← hX0] at hx0f
        have hX17 : X0 < 2 ^ 17 := by rw [hx0f]; exact HOL.out false I
        have HA := hidd (fun W => HAB.out I hlt W)
        rw [← hX0] at HA
        have eN := HK.out.1.cell (gcell_near (x := U) (f := F) (show I < 17 by omega))
        -- the set of the others, however it came
        obtain ⟨X, hX⟩ : ∃ X, X = othX F bk N I := ⟨_, rfl⟩
        have hXl : X < 2 ^ 17 := by rw [hX]; exact HOL.out bk I
        have hP2 := fun W hW h0 => points47X X hXl W hW h0
        have hll : (setL X).length = (dbL F bk N I).length := by rw [hX, dbL_setL]; simp
        have hlg : ∀ m (hm : m < (dbL F bk N I).length), (setL X).getD m 0 = (((dbL F bk N I)[m] : Nat) : Int) := fun m hm => by rw [hX, dbL_setL]; simp [List.getD, hm]
        have hmem : ∀ m (hm : m < (dbL F bk N I).length), (dbL F bk N I)[m] < N ∧ I < (dbL F bk N I)[m] := fun m hm => dbL_mem (List.getElem_mem hm)
        have hand : bits .and .u32 ((X0 : Nat) : Int) ((F I : Nat) : Int) = ((X0 &&& F I : Nat) : Int) := u32_and_nat X0 (F I) (by omega) (by have := HFF.out I; omega)
        have hxt := HOT.out I hlt
        rw [← hx0f] at hxt
        rw [hll] at hP2
        have HP2 := hidd hP2
        have HLG := hidd hlg
        have HME := hidd hmem
        have hllen : (dbL F bk N I).length ≤ 17 := by rw [← hll, setL_len hXl]; exact ones_17 hXl
        obtain ⟨L, hL⟩ : ∃ L, L = dbL F bk N I := ⟨_, rfl⟩
        rw [← hL] at HSS HP2 HLG HME hllen
        obtain ⟨FI, hFI⟩ : ∃ FI, FI = F I := ⟨_, rfl⟩
        rw [← hFI] at eN hand hxt
        have HFI := hidd hFI
        obtain ⟨ln, hln⟩ : ∃ ln, ln = L.length := ⟨_, rfl⟩
        rw [← hln] at HP2
        have HLN := hidd hln
        have hsX : (if bk = true then ((X0 &&& FI : Nat) : Int) else (X0 : Int)) = (X : Int) := by
          cases bk with
          | false => rw [hX, hx0f]; rfl
          | true => rw [hX, ← hxt]; rfl
        clear hc hx0f hxt hX17 hX hll hlg hmem hL hFI hln hP2 hX0
        go_wp2_with (refine wpList_load_row rfl 79 (.tmp 2) rfl w.heap.size rfl 79 _ (0,0) _ HK.out.1 Tryd.underlying79 rfl HZ1.out ?_)
        refine (HA.out _).mono ?_
        rintro e w2 ⟨rfl, hb2⟩
        have K2 := hidd (HK.out.below hb2)
        have eN2 := K2.out.1.cell (gcell_near (x := U) (f := F) (show I < 17 by omega))
        rw [← HFI.out] at eN2
        clear hb2 eN cI
        cases bk with
        | false =>
          obtain rfl : X0 = X := by
            have h : (X0 : Int) = (X : Int) := hsX
            omega
          clear hsX hand
          go_wp2_with fail
          have HT2 := hidd (HT.out.below K2.out.2.2.2.2 hw0)
          refine (HP2.out _ HT2.out (by have := K2.out.2.2.2.2.size; omega)).mono ?_
          rintro e w3 ⟨a3, cap3, rfl, ho3, hb3⟩
          have K3 := hidd (And.intro (K2.out.below hb3) (ownL_base ho3 K2.out.2.2.1.lt))
          clear hb3 ho3 eN2
          go_wp2_with fail
          obtain ⟨wo, rfl⟩ : ∃ wo, wo = wr := ⟨_, rfl⟩
          go_loopw [7, 36] (fun b ii wq => ∃ m : Nat, m ≤ ln ∧ ii = .int .i64 (m : Int) ∧ b = .int .i64 ((L.take m).foldl (dbU F I) s).1 ∧ Hid (RelGd U F zs (some ⟨bl, off, none⟩) w ((L.take m).foldl (dbU F I) s) wq ∧ OwnL wq (w.heap.size + 1 + 1 + 1) a3 (setL X0))) (fun _ ii _ => ln - (intOf ii).toNat)
          case atStart => exact ⟨0, Nat.zero_le _, rfl, rfl, K3.out⟩
          case round =>
            obtain ⟨m, hm, rfl, rfl, HQ⟩ := hrel
            by_cases hlt2 : m < ln
            · have hltm : decide ((m : Int) < (ln : Int)) = true := by simp; omega
              have hmL : m < L.length := by have := HLN.out; omega
              obtain ⟨hq1, hq2⟩ := HME.out m hmL
              obtain ⟨q, hq⟩ : ∃ q, q = L[m] := ⟨_, rfl⟩
              rw [← hq] at hq1 hq2
              have hsn := foldl_snoc (dbU F I) s L m q (by rw [hq]; exact List.getElem?_eq_getElem hmL)
              have hlg := HLG.out m hmL
              rw [← hq] at hlg
              rcases HQ.out.2.sl with hz | ⟨bl3, off3, ha3, hc3⟩
              · rw [hz] at hlg; simp at hlg; omega
              · subst ha3
                have hsl : m < (setL X0).length := by
                  rcases Nat.lt_or_ge m (setL X0).length with h | h
                  · exact h
                  · exfalso
                    have : (setL X0).getD m 0 = 0 := by simp [List.getD, List.getElem?_eq_none h]
                    rw [this] at hlg; omega
                have cq := hc3 m hsl
                rw [hlg] at cq
                have e1 := HQ.out.1.1.cell (gcell_near (x := U) (f := F) (show I < 17 by omega))
                have e2 := HQ.out.1.1.cell (gcell_near (x := U) (f := F) (show q < 17 by omega))
                have hyes := dbU_yes (R := F) (i := I) (j := q) (s := (L.take m).foldl (dbU F I) s)
                have hno := dbU_no (R := F) (i := I) (j := q) (s := (L.take m).foldl (dbU F I) s)
                rw [← hsn] at hyes hno
                have hFq := HFF.out q
                rw [← HFI.out] at e1 hyes hno
                obtain ⟨FQ, hFQ⟩ : ∃ FQ, FQ = F q := ⟨_, rfl⟩
                rw [← hFQ] at e2 hyes hno hFq
                have hFI17 : FI < 2 ^ 17 := by rw [HFI.out]; exact HFF.out I
                have handq : bits .and .u32 ((FI : Nat) : Int) ((FQ : Nat) : Int) = ((FI &&& FQ : Nat) : Int) := u32_and_nat FI FQ (by omega) (by omega)
                have hS := HSZ.out (FI &&& FQ) (Nat.lt_of_le_of_lt Nat.and_le_left hFI17)
                obtain ⟨D, hD⟩ : ∃ D, D = ones (FI &&& FQ) := ⟨_, rfl⟩
                rw [← hD] at hyes hno hS
                obtain ⟨Z, hZ⟩ : ∃ Z, Z = FI &&& FQ := ⟨_, rfl⟩
                rw [← hZ] at handq hS
                have HS := hidd hS
                obtain ⟨t, ht⟩ : ∃ t, t = (L.take m).foldl (dbU F I) s := ⟨_, rfl⟩
                rw [← ht] at HQ hyes hno ⊢
                clear hc3 hq hsn hlg hFQ hFq hFI17 hS hD hZ ht hsl
                cases hqd : decide (t.1 < ((D : Nat) : Int)) with
                | false =>
                  have HST := hidd (hno (of_decide_eq_false hqd))
                  clear hyes hno
                  go_wp2_with fail
                  go_quiet ((go_at_call 55; exact Calls.quiet_of ((HS.out _).mono fun _ _ h => ⟨h.1, 1, h.2⟩)))
                  have K4 := hidd (And.intro (HQ.out.1.below (below_drewN (Below.refl wr.heap.size wr) nq)) (HQ.out.2.below (below_drewN (Below.refl wr.heap.size wr) nq) (Nat.le_refl _)))
                  clear e1 e2 cq
                  go_wp2_with fail
                  go_roundw
                  case rel => exact ⟨m + 1, by omega, by go_num, by rw [HST.out], by rw [HST.out]; exact K4.out⟩
                  case measure => simp [intOf]; omega
                | true =>
                  have HST := hidd (hyes (of_decide_eq_true hqd))
                  clear hyes hno
                  go_wp2_with fail
                  go_quiet ((go_at_call 55; exact Calls.quiet_of ((HS.out _).mono fun _ _ h => ⟨h.1, 1, h.2⟩)))
                  have K4 := hidd (And.intro (HQ.out.1.below (below_drewN (Below.refl wr.heap.size wr) nq)) (HQ.out.2.below (below_drewN (Below.refl wr.heap.size wr) nq) (Nat.le_refl _)))
                  clear e1 e2 cq
                  go_wp2_with (first
                    | (refine wpList_build101 rfl (.tmp 53) (.tmp 54) rfl I q rfl rfl ?_)
                    | (refine wpList_store_row rfl 101 (.tmp 6) (.tmp 55) rfl (w.heap.size + 1 + 1) _ rfl rfl 101 _ K4.out.1.2.2.1 (size101 I q) rfl (ecell_one I q) ?_))
                  go_roundw
                  case rel =>
                    refine ⟨m + 1, by omega, by go_num, by rw [HST.out], ?_⟩
                    rw [HST.out]
                    exact gd_store K4.out.1 K4.out.2 I q D
                  case measure => simp [intOf]; omega
            · have hltm : decide ((m : Int) < (ln : Int)) = false := by simp; omega
              have hme : m = ln := by omega
              have HE := hidd (show (L.take m).foldl (dbU F I) s = dbA F false N (I + 1) by rw [HSS.out, hme, HLN.out, List.take_length])
              rw [HE.out] at HQ ⊢
              have HW := hidd HQ.out.1
              clear HQ hme
              go_wp2_with fail
              go_roundw
              case rel => exact ⟨I + 1, by omega, by go_num, rfl, HW.out⟩
              case measure => simp [intOf]; omega
        | true =>
          have hand2 : bits .and .u32 ((X0 : Nat) : Int) ((FI : Nat) : Int) = ((X : Nat) : Int) := hand.trans hsX
          clear hsX hand
          go_wp2_with fail
          have HT2 := hidd (HT.out.below K2.out.2.2.2.2 hw0)
          refine (HP2.out _ HT2.out (by have := K2.out.2.2.2.2.size; omega)).mono ?_
          rintro e w3 ⟨a3, cap3, rfl, ho3, hb3⟩
          have K3 := hidd (And.intro (K2.out.below hb3) (ownL_base ho3 K2.out.2.2.1.lt))
          clear hb3 ho3 eN2
          go_wp2_with fail
          obtain ⟨wo, rfl⟩ : ∃ wo, wo = wr := ⟨_, rfl⟩
          go_loopw [7, 36] (fun b ii wq => ∃ m : Nat, m ≤ ln ∧ ii = .int .i64 (m : Int) ∧ b = .int .i64 ((L.take m).foldl (dbU F I) s).1 ∧ Hid (RelGd U F zs (some ⟨bl, off, none⟩) w ((L.take m).foldl (dbU F I) s) wq ∧ OwnL wq (w.heap.size + 1 + 1 + 1) a3 (setL X))) (fun _ ii _ => ln - (intOf ii).toNat)
          case atStart => exact ⟨0, Nat.zero_le _, rfl, rfl, K3.out⟩
          case round =>
            obtain ⟨m, hm, rfl, rfl, HQ⟩ := hrel
            by_cases hlt2 : m < ln
            · have hltm : decide ((m : Int) < (ln : Int)) = true := by simp; omega
              have hmL : m < L.length := by have := HLN.out; omega
              obtain ⟨hq1, hq2⟩ := HME.out m hmL
              obtain ⟨q, hq⟩ : ∃ q, q = L[m] := ⟨_, rfl⟩
              rw [← hq] at hq1 hq2
              have hsn := foldl_snoc (dbU F I) s L m q (by rw [hq]; exact List.getElem?_eq_getElem hmL)
              have hlg := HLG.out m hmL
              rw [← hq] at hlg
              rcases HQ.out.2.sl with hz | ⟨bl3, off3, ha3, hc3⟩
              · rw [hz] at hlg; simp at hlg; omega
              · subst ha3
                have hsl : m < (setL X).length := by
                  rcases Nat.lt_or_ge m (setL X).length with h | h
                  · exact h
                  · exfalso
                    have : (setL X).getD m 0 = 0 := by simp [List.getD, List.getElem?_eq_none h]
                    rw [this] at hlg; omega
                have cq := hc3 m hsl
                rw [hlg] at cq
                have e1 := HQ.out.1.1.cell (gcell_near (x := U) (f := F) (show I < 17 by omega))
                have e2 := HQ.out.1.1.cell (gcell_near (x := U) (f := F) (show q < 17 by omega))
                have hyes := dbU_yes (R := F) (i := I) (j := q) (s := (L.take m).foldl (dbU F I) s)
                have hno := dbU_no (R := F) (i := I) (j := q) (s := (L.take m).foldl (dbU F I) s)
                rw [← hsn] at hyes hno
                have hFq := HFF.out q
                rw [← HFI.out] at e1 hyes hno
                obtain ⟨FQ, hFQ⟩ : ∃ FQ, FQ = F q := ⟨_, rfl⟩
                rw [← hFQ] at e2 hyes hno hFq
                have hFI17 : FI < 2 ^ 17 := by rw [HFI.out]; exact HFF.out I
                have handq : bits .and .u32 ((FI : Nat) : Int) ((FQ : Nat) : Int) = ((FI &&& FQ : Nat) : Int) := u32_and_nat FI FQ (by omega) (by omega)
                have hS := HSZ.out (FI &&& FQ) (Nat.lt_of_le_of_lt Nat.and_le_left hFI17)
                obtain ⟨D, hD⟩ : ∃ D, D = ones (FI &&& FQ) := ⟨_, rfl⟩
                rw [← hD] at hyes hno hS
                obtain ⟨Z, hZ⟩ : ∃ Z, Z = FI &&& FQ := ⟨_, rfl⟩
                rw [← hZ] at handq hS
                have HS := hidd hS
                obtain ⟨t, ht⟩ : ∃ t, t = (L.take m).foldl (dbU F I) s := ⟨_, rfl⟩
                rw [← ht] at HQ hyes hno ⊢
                clear hc3 hq hsn hlg hFQ hFq hFI17 hS hD hZ ht hsl
                cases hqd : decide (t.1 < ((D : Nat) : Int)) with
                | false =>
                  have HST := hidd (hno (of_decide_eq_false hqd))
                  clear hyes hno
                  go_wp2_with fail
                  go_quiet ((go_at_call 55; exact Calls.quiet_of ((HS.out _).mono fun _ _ h => ⟨h.1, 1, h.2⟩)))
                  have K4 := hidd (And.intro (HQ.out.1.below (below_drewN (Below.refl wr.heap.size wr) nq)) (HQ.out.2.below (below_drewN (Below.refl wr.heap.size wr) nq) (Nat.le_refl _)))
                  clear e1 e2 cq
                  go_wp2_with fail
                  go_roundw
                  case rel => exact ⟨m + 1, by omega, by go_num, by rw [HST.out], by rw [HST.out]; exact K4.out⟩
                  case measure => simp [intOf]; omega
                | true =>
                  have HST := hidd (hyes (of_decide_eq_true hqd))
                  clear hyes hno
                  go_wp2_with fail
                  go_quiet ((go_at_call 55; exact Calls.quiet_of ((HS.out _).mono fun _ _ h => ⟨h.1, 1, h.2⟩)))
                  have K4 := hidd (And.intro (HQ.out.1.below (below_drewN (Below.refl wr.heap.size wr) nq)) (HQ.out.2.below (below_drewN (Below.refl wr.heap.size wr) nq) (Nat.le_refl _)))
                  clear e1 e2 cq
                  go_wp2_with (first
                    | (refine wpList_build101 rfl (.tmp 53) (.tmp 54) rfl I q rfl rfl ?_)
                    | (refine wpList_store_row rfl 101 (.tmp 6) (.tmp 55) rfl (w.heap.size + 1 + 1) _ rfl rfl 101 _ K4.out.1.2.2.1 (size101 I q) rfl (ecell_one I q) ?_))
                  go_roundw
                  case rel =>
                    refine ⟨m + 1, by omega, by go_num, by rw [HST.out], ?_⟩
                    rw [HST.out]
                    exact gd_store K4.out.1 K4.out.2 I q D
                  case measure => simp [intOf]; omega
            · have hltm : decide ((m : Int) < (ln : Int)) = false := by simp; omega
              have hme : m = ln := by omega
              have HE := hidd (show (L.take m).foldl (dbU F I) s = dbA F true N (I + 1) by rw [HSS.out, hme, HLN.out, List.take_length])
              rw [HE.out] at HQ ⊢
              have HW := hidd HQ.out.1
              clear HQ hme
              go_wp2_with fail
              go_roundw
              case rel => exact ⟨I + 1, by omega, by go_num, rfl, HW.out⟩
              case measure => simp [intOf]; omega
    · have hltI : decide ((I : Int) < (N : Int)) = false := by simp; omega
      have hIe : I = N := by omega
      obtain ⟨s, hs⟩ : ∃ s, s = dbA F bk N I := ⟨_, rfl⟩
      have HSS := hidd (show s = dbA F bk N N by rw [hs, hIe])
      rw [← hs] at HK ⊢
      clear hs hIe
      have HB4 := hidd (HK.out.2.1)
      have HB6 := hidd (HK.out.2.2.1)
      have R := hidd (show Blk (wr.setRow (w.heap.size + 1) (ecell s.2.1 s.2.2)) (w.heap.size + 1) (ecell s.2.1 s.2.2) 101 ∧ Below w.heap.size w (wr.setRow (w.heap.size + 1) (ecell s.2.1 s.2.2)) from
        ⟨HK.out.2.1.rowSame _, below_setRow HK.out.2.2.2.2 (by omega) _⟩)
      go_wp2_with (first
        | (refine wpList_load_row rfl 101 (.tmp 6) rfl (w.heap.size + 1 + 1) rfl 101 _ (0,0) _ HB6.out Tryd.underlying101 rfl (size101 s.2.1 s.2.2) ?_)
        | (refine wpList_store_row rfl 101 (.tmp 4) (.tmp 59) rfl (w.heap.size + 1) _ rfl rfl 101 _ HB4.out (size101 s.2.1 s.2.2) rfl (ecell_one s.2.1 s.2.2) ?_))
      exact bodyPost_ret (results_row_tmp rfl _ _ (w.heap.size + 1) 101 _ _ rfl R.out.1 Tryd.underlying101 rfl (size101 s.2.1 s.2.2)) rfl ⟨by rw [← HSS.out]; rfl, R.out.2⟩
end Go.Proofs.YtkiocedhibeieaaDoor
