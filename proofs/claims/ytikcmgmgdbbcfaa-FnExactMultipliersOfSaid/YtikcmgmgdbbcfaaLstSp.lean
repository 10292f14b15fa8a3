/- ListOfCircular: its model. -/
import Derived.Test.YtikcmgmgdbbcfaaLst
namespace Go.Proofs.Ytikcmgmgdbbcfaa
set_option linter.unusedVariables false
set_option linter.unusedSimpArgs false
open Go Go.RowKit Go.Shelf
def RelLs (bs : List Nat) (C : Array Value) (w : World) (d : Nat) (v : Value) (wr : World) : Prop :=
  Blk wr w.heap.size C 25 ∧ wr.ownsRow (w.heap.size + 1) 2 1 v (fillA (fcol bs) d).length (icells (fillA (fcol bs) d)) ∧ Below w.heap.size w wr
/-- What l03List returns: a list and whether it tells the colouring. -/
def LB (w : World) (zs : List Int) (c : Bool) (e : Ending) (w' : World) : Prop :=
  ∃ a cap, e = .returned (.tuple #[.slice a zs.length cap, .bool c]) ∧ OwnL w' w.heap.size a zs ∧ Below w.heap.size w w'
set_option maxRecDepth 100000 in
set_option maxHeartbeats 4000000 in
theorem list67 (N : Nat) (k : Int) (bs : List Nat) (hb : Bys bs) (n1 : 1 ≤ N) (n2 : N ≤ 17) (w : World) :
    Calls Try.prog 67 #[.agg (ccells (N : Int) k bs).toArray] w (LB w (if 2 ≤ N then lcL N bs else []) (circB N bs)) := by
  have HS := hidd (size_c26 (N : Int) k hb)
  have HC0 := hidd (show (ccells (N : Int) k bs).toArray[0]? = some (.int .i64 (N : Int)) from rfl)
  have HC1 := hidd (show (ccells (N : Int) k bs).toArray[1]? = some (.int .i64 k) from rfl)
  by_cases hN : 2 ≤ N
  · rw [if_pos hN, show circB N bs = (lcP N bs == bs) by unfold circB; rw [decide_eq_true hN, Bool.true_and]]
    obtain ⟨PB, hPB⟩ : ∃ PB, PB = lcP N bs := ⟨_, rfl⟩
    have HPB := hidd (show Bys PB by rw [hPB]; exact lcP_bys hb N)
    have HSC := hidd (fun (a : Option Addr) (cap : Nat) (W : World) (hW : SlI W a (lcL N bs)) => by have h := scirc44 N k (lcL N bs) a cap W hW n1 n2 (lcL_len N bs) (fcol_rng hb _); rw [lcL_len, show paintB N (fun lo hi => (lcL N bs).getD (dst N lo hi - 1) 0) = PB from hPB.symm] at h; exact h)
    rw [← hPB]
    have hd : decide ((N : Int) < 2) = false := by simp; omega
    have HHALF := hidd (show (N : Int) / 2 = ((N / 2 : Nat) : Int) by omega)
    have HLN := hidd (lcL_len N bs)
    obtain ⟨t0, hi2, hz0, hz1, hz3⟩ := info_parts info2
    have HIF := hidd (And.intro hi2 (And.intro hz0 (And.intro hz1 hz3)))
    have hc0 := HC0.out
    clear hPB hi2 hz0 hz1 hz3
    go_enter Try.func67, Try.ntmps67
    go_wp2_with fail
    clear hc0
    go_loopw [4, 5] (fun v e wr => ∃ d : Nat, d ≤ N / 2 ∧ e = .int .i64 ((d : Int) + 1) ∧ RelLs bs (ccells (N : Int) k bs).toArray w d v wr) (fun _ e _ => N + 1 - (intOf e).toNat)
    case atStart =>
      refine ⟨0, by omega, rfl, (Blk.new _ _ _ _ rfl).alloc _, ⟨rfl, .inr ⟨w.heap.size + 1, 0, #[], by simp [fillA], by omega, ?_, ?_, ?_, rfl, rfl⟩⟩, ((Below.refl _ _).alloc (Nat.le_refl _) _).alloc (by simp) _⟩
      · exact Blk.new _ _ _ _ (by simp)
      · simp [fillA]
      · simp [maxLen]
    case round =>
      obtain ⟨d, hd2, rfl, HR⟩ := hrel
      have HK := hidd HR
      clear HR
      have c0 := HK.out.1.cell HC0.out
      by_cases hlt : d < N / 2
      · obtain ⟨v1, hv⟩ : ∃ v : Int, v = fcol bs d := ⟨_, rfl⟩
        have HV := hidd hv
        clear hv
        have HSN := hidd (fillA_snoc (fcol bs) d)
        go_wp2_with (refine wpList_load_row rfl 25 (.tmp 1) rfl w.heap.size rfl 25 _ (0,0) _ HK.out.1 Try.underlying25 rfl HS.out ?_)
        refine (at57 (N : Int) k bs hb (N : Int) 0 ((d : Int) + 1) _ (by omega) (by omega) (by omega) (by omega) (by omega) (by omega)).mono ?_
        rintro e w1 ⟨he, hb1⟩
        rw [show colAt bs 0 ((d : Int) + 1) = v1 from HV.out.symm] at he
        subst he
        have K1 := hidd (And.intro (HK.out.1.below hb1 HK.out.1.lt) (And.intro (own_below HK.out.2.1 hb1 (Nat.le_refl _)) (HK.out.2.2.trans (hb1.mono HK.out.2.2.size))))
        clear hb1 c0
        have hown := K1.out.2.1
        have hlen := fillA_len (fcol bs) d
        have hsz := K1.out.2.2.size
        have hszC := K1.out.1.lt
        go_wp2_with (at_builtin; refine wpList_append_own _ rfl _ _ 22 rfl (w.heap.size + 1) 2 t0 (.int .i64 0) 1 8 Try.underlying22 HIF.out.1 HIF.out.2.1 HIF.out.2.2.1 HIF.out.2.2.2 rfl (by decide) _ _ _ rfl (hown.alloc _) ⟨w1.heap.size, 0, none⟩ 1 1 [.int .i64 v1] rfl rfl ?c1 ?c2 ?c3 ?c4 ?c5 ?_)
        case c1 => exact one_new _ _ _
        case c2 => intro u hu; simp at hu; subst hu; rfl
        case c3 => unfold maxLen; omega
        case c4 => omega
        case c5 => simp; omega
        intro v' w2 hown' hgrow _
        have K3 := hidd (show RelLs bs (ccells (N : Int) k bs).toArray w (d + 1) v' w2 from ⟨K1.out.1.below (grown_step hown hgrow (by omega)) (by omega), by rw [HSN.out, ← HV.out, icells_app, List.length_append, fillA_len]; exact hown', K1.out.2.2.trans ((grown_step hown hgrow (by omega)).mono (by omega))⟩)
        clear hown' hgrow hown
        go_wp2
        go_roundw
        case rel => exact ⟨d + 1, by omega, by go_num, K3.out⟩
        case measure => simp [intOf]; omega
      · have hde : d = N / 2 := by omega
        subst hde
        obtain ⟨a, cap, rfl, ho⟩ := own_list HK.out.2.1
        have K := hidd (And.intro HK.out.1 (And.intro ho HK.out.2.2))
        have HL2 := hidd (fillA_len (fcol bs) (N / 2))
        have HBL := hidd (Below.refl wr.heap.size wr)
        clear HK ho
        rw [HL2.out]
        have hdi : decide (((N / 2 : Nat) : Int) + 1 ≤ (N : Int) / 2) = false := by simp; omega
        go_wp2_with fail
        refine wp_region_quiet_at (fun w' => Below wr.heap.size wr w') rfl (by kernel_rfl) ((Below.refl _ _).drew) ?_
        refine qs rfl (fun KQ hKQ => ?_)
        apply Exists.intro
        refine ⟨fun w' hw' => ?_, ?_⟩
        · go_simp; exact rfl
        go_simp
        refine hKQ _ ?_
        clear hKQ KQ
        refine qs rfl (fun KQ hKQ => ?_)
        apply Exists.intro
        refine ⟨fun w' hw' => ?_, ?_⟩
        · go_simp; exact rfl
        go_simp
        refine hKQ _ ?_
        clear hKQ KQ
        refine qs rfl (fun KQ hKQ => ?_)
        apply Exists.intro
        refine ⟨fun w' hw' => ?_, ?_⟩
        · have c0 := (K.out.1.below hw' K.out.1.lt).cell HC0.out; go_simp; exact rfl
        go_simp
        refine hKQ _ ?_
        clear hKQ KQ
        refine qs rfl (fun KQ hKQ => ?_)
        apply Exists.intro
        refine ⟨fun w' hw' => ?_, ?_⟩
        · go_simp; exact rfl
        go_simp
        refine hKQ _ ?_
        clear hKQ KQ
        refine qs rfl (fun KQ hKQ => ?_)
        apply Exists.intro
        refine ⟨fun w' hw' => ?_, ?_⟩
        · have c0 := (K.out.1.below hw' K.out.1.lt).cell HC1.out; go_simp; exact rfl
        go_simp
        refine hKQ _ ?_
        clear hKQ KQ
        refine qs rfl (fun KQ hKQ => ?_)
        apply Exists.intro
        refine ⟨fun w' hw' => ?_, ?_⟩
        · go_simp; exact rfl
        go_simp
        refine hKQ _ ?_
        clear hKQ KQ
        refine qs rfl (fun KQ hKQ => ?_)
        apply Exists.intro
        refine ⟨fun w' hw' => ?_, ?_⟩
        · go_simp; exact (HSC.out a cap _ (K.out.2.1.sl.below hw' (Nat.le_refl _))).mono fun _ _ h => ⟨h.1, hw'.trans (h.2.mono hw'.size)⟩
        go_simp
        refine hKQ _ ?_
        clear hKQ KQ
        refine qs rfl (fun KQ hKQ => ?_)
        apply Exists.intro
        refine ⟨fun w' hw' => ?_, ?_⟩
        · exact quietRow 25 (.tmp 1) rfl w.heap.size rfl 25 _ _ (K.out.1.below hw' K.out.1.lt) Try.underlying25 rfl HS.out
        go_simp
        refine hKQ _ ?_
        clear hKQ KQ
        refine qs rfl (fun KQ hKQ => ?_)
        apply Exists.intro
        refine ⟨fun w' hw' => ?_, ?_⟩
        · exact quietEql25 _ _ rfl (N : Int) k PB bs HPB.out hb rfl rfl
        go_simp
        refine hKQ _ ?_
        clear hKQ KQ
        refine qs rfl (fun KQ hKQ => ?_)
        apply Exists.intro
        refine ⟨fun w' hw' => ?_, ?_⟩
        · go_simp; exact rfl
        go_simp
        refine hKQ _ ?_
        clear hKQ KQ
        refine qs rfl (fun KQ hKQ => ?_)
        apply Exists.intro
        refine ⟨fun w' hw' => ?_, ?_⟩
        · go_simp; exact rfl
        go_simp
        refine hKQ _ ?_
        clear hKQ KQ
        refine wpQuiet_nil ?_
        intro w' hw'
        have R := hidd (And.intro (K.out.2.1.below hw' (Nat.le_refl _)) (K.out.2.2.trans (hw'.mono K.out.2.2.size)))
        clear hw'
        go_wp2_with fail
        go_ret2
        exact ⟨a, cap, by rw [HLN.out]; rfl, ownL_base R.out.1 (by omega), R.out.2⟩
  · have hN1 : N = 1 := by omega
    rw [if_neg hN, show circB N bs = false by unfold circB; rw [decide_eq_false hN]; rfl]
    have hd : decide ((N : Int) < 2) = true := by simp; omega
    have hc0 := HC0.out
    clear hN hN1
    go_enter Try.func67, Try.ntmps67
    go_wp2_with fail
    go_ret2
    exact ⟨none, 0, rfl, .inl rfl, (Below.refl _ _).alloc (Nat.le_refl _) _⟩
set_option maxRecDepth 100000 in
set_option maxHeartbeats 2000000 in
theorem spec28l (n k : Int) (bs : List Nat) (hb : Bys bs) (w : World) :
    Calls Try.prog 28 #[.agg (ccells n k bs).toArray] w (LOut w (lcList n k bs) (lcCode n k bs)) := by
  have HS := hidd (size_c26 n k hb)
  cases hi : isCol n k bs with
  | false =>
    obtain ⟨e1, e2⟩ := lc_1 hi
    have HI := hidd hi
    rw [e1, e2]
    clear hi e1 e2
    go_enter Try.func28, Try.ntmps28
    go_wp2_with (refine wpList_load_row rfl 25 (.tmp 1) rfl w.heap.size rfl 25 _ (0,0) _ (Blk.new _ _ _ _ rfl) Try.underlying25 rfl HS.out ?_)
    refine (l01Is_any n k bs hb _).mono ?_
    rintro e w1 ⟨rfl, hb1⟩
    rw [HI.out]
    have G := hidd (((Below.refl w.heap.size w).alloc (Nat.le_refl _) (.cells (ccells n k bs).toArray 25)).trans (hb1.mono (by simp)))
    clear hb1
    go_wp2_with fail
    go_ret2
    exact lout_nil rfl G.out
  | true =>
    obtain ⟨n1, n2, k1, k2⟩ := isCol_bd hi
    have HI := hidd hi
    obtain ⟨N, rfl⟩ := Int.eq_ofNat_of_zero_le (show 0 ≤ n by omega)
    cases hcb : circB N bs with
    | false =>
      obtain ⟨e1, e2⟩ := lc_5 (n := (N : Int)) (k := k) hi (by rw [Int.toNat_natCast]; exact hcb)
      rw [e1, e2]
      have HCB := hidd hcb
      have n1' : 1 ≤ N := by omega
      have n2' : N ≤ 17 := by omega
      obtain ⟨zs, hzs⟩ : ∃ zs, zs = (if 2 ≤ N then lcL N bs else []) := ⟨_, rfl⟩
      have HLZ := hidd (fun W => by have h := list67 N k bs hb n1' n2' W; rw [← hzs] at h; exact h)
      clear hi hcb e1 e2 hzs
      go_enter Try.func28, Try.ntmps28
      go_wp2_with (refine wpList_load_row rfl 25 (.tmp 1) rfl w.heap.size rfl 25 _ (0,0) _ (Blk.new _ _ _ _ rfl) Try.underlying25 rfl HS.out ?_)
      refine (l01Is_any (N : Int) k bs hb _).mono ?_
      rintro e w1 ⟨rfl, hb1⟩
      rw [HI.out]
      have G := hidd (And.intro ((Blk.new w (ccells (N : Int) k bs).toArray 25 _ rfl).below hb1 (by simp)) (((Below.refl w.heap.size w).alloc (Nat.le_refl _) (.cells (ccells (N : Int) k bs).toArray 25)).trans (hb1.mono (by simp))))
      clear hb1
      go_wp2_with (refine wpList_load_row rfl 25 (.tmp 1) rfl w.heap.size rfl 25 _ (0,0) _ G.out.1 Try.underlying25 rfl HS.out ?_)
      refine (HLZ.out _).mono ?_
      rintro e w2 ⟨a, cap, rfl, hown, hb2⟩
      rw [HCB.out]
      have R := hidd (G.out.2.trans (hb2.mono G.out.2.size))
      clear hb2 hown
      go_wp2_with fail
      go_ret2
      exact lout_nil rfl R.out
    | true =>
      obtain ⟨e1, e2⟩ := lc_0 (n := (N : Int)) (k := k) hi (by rw [Int.toNat_natCast]; exact hcb)
      rw [e1, e2, Int.toNat_natCast]
      have h2N : 2 ≤ N := by
        unfold circB at hcb
        rw [Bool.and_eq_true] at hcb
        exact of_decide_eq_true hcb.1
      have HCB := hidd hcb
      have HLL := hidd (if_pos h2N : (if 2 ≤ N then lcL N bs else []) = lcL N bs)
      clear hi hcb e1 e2
      go_enter Try.func28, Try.ntmps28
      go_wp2_with (refine wpList_load_row rfl 25 (.tmp 1) rfl w.heap.size rfl 25 _ (0,0) _ (Blk.new _ _ _ _ rfl) Try.underlying25 rfl HS.out ?_)
      refine (l01Is_any (N : Int) k bs hb _).mono ?_
      rintro e w1 ⟨rfl, hb1⟩
      rw [HI.out]
      have G := hidd (And.intro ((Blk.new w (ccells (N : Int) k bs).toArray 25 _ rfl).below hb1 (by simp)) (((Below.refl w.heap.size w).alloc (Nat.le_refl _) (.cells (ccells (N : Int) k bs).toArray 25)).trans (hb1.mono (by simp))))
      clear hb1
      go_wp2_with (refine wpList_load_row rfl 25 (.tmp 1) rfl w.heap.size rfl 25 _ (0,0) _ G.out.1 Try.underlying25 rfl HS.out ?_)
      refine (list67 N k bs hb (by omega) (by omega) _).mono ?_
      rintro e w2 ⟨a, cap, rfl, hown, hb2⟩
      rw [HCB.out]
      rw [HLL.out] at hown ⊢
      have R := hidd (And.intro hown (G.out.2.trans (hb2.mono G.out.2.size)))
      clear hb2 hown
      go_wp2_with fail
      go_ret2
      exact ⟨a, cap, rfl, ownL_base R.out.1 (by have := G.out.2.size; omega), R.out.2⟩
end Go.Proofs.Ytikcmgmgdbbcfaa
