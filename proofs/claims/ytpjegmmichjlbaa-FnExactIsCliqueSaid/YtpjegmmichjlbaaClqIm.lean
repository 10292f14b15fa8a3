/- IsClique: the program. -/
import Derived.Test.YtpjegmmichjlbaaClqMo
namespace Go.Proofs.Ytpjegmmichjlbaa
set_option linter.unusedVariables false
set_option linter.unusedSimpArgs false
open Go Go.RowKit Go.Shelf
theorem slice38 (b o len cap j : Nat) (w : World) (h : j ≤ cap) : (Instr.sliceAt 38 (.slice (some ⟨b, o, none⟩) len cap) none (some (.int .i64 j)) none).run Try.prog w = .ok (.slice (some ⟨b, o, none⟩) j cap) w := by
  simp [Instr.sliceAt, Instr.slice, Instr.sureAddr, Instr.sliceBounds, Instr.sliceBound, Sem.run_bind, run_underlying Try.underlying38, asIntOf, h, Result.andThen, Addr.add]
set_option maxRecDepth 100000 in
set_option maxHeartbeats 4000000 in
theorem impl25 (n k : Int) (bs : List Nat) (hb : Bys bs) (c : Int) (zs : List Int) (a : Option Addr) (cap : Nat) (w : World) (hs : SlI w a zs) (hl : zs.length ≤ 9223372036854775807) (hcap : zs.length ≤ cap) :
    Calls Try.prog 25 #[.agg (ccells n k bs).toArray, .int .i64 c, .slice a zs.length cap] w fun e w' => e = .returned (.tuple #[.bool (icV n k bs c zs), .int .i64 (icCode n k bs c zs)]) ∧ Below w.heap.size w w' := by
  have HS := hidd (size_c26 n k hb)
  have HC0 := hidd (show (ccells n k bs).toArray[0]? = some (.int .i64 n) from rfl)
  have HC1 := hidd (show (ccells n k bs).toArray[1]? = some (.int .i64 k) from rfl)
  have hmk : ∀ w0, w0 = w.alloc (.cells (ccells n k bs).toArray 29) → ∀ w1, Below w0.heap.size w0 w1 → RelCq (ccells n k bs).toArray zs a w w1 := by
    rintro w0 rfl w1 hb1
    have hbl := ((Below.refl w.heap.size w).alloc (Nat.le_refl _) (.cells (ccells n k bs).toArray 29)).trans (hb1.mono (by simp))
    exact ⟨(Blk.new _ _ _ _ rfl).below hb1 (by simp), hs.below hbl (Nat.le_refl _), hbl⟩
  have HMK := hidd hmk
  clear hmk hs
  cases hi : isCol n k bs with
  | false =>
    obtain ⟨v1, v2⟩ := ic_bad (icCode_1 (c := c) (zs := zs) hi) (by omega)
    rw [v1, v2]
    have HI := hidd hi
    clear hi v1 v2
    go_enter Try.func25, Try.ntmps25
    go_wp2_with (refine wpList_load_row rfl 29 (.tmp 3) rfl w.heap.size rfl 29 _ (0,0) _ (Blk.new _ _ _ _ rfl) Try.underlying29 rfl HS.out ?_)
    refine (implIs_any n k bs hb _).mono ?_
    rintro e w1 ⟨rfl, hb1⟩
    rw [HI.out]
    have R := hidd (HMK.out _ rfl _ hb1).2.2
    clear hb1
    go_wp2
    go_ret2
    exact ⟨rfl, R.out⟩
  | true =>
    have HI := hidd hi
    obtain ⟨n1, n2, k1, k2⟩ := isCol_bd hi
    cases hcb : belowB c k with
    | false =>
      obtain ⟨v1, v2⟩ := ic_bad (icCode_2 (c := c) (zs := zs) hi (by rw [hcb]; rfl)) (by omega)
      rw [v1, v2]
      have HB := hidd hcb
      clear hi hcb v1 v2
      go_enter Try.func25, Try.ntmps25
      go_wp2_with (refine wpList_load_row rfl 29 (.tmp 3) rfl w.heap.size rfl 29 _ (0,0) _ (Blk.new _ _ _ _ rfl) Try.underlying29 rfl HS.out ?_)
      refine (implIs_any n k bs hb _).mono ?_
      rintro e w1 ⟨rfl, hb1⟩
      rw [HI.out]
      have R := hidd (HMK.out _ rfl _ hb1)
      have c1 := R.out.1.cell HC1.out
      clear hb1
      go_wp2_with fail
      refine (below61 c k w1).mono ?_
      rintro e _ ⟨rfl, rfl⟩
      rw [HB.out]
      go_wp2
      go_ret2
      exact ⟨rfl, R.out.2.2⟩
    | true =>
      have HB := hidd hcb
      cases hset : setB zs n with
      | false =>
        obtain ⟨v1, v2⟩ := ic_bad (icCode_2 (c := c) (zs := zs) hi (by rw [hset, Bool.and_false])) (by omega)
        rw [v1, v2]
        have HSET := hidd hset
        clear hi hcb hset v1 v2
        go_enter Try.func25, Try.ntmps25
        go_wp2_with (refine wpList_load_row rfl 29 (.tmp 3) rfl w.heap.size rfl 29 _ (0,0) _ (Blk.new _ _ _ _ rfl) Try.underlying29 rfl HS.out ?_)
        refine (implIs_any n k bs hb _).mono ?_
        rintro e w1 ⟨rfl, hb1⟩
        rw [HI.out]
        have R := hidd (HMK.out _ rfl _ hb1)
        have c1 := R.out.1.cell HC1.out
        have c0 := R.out.1.cell HC0.out
        clear hb1
        go_wp2_with fail
        refine (below61 c k w1).mono ?_
        rintro e _ ⟨rfl, rfl⟩
        rw [HB.out]
        go_wp2_with fail
        refine (set69 zs a cap n w1 R.out.2.1 hl).mono ?_
        rintro e w2 ⟨rfl, hb2⟩
        rw [HSET.out]
        have R2 := hidd (R.out.2.2.trans (hb2.mono R.out.2.2.size))
        clear hb2 c0 c1
        go_wp2
        go_ret2
        exact ⟨rfl, R2.out⟩
      | true =>
        obtain ⟨v1, v2⟩ := ic_good (icCode_0 (c := c) (zs := zs) hi (by rw [hset, hcb]; rfl))
        rw [v1, v2]
        have HSET := hidd hset
        have hlen := set_len hset (by omega)
        clear hi hcb hset v1 v2
        go_enter Try.func25, Try.ntmps25
        go_wp2_with (refine wpList_load_row rfl 29 (.tmp 3) rfl w.heap.size rfl 29 _ (0,0) _ (Blk.new _ _ _ _ rfl) Try.underlying29 rfl HS.out ?_)
        refine (implIs_any n k bs hb _).mono ?_
        rintro e w1 ⟨rfl, hb1⟩
        rw [HI.out]
        have R := hidd (HMK.out _ rfl _ hb1)
        have c1 := R.out.1.cell HC1.out
        have c0 := R.out.1.cell HC0.out
        clear hb1
        go_wp2_with fail
        refine (below61 c k w1).mono ?_
        rintro e _ ⟨rfl, rfl⟩
        rw [HB.out]
        go_wp2_with fail
        refine (set69 zs a cap n w1 R.out.2.1 hl).mono ?_
        rintro e w2 ⟨rfl, hb2⟩
        rw [HSET.out]
        have G := hidd (show RelCq (ccells n k bs).toArray zs a w w2 from ⟨R.out.1.below hb2 R.out.1.lt, R.out.2.1.below hb2 (Nat.le_refl _), R.out.2.2.trans (hb2.mono R.out.2.2.size)⟩)
        clear hb2 c0 c1
        go_wp2_with fail
        go_loopw [29] (fun e wr => ∃ j : Nat, j ≤ zs.length ∧ e = .int .i64 j ∧ Hid (Cli bs c zs j) ∧ RelCq (ccells n k bs).toArray zs a w wr) (fun e _ => zs.length - (intOf e).toNat)
        case atStart => exact ⟨0, by omega, rfl, fun j' hj' => by omega, G.out⟩
        case round =>
          obtain ⟨j, hj, rfl, HC, HR⟩ := hrel
          have HK := hidd HR
          clear HR
          by_cases hlt : j < zs.length
          · rcases HK.out.2.1 with hz | ⟨b, off, ha, hc⟩
            · subst hz; simp at hlt
            · subst ha
              have hcj := hc j hlt
              have hsl := fun w => slice38 b off zs.length cap j w (by omega)
              obtain ⟨z, hz⟩ : ∃ z, z = zs.getD j 0 := ⟨_, rfl⟩
              rw [← hz] at hcj
              have HZ := hidd hz
              clear hc hz
              go_wp2_with fail
              clear hcj hsl
              go_loopw [38] (fun e wr => ∃ i : Nat, i ≤ j ∧ e = .int .i64 i ∧ Hid (Cli2 bs c zs j i) ∧ RelCq (ccells n k bs).toArray zs (some ⟨b, off, none⟩) w wr) (fun e _ => j - (intOf e).toNat)
              case atStart => exact ⟨0, by omega, rfl, ⟨HC.out, fun i' hi' => by omega⟩, HK.out⟩
              case round =>
                obtain ⟨i, hi, rfl, HC2, HR⟩ := hrel
                have HK2 := hidd HR
                clear HR
                by_cases hil : i < j
                · rcases HK2.out.2.1 with hz | ⟨b', off', ha, hc⟩
                  · subst hz; simp at hlt
                  · cases ha
                    have hci := hc i (by omega)
                    obtain ⟨y, hy⟩ : ∃ y, y = zs.getD i 0 := ⟨_, rfl⟩
                    have hup := set_up HSET.out (i := i) (j - i) (by omega)
                    rw [show i + (j - i) = j by omega] at hup
                    obtain ⟨y0, y1⟩ := (set_get HSET.out).1 i (by omega)
                    obtain ⟨z0, z1⟩ := (set_get HSET.out).1 j hlt
                    rw [← hy] at hci hup y0 y1
                    rw [← HZ.out] at hup z0 z1
                    have HNE := hidd (show y ≠ z by omega)
                    obtain ⟨x, hx⟩ : ∃ x, x = colAt bs y z := ⟨_, rfl⟩
                    have HX := hidd hx
                    have HY := hidd hy
                    clear hc hy hup hx
                    go_wp2_with (refine wpList_load_row rfl 29 (.tmp 3) rfl w.heap.size rfl 29 _ (0,0) _ HK2.out.1 Try.underlying29 rfl HS.out ?_)
                    refine (at59 n k bs hb n y z _ n2 y0 y1 z0 z1 HNE.out).mono ?_
                    rintro e w3 ⟨rfl, hb3⟩
                    rw [← HX.out]
                    have K9 := hidd (show RelCq (ccells n k bs).toArray zs (some ⟨b, off, none⟩) w w3 from ⟨HK2.out.1.below hb3 HK2.out.1.lt, HK2.out.2.1.below hb3 (Nat.le_refl _), HK2.out.2.2.trans (hb3.mono HK2.out.2.2.size)⟩)
                    clear hb3 hci
                    by_cases hxc : x = c
                    · have hq : (x != c) = false := by simpa using hxc
                      have HC3 := hidd (HC2.out.step (show colAt bs (zs.getD i 0) (zs.getD j 0) = c by rw [← HY.out, ← HZ.out, ← HX.out, hxc]))
                      clear hxc
                      go_wp2_with fail
                      go_roundw
                      case rel => exact ⟨i + 1, by omega, by go_num, HC3, K9.out⟩
                      case measure => simp [intOf]; omega
                    · have hq : (x != c) = true := by rw [bne_iff_ne]; exact hxc
                      have HF := hidd (cli_no (bs := bs) (c := c) hlt hil (by rw [← HY.out, ← HZ.out, ← HX.out]; exact hxc))
                      clear hxc
                      go_wp2
                      go_ret2
                      exact ⟨by rw [HF.out]; rfl, K9.out.2.2⟩
                · have hie : i = j := by omega
                  subst hie
                  go_wp2_with fail
                  go_roundw
                  case rel => exact ⟨i + 1, by omega, by go_num, HC2.out.done, HK2.out⟩
                  case measure => simp [intOf]; omega
          · have hje : j = zs.length := by omega
            subst hje
            have HT := hidd (cli_yes (bs := bs) (c := c) HC.out)
            go_wp2_with fail
            go_ret2
            exact ⟨by rw [HT.out]; rfl, HK.out.2.2⟩
end Go.Proofs.Ytpjegmmichjlbaa
