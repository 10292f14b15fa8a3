/- MakeMove: the program and its model. -/
import Derived.Test.YteclbaalejondaaLis
namespace Go.Proofs.Yteclbaalejondaa
set_option linter.unusedVariables false
set_option linter.unusedSimpArgs false
open Go Go.RowKit Go.Shelf
/-- Why a move cannot be made, if so: over, or taken. -/
def mmB (N : Nat) (zs : List Int) (e : Nat) : Bool := (rsl N zs != -1) || !frB zs e
def mmCode (n : Int) (zs : List Int) (e : Int) : Int :=
  if lstB n zs = true ∧ inB e 0 ((zs.length : Int) - 1) = true then (if posB n.toNat zs = true then (if mmB n.toNat zs e.toNat = true then 5 else 0) else 1) else 2
def mmL (n : Int) (zs : List Int) (e : Int) : List Int := if mmCode n zs e = 0 then aft zs e.toNat else []
theorem mm_2 {n : Int} {zs : List Int} {e : Int} (h : ¬ (lstB n zs = true ∧ inB e 0 ((zs.length : Int) - 1) = true)) : mmCode n zs e = 2 := if_neg h
theorem mm_1 {n : Int} {zs : List Int} {e : Int} (h : lstB n zs = true) (h2 : inB e 0 ((zs.length : Int) - 1) = true) (h3 : posB n.toNat zs = false) : mmCode n zs e = 1 := by
  unfold mmCode; rw [if_pos ⟨h, h2⟩, if_neg (by simp [h3])]
theorem mm_5 {n : Int} {zs : List Int} {e : Int} (h : lstB n zs = true) (h2 : inB e 0 ((zs.length : Int) - 1) = true) (h3 : posB n.toNat zs = true) (h4 : mmB n.toNat zs e.toNat = true) : mmCode n zs e = 5 := by
  unfold mmCode; rw [if_pos ⟨h, h2⟩, if_pos h3, if_pos h4]
theorem mm_0 {n : Int} {zs : List Int} {e : Int} (h : lstB n zs = true) (h2 : inB e 0 ((zs.length : Int) - 1) = true) (h3 : posB n.toNat zs = true) (h4 : mmB n.toNat zs e.toNat = false) : mmCode n zs e = 0 := by
  unfold mmCode; rw [if_pos ⟨h, h2⟩, if_pos h3, if_neg (by simp [h4])]
theorem mmL_no {n : Int} {zs : List Int} {e c : Int} (h : mmCode n zs e = c) (hc : c ≠ 0) : mmL n zs e = [] := if_neg (by rw [h]; exact hc)
theorem mmL_0 {n : Int} {zs : List Int} {e : Int} (h : mmCode n zs e = 0) : mmL n zs e = aft zs e.toNat := if_pos h
theorem mm_inv {n : Int} {zs : List Int} {e : Int} (h : mmCode n zs e = 0) : lstB n zs = true := by
  unfold mmCode at h
  split at h
  · rename_i h1; exact h1.1
  · omega
theorem mm_len {n : Int} {zs : List Int} {e : Int} : (mmL n zs e).length ≤ 1000 := by
  by_cases h : mmCode n zs e = 0
  · rw [mmL_0 h, aft_len]
    obtain ⟨N, _, _, _, _, h10⟩ := lst_len (mm_inv h)
    omega
  · rw [mmL_no rfl h]; simp
theorem aft_all {zs : List Int} (h : allW zs = true) (hm : mvr zs = 0 ∨ mvr zs = 1) {e : Nat} (he : e < zs.length) : allW (aft zs e) = true := by
  refine allW_yes fun j hj => ?_
  rw [aft_len] at hj
  unfold aft
  rw [getD_set he]
  split
  · rcases hm with hm | hm <;> rw [hm] <;> rfl
  · have := allW_get h hj
    generalize zs.getD j 0 = z at *
    unfold inB; simp; omega
set_option maxRecDepth 100000 in
set_option maxHeartbeats 2000000 in
theorem spec24v (n : Int) (zs : List Int) (e : Int) (a : Option Addr) (cap : Nat) (w : World) (hs : SlI w a zs) (hl : zs.length ≤ 9223372036854775807) :
    Calls Try.prog 24 #[.int .i64 n, .slice a zs.length cap, .int .i64 e] w (LOut w (mmL n zs e) (mmCode n zs e)) := by
  have HLs := hidd (lists28 n zs a cap w hs hl)
  have HC := hidd (code31 n zs a cap w hs hl)
  have HSL := hidd hs
  clear hs
  cases q : lstB n zs with
  | false =>
    have hc := mm_2 (n := n) (zs := zs) (e := e) (by rw [q]; simp)
    rw [mmL_no hc (by decide), hc]
    rw [ls_2 q] at HLs
    clear hc q
    go_enter Try.func24, Try.ntmps24
    go_wp2_with fail
    refine HLs.out.mono ?_
    rintro x w' ⟨rfl, rfl⟩
    go_wp2_with fail
    go_ret2
    exact lout_nil rfl (Below.refl _ _)
  | true =>
    rw [ls_0 q] at HLs
    obtain ⟨N, rfl, n1, n5, hlen, hl10⟩ := lst_len q
    have hw1 : IntKind.i64.wrap ((zs.length : Int) - 1) = (zs.length : Int) - 1 := IntWalk.i64_in _ (by omega)
    cases qe : inB e 0 ((zs.length : Int) - 1) with
    | false =>
      have hc := mm_2 (n := (N : Int)) (zs := zs) (e := e) (by rw [qe]; simp)
      rw [mmL_no hc (by decide), hc]
      have HE := hidd qe
      clear hc q qe hlen
      go_enter Try.func24, Try.ntmps24
      go_wp2_with fail
      refine HLs.out.mono ?_
      rintro x w' ⟨rfl, rfl⟩
      go_wp2_with (go_at_call 42; refine (in49 _ _ _ _).mono ?_; rintro x w' ⟨rfl, rfl⟩; rw [HE.out])
      go_ret2
      exact lout_nil rfl (Below.refl _ _)
    | true =>
      have HE := hidd qe
      obtain ⟨e0, e1⟩ := inB_bd qe
      cases qp : posB N zs with
      | false =>
        have hc := mm_1 (e := e) q qe (by rw [Int.toNat_natCast]; exact qp)
        rw [mmL_no hc (by decide), hc]
        rw [gm_1 q (by rw [Int.toNat_natCast]; exact qp)] at HC
        clear hc q qe qp hlen
        go_enter Try.func24, Try.ntmps24
        go_wp2_with fail
        refine HLs.out.mono ?_
        rintro x w' ⟨rfl, rfl⟩
        go_wp2_with (go_at_call 42; refine (in49 _ _ _ _).mono ?_; rintro x w' ⟨rfl, rfl⟩; rw [HE.out])
        refine HC.out.mono ?_
        rintro x w' ⟨rfl, rfl⟩
        go_wp2_with fail
        go_ret2
        exact lout_nil rfl (Below.refl _ _)
      | true =>
        obtain ⟨E, rfl⟩ := Int.eq_ofNat_of_zero_le e0
        have hEl : E < zs.length := by omega
        have hEI : (E : Int) < (zs.length : Int) := by omega
        have hg0 := gm_0 q (by rw [Int.toNat_natCast]; exact qp)
        obtain ⟨N', hN', hP⟩ := pos_of hg0
        obtain rfl : N = N' := by omega
        rw [hg0] at HC
        have HR := hidd (fun w hs => result34 N zs a cap w hs n1 n5 hlen hP.mov)
        have hge := rsl_ge (N := N) hP.mov
        have HMV := hidd (fun w hs => move40 zs E hEl hl10 a cap w hs)
        have hfr : frB zs E = decide (zs.getD E 0 < 0) := rfl
        cases hb : (rsl N zs != -1) with
        | true =>
          have hc := mm_5 (e := (E : Int)) q qe (by rw [Int.toNat_natCast]; exact qp) (by rw [Int.toNat_natCast, Int.toNat_natCast]; unfold mmB; rw [hb]; rfl)
          rw [mmL_no hc (by decide), hc]
          rw [hb] at hge
          generalize rsl N zs = r at *
          clear hc q qe qp hlen hg0 hP hb hN'
          go_enter Try.func24, Try.ntmps24
          go_wp2_with fail
          refine HLs.out.mono ?_
          rintro x w' ⟨rfl, rfl⟩
          go_wp2_with (go_at_call 42; refine (in49 _ _ _ _).mono ?_; rintro x w' ⟨rfl, rfl⟩; rw [HE.out])
          refine HC.out.mono ?_
          rintro x w' ⟨rfl, rfl⟩
          go_wp2_with fail
          refine (HR.out w HSL.out).mono ?_
          rintro x w2 ⟨rfl, hb2⟩
          have G := hidd hb2
          clear hb2
          go_wp2_with fail
          go_ret2
          exact lout_nil rfl G.out
        | false =>
          rw [hb] at hge
          have HCELL := hidd (fun w2 (h2 : SlI w2 a zs) => (show ∃ b off, a = some ⟨b, off, none⟩ ∧ w2.cell? ⟨b, off + E, none⟩ = some (.int .i64 (zs.getD E 0)) by
            rcases h2 with hz | ⟨b, off, rfl, hc⟩
            · subst hz; simp at hEl
            · exact ⟨b, off, rfl, hc E hEl⟩))
          cases hf : frB zs E with
          | false =>
            have hc := mm_5 (e := (E : Int)) q qe (by rw [Int.toNat_natCast]; exact qp) (by rw [Int.toNat_natCast, Int.toNat_natCast]; unfold mmB; rw [hb, hf]; rfl)
            rw [mmL_no hc (by decide), hc]
            have hzge : decide (0 ≤ zs.getD E 0) = true := by rw [hf] at hfr; have := hfr.symm; simp only [decide_eq_false_iff_not] at this; exact decide_eq_true (by omega)
            generalize zs.getD E 0 = z at *
            generalize rsl N zs = r at *
            clear hc q qe qp hlen hg0 hP hb hN' hf hfr
            go_enter Try.func24, Try.ntmps24
            go_wp2_with fail
            refine HLs.out.mono ?_
            rintro x w' ⟨rfl, rfl⟩
            go_wp2_with (go_at_call 42; refine (in49 _ _ _ _).mono ?_; rintro x w' ⟨rfl, rfl⟩; rw [HE.out])
            refine HC.out.mono ?_
            rintro x w' ⟨rfl, rfl⟩
            go_wp2_with fail
            refine (HR.out w HSL.out).mono ?_
            rintro x w2 ⟨rfl, hb2⟩
            obtain ⟨b, off, ha, hcell⟩ := HCELL.out w2 (HSL.out.below hb2 (Nat.le_refl _))
            subst ha
            have G := hidd hb2
            clear hb2
            go_wp2_with fail
            go_ret2
            exact lout_nil rfl G.out
          | true =>
            have hc := mm_0 (e := (E : Int)) q qe (by rw [Int.toNat_natCast]; exact qp) (by rw [Int.toNat_natCast, Int.toNat_natCast]; unfold mmB; rw [hb, hf]; rfl)
            rw [mmL_0 hc, hc, Int.toNat_natCast]
            have hzge : decide (0 ≤ zs.getD E 0) = false := by rw [hf] at hfr; have := hfr.symm; simp only [decide_eq_true_eq] at this; exact decide_eq_false (by omega)
            generalize zs.getD E 0 = z at *
            generalize rsl N zs = r at *
            have HAL := hidd (aft_len zs E)
            clear hc q qe qp hlen hg0 hP hb hN' hf hfr
            go_enter Try.func24, Try.ntmps24
            go_wp2_with fail
            refine HLs.out.mono ?_
            rintro x w' ⟨rfl, rfl⟩
            go_wp2_with (go_at_call 42; refine (in49 _ _ _ _).mono ?_; rintro x w' ⟨rfl, rfl⟩; rw [HE.out])
            refine HC.out.mono ?_
            rintro x w' ⟨rfl, rfl⟩
            go_wp2_with fail
            refine (HR.out w HSL.out).mono ?_
            rintro x w2 ⟨rfl, hb2⟩
            obtain ⟨b, off, ha, hcell⟩ := HCELL.out w2 (HSL.out.below hb2 (Nat.le_refl _))
            subst ha
            have G := hidd hb2
            have HM2 := hidd (HMV.out w2 (HSL.out.below hb2 (Nat.le_refl _)))
            clear hb2
            go_wp2_with fail
            refine HM2.out.mono ?_
            rintro x w3 ⟨g, c3, rfl, ho, hb3⟩
            have G3 := hidd (And.intro (ho.bas G.out.size) (G.out.trans (hb3.mono G.out.size)))
            clear ho hb3
            go_wp2_with fail
            go_ret2
            exact ⟨_, c3, by rw [HAL.out]; rfl, G3.out.1, G3.out.2⟩
end Go.Proofs.Yteclbaalejondaa
