/- The result of a position: the program; ResultOf, both sides. -/
import Derived.Test.YteclbaalejondaaFre
namespace Go.Proofs.Yteclbaalejondaa
set_option linter.unusedVariables false
set_option linter.unusedSimpArgs false
open Go Go.RowKit Go.Shelf
theorem cnt58 (N : Nat) (zs : List Int) (hl : zs.length ≤ 10) (w : World) : Calls Try.prog 58 #[psL N zs] w fun e w' => e = .returned (.int .i64 ((cnt (pw 0 zs) zs.length : Int) + (cnt (pw 1 zs) zs.length : Int))) ∧ Below w.heap.size w w' := by
  have h := count58 (N : Int) _ _ (tkn_lt (P := 0) (zs := zs) hl) (tkn_lt (P := 1) (zs := zs) hl) w
  unfold tkn at h
  rw [ones_arK, ones_arK] at h
  exact h
/-- What of a position is given. -/
structure Pos (N : Nat) (zs : List Int) : Prop where
  n1 : 1 ≤ N
  n5 : N ≤ 5
  len : zs.length = eN N
  l10 : zs.length ≤ 10
  all : allW zs = true
  mov : mvr zs = 0 ∨ mvr zs = 1
theorem pos_of {n : Int} {zs : List Int} (h : gmCode n zs = 0) : ∃ N : Nat, n = (N : Int) ∧ Pos N zs := by
  obtain ⟨h1, h2⟩ := gm_inv h
  obtain ⟨N, rfl, n1, n5, hlen, hl10⟩ := lst_len h1
  refine ⟨N, rfl, n1, n5, hlen, hl10, (lst_get h1).2.2.2, ?_⟩
  rw [Int.toNat_natCast] at h2
  unfold posB at h2
  rw [Bool.and_eq_true] at h2
  exact inB_out' h2.1
theorem full_free {N : Nat} {zs : List Int} (h : Pos N zs) : (((cnt (pw 0 zs) zs.length : Int) + (cnt (pw 1 zs) zs.length : Int)) == edg (N : Int)) = (nbK (frB zs) zs.length).isEmpty := by
  have hc := free_cnt h.all zs.length (Nat.le_refl _)
  have he := eN_edg N
  have hl := h.len
  rw [← len_zero, Bool.eq_iff_iff, beq_iff_eq, beq_iff_eq]
  omega
set_option maxRecDepth 100000 in
set_option maxHeartbeats 2000000 in
theorem result35 (N : Nat) (zs : List Int) (h : Pos N zs) (w : World) :
    Calls Try.prog 35 #[psL N zs] w fun e w' => e = .returned (.int .i64 (rsl N zs)) ∧ Below w.heap.size w w' := by
  have HM := hidd (fun w => mov33 N zs h.l10 w)
  have hmv := h.mov
  have HH := hidd (fun w => has57 (1 - mvr zs) (by omega) zs N h.n1 h.n5 h.len w)
  have HC := hidd (fun w => cnt58 N zs h.l10 w)
  have hff := full_free h
  have h1 := h.n1
  have h5 := h.n5
  have hw1 : IntKind.i64.wrap (1 - mvr zs) = 1 - mvr zs := IntWalk.i64_in _ (by omega)
  obtain ⟨V, hV⟩ : ∃ V, V = psZ N zs := ⟨_, rfl⟩
  have hVp : psL N zs = .agg V := by rw [hV]; rfl
  have HVS := hidd (show (Try.prog.info? 40).map (·.size) = some V.size by rw [hV]; exact size40)
  have HV0 := hidd (show V[0]? = some (Value.int .i64 (N : Int)) by rw [hV]; rfl)
  have HB0 := hidd (And.intro (Blk.new w V 40 _ rfl) ((Below.refl w.heap.size w).alloc (Nat.le_refl _) (.cells V 40)))
  rw [hVp] at HM HH HC ⊢
  cases q : (triK (1 - mvr zs) zs N).isEmpty with
  | false =>
    have H := hidd (rsl_m q)
    rw [q] at HH
    clear q hV hVp hff HC h
    generalize mvr zs = m at *
    go_enter Try.func35, Try.ntmps35
    go_wp2_with fail
    refine wp_region_quiet_at (fun w' => Blk w' w.heap.size V 40 ∧ Below w.heap.size w w') rfl (by kernel_rfl) (⟨HB0.out.1.drew, HB0.out.2.drew⟩) ?_
    refine qs rfl (fun KQ hKQ => ?_)
    apply Exists.intro
    refine ⟨fun w' hw' => ?_, ?_⟩
    · exact quietRow 40 (.tmp 1) rfl w.heap.size rfl 40 _ _ hw'.1 Try.underlying40 rfl HVS.out
    go_simp
    refine hKQ _ ?_
    clear hKQ KQ
    refine qs rfl (fun KQ hKQ => ?_)
    apply Exists.intro
    refine ⟨fun w' hw' => ?_, ?_⟩
    · exact quietRow 40 (.tmp 1) rfl w.heap.size rfl 40 _ _ hw'.1 Try.underlying40 rfl HVS.out
    go_simp
    refine hKQ _ ?_
    clear hKQ KQ
    refine qs rfl (fun KQ hKQ => ?_)
    apply Exists.intro
    refine ⟨fun w' hw' => ?_, ?_⟩
    · go_simp; exact (HM.out _).mono fun _ _ h => ⟨h.1, hw'.1.below h.2 hw'.1.lt, hw'.2.trans (h.2.mono hw'.2.size)⟩
    go_simp
    refine hKQ _ ?_
    clear hKQ KQ
    refine qs rfl (fun KQ hKQ => ?_)
    apply Exists.intro
    refine ⟨fun w' hw' => ?_, ?_⟩
    · go_simp; exact rfl
    go_simp
    refine hKQ _ ?_
    clear hKQ KQ
    refine qs rfl (fun KQ hKQ => ?_)
    apply Exists.intro
    refine ⟨fun w' hw' => ?_, ?_⟩
    · go_simp; exact (HH.out _).mono fun _ _ h => ⟨h.1, hw'.1.below h.2 hw'.1.lt, hw'.2.trans (h.2.mono hw'.2.size)⟩
    go_simp
    refine hKQ _ ?_
    clear hKQ KQ
    refine qs rfl (fun KQ hKQ => ?_)
    apply Exists.intro
    refine ⟨fun w' hw' => ?_, ?_⟩
    · go_simp; exact rfl
    go_simp
    refine hKQ _ ?_
    clear hKQ KQ
    refine wpQuiet_nil ?_
    intro w' hw'
    have G := hidd hw'
    clear hw'
    go_wp2_with (refine wpList_load_row rfl 40 (.tmp 1) rfl w.heap.size rfl 40 _ (0,0) _ G.out.1 Try.underlying40 rfl HVS.out ?_)
    refine (HM.out _).mono ?_
    rintro e w2 ⟨rfl, hb2⟩
    have G2 := hidd (G.out.2.trans (hb2.mono G.out.2.size))
    clear hb2
    go_wp2_with fail
    go_ret
    exact ⟨by rw [H.out]; rfl, G2.out⟩
  | true =>
    rw [q] at HH
    obtain ⟨b, hb⟩ : ∃ b, (nbK (frB zs) zs.length).isEmpty = b := ⟨_, rfl⟩
    rw [hb] at hff
    have H := hidd (show rsl N zs = if b = true then 2 else -1 by
      cases b with
      | true => rw [rsl_2 q hb]; rfl
      | false => rw [rsl_n q hb]; rfl)
    have hcb := cnt_le (pw 0 zs) zs.length
    have hcb1 := cnt_le (pw 1 zs) zs.length
    have hl10 := h.l10
    clear q hV hVp hb h
    generalize cnt (pw 0 zs) zs.length = c0 at *
    generalize cnt (pw 1 zs) zs.length = c1 at *
    generalize mvr zs = m at *
    go_enter Try.func35, Try.ntmps35
    go_wp2_with fail
    refine wp_region_quiet_at (fun w' => Blk w' w.heap.size V 40 ∧ Below w.heap.size w w') rfl (by kernel_rfl) (⟨HB0.out.1.drew, HB0.out.2.drew⟩) ?_
    refine qs rfl (fun KQ hKQ => ?_)
    apply Exists.intro
    refine ⟨fun w' hw' => ?_, ?_⟩
    · exact quietRow 40 (.tmp 1) rfl w.heap.size rfl 40 _ _ hw'.1 Try.underlying40 rfl HVS.out
    go_simp
    refine hKQ _ ?_
    clear hKQ KQ
    refine qs rfl (fun KQ hKQ => ?_)
    apply Exists.intro
    refine ⟨fun w' hw' => ?_, ?_⟩
    · exact quietRow 40 (.tmp 1) rfl w.heap.size rfl 40 _ _ hw'.1 Try.underlying40 rfl HVS.out
    go_simp
    refine hKQ _ ?_
    clear hKQ KQ
    refine qs rfl (fun KQ hKQ => ?_)
    apply Exists.intro
    refine ⟨fun w' hw' => ?_, ?_⟩
    · go_simp; exact (HM.out _).mono fun _ _ h => ⟨h.1, hw'.1.below h.2 hw'.1.lt, hw'.2.trans (h.2.mono hw'.2.size)⟩
    go_simp
    refine hKQ _ ?_
    clear hKQ KQ
    refine qs rfl (fun KQ hKQ => ?_)
    apply Exists.intro
    refine ⟨fun w' hw' => ?_, ?_⟩
    · go_simp; exact rfl
    go_simp
    refine hKQ _ ?_
    clear hKQ KQ
    refine qs rfl (fun KQ hKQ => ?_)
    apply Exists.intro
    refine ⟨fun w' hw' => ?_, ?_⟩
    · go_simp; exact (HH.out _).mono fun _ _ h => ⟨h.1, hw'.1.below h.2 hw'.1.lt, hw'.2.trans (h.2.mono hw'.2.size)⟩
    go_simp
    refine hKQ _ ?_
    clear hKQ KQ
    refine qs rfl (fun KQ hKQ => ?_)
    apply Exists.intro
    refine ⟨fun w' hw' => ?_, ?_⟩
    · go_simp; exact rfl
    go_simp
    refine hKQ _ ?_
    clear hKQ KQ
    refine wpQuiet_nil ?_
    intro w' hw'
    have G := hidd hw'
    clear hw'
    go_wp2_with fail
    refine wp_region_quiet_at (fun w' => Blk w' w.heap.size V 40 ∧ Below w.heap.size w w') rfl (by kernel_rfl) (⟨G.out.1.drew, G.out.2.drew⟩) ?_
    refine qs rfl (fun KQ hKQ => ?_)
    apply Exists.intro
    refine ⟨fun w' hw' => ?_, ?_⟩
    · exact quietRow 40 (.tmp 1) rfl w.heap.size rfl 40 _ _ hw'.1 Try.underlying40 rfl HVS.out
    go_simp
    refine hKQ _ ?_
    clear hKQ KQ
    refine qs rfl (fun KQ hKQ => ?_)
    apply Exists.intro
    refine ⟨fun w' hw' => ?_, ?_⟩
    · go_simp; exact (HC.out _).mono fun _ _ h => ⟨h.1, hw'.1.below h.2 hw'.1.lt, hw'.2.trans (h.2.mono hw'.2.size)⟩
    go_simp
    refine hKQ _ ?_
    clear hKQ KQ
    refine qs rfl (fun KQ hKQ => ?_)
    apply Exists.intro
    refine ⟨fun w' hw' => ?_, ?_⟩
    · go_simp; exact rfl
    go_simp
    refine hKQ _ ?_
    clear hKQ KQ
    refine qs rfl (fun KQ hKQ => ?_)
    apply Exists.intro
    refine ⟨fun w' hw' => ?_, ?_⟩
    · have c0 := hw'.1.cell HV0.out; go_simp; exact rfl
    go_simp
    refine hKQ _ ?_
    clear hKQ KQ
    refine qs rfl (fun KQ hKQ => ?_)
    apply Exists.intro
    refine ⟨fun w' hw' => ?_, ?_⟩
    · go_simp; exact (edge48 (N : Int) _ (by omega) (by omega)).mono fun _ _ h => ⟨h.1, h.2 ▸ hw'⟩
    go_simp
    refine hKQ _ ?_
    clear hKQ KQ
    refine qs rfl (fun KQ hKQ => ?_)
    apply Exists.intro
    refine ⟨fun w' hw' => ?_, ?_⟩
    · go_simp; exact rfl
    go_simp
    refine hKQ _ ?_
    clear hKQ KQ
    refine qs rfl (fun KQ hKQ => ?_)
    apply Exists.intro
    refine ⟨fun w' hw' => ?_, ?_⟩
    · go_simp; exact rfl
    go_simp
    refine hKQ _ ?_
    clear hKQ KQ
    refine wpQuiet_nil ?_
    intro w' hw'
    have G3 := hidd hw'
    clear hw'
    cases b with
    | true =>
      go_wp2_with fail
      go_ret
      exact ⟨by rw [H.out]; rfl, G3.out.2⟩
    | false =>
      go_wp2_with fail
      go_ret
      exact ⟨by rw [H.out]; rfl, G3.out.2⟩
def rsV (n : Int) (zs : List Int) : Int := if gmCode n zs = 0 then rsl n.toNat zs else 0
theorem rs_0 {n : Int} {zs : List Int} (h : gmCode n zs = 0) : rsV n zs = rsl n.toNat zs := if_pos h
theorem rs_no {n : Int} {zs : List Int} (h : ¬ gmCode n zs = 0) : rsV n zs = 0 := if_neg h
set_option maxRecDepth 100000 in
set_option maxHeartbeats 1000000 in
theorem spec16r (n : Int) (zs : List Int) (a : Option Addr) (cap : Nat) (w : World) (hs : SlI w a zs) (hl : zs.length ≤ 9223372036854775807) :
    Calls Try.prog 16 #[.int .i64 n, .slice a zs.length cap] w fun e w' => e = .returned (.tuple #[.int .i64 (rsV n zs), .int .i64 (gmCode n zs)]) ∧ Below w.heap.size w w' := by
  have HC := hidd (code31 n zs a cap w hs hl)
  by_cases h : gmCode n zs = 0
  · obtain ⟨N, rfl, hP⟩ := pos_of h
    have HM := hidd (result34 N zs a cap w hs hP.n1 hP.n5 hP.len hP.mov)
    rw [rs_0 h, h]
    rw [h] at HC
    clear h hP
    rw [Int.toNat_natCast]
    generalize rsl N zs = rr at *
    go_enter Try.func16, Try.ntmps16
    go_wp2_with fail
    refine HC.out.mono ?_
    rintro e w' ⟨rfl, rfl⟩
    go_wp2_with fail
    refine HM.out.mono ?_
    rintro e w2 ⟨rfl, hb2⟩
    have HB2 := hidd hb2
    clear hb2
    go_wp2_with fail
    go_ret2
    exact ⟨rfl, HB2.out⟩
  · rw [rs_no h]
    generalize gmCode n zs = c at *
    have hne : (c != 0) = true := by rw [bne_iff_ne]; exact h
    clear h
    go_enter Try.func16, Try.ntmps16
    go_wp2_with fail
    refine HC.out.mono ?_
    rintro e w' ⟨rfl, rfl⟩
    go_wp2_with fail
    go_ret2
    exact ⟨rfl, Below.refl _ _⟩
set_option maxRecDepth 100000 in
set_option maxHeartbeats 1000000 in
theorem impl17r (n : Int) (zs : List Int) (a : Option Addr) (cap : Nat) (w : World) (hs : SlI w a zs) (hl : zs.length ≤ 9223372036854775807) :
    Calls Try.prog 17 #[.int .i64 n, .slice a zs.length cap] w fun e w' => e = .returned (.tuple #[.int .i64 (rsV n zs), .int .i64 (gmCode n zs)]) ∧ Below w.heap.size w w' := by
  have HE := hidd (enter30 n zs a cap w hs hl)
  obtain ⟨V, hV, hVs, hV0, hV1, hV2⟩ := en_cells n zs
  rw [hV] at HE
  have HVS := hidd (And.intro hVs (And.intro hV0 hV1))
  have Hz := zero40
  by_cases h : gmCode n zs = 0
  · obtain ⟨N, rfl, hP⟩ := pos_of h
    have HM := hidd (fun w => result35 N zs hP w)
    have hVp := hV2 h
    rw [Int.toNat_natCast] at hVp
    rw [hVp] at HM
    rw [rs_0 h, h]
    rw [h] at HE
    rw [Int.toNat_natCast]
    generalize rsl N zs = m at *
    clear hV hVs hV0 hV1 hV2 hs h hP hVp
    go_enter Try.func17, Try.ntmps17
    go_wp2_with fail
    refine HE.out.mono ?_
    rintro e w1 ⟨rfl, hb1⟩
    have G3 := hidd (show Blk (w1.alloc (.cells (psC 0 0 0) 40)) w1.heap.size (psC 0 0 0) 40 from Blk.new _ _ _ _ rfl)
    have G4 := hidd (show Below w.heap.size w ((w1.alloc (.cells (psC 0 0 0) 40)).setRow w1.heap.size V) from below_setRow (hb1.alloc hb1.size _) hb1.size _)
    have G5 := hidd (G3.out.rowSame V)
    clear hb1
    go_wp2_with (first
      | (refine wpList_store_row rfl 40 (.tmp 6) (.tmp 12) rfl w1.heap.size V rfl rfl 40 _ G3.out HVS.out.1 HVS.out.2.1 HVS.out.2.2 ?_)
      | (refine wpList_load_row rfl 40 (.tmp 6) rfl w1.heap.size rfl 40 _ (0,0) _ G5.out Try.underlying40 rfl HVS.out.1 ?_))
    refine (HM.out _).mono ?_
    rintro e w2 ⟨rfl, hb2⟩
    have G6 := hidd (G4.out.trans (hb2.mono G4.out.size))
    clear hb2
    go_wp2_with fail
    go_ret2
    exact ⟨rfl, G6.out⟩
  · rw [rs_no h]
    generalize gmCode n zs = c at *
    have hne : (c != 0) = true := by rw [bne_iff_ne]; exact h
    clear hV hVs hV0 hV1 hV2 hs h
    go_enter Try.func17, Try.ntmps17
    go_wp2_with fail
    refine HE.out.mono ?_
    rintro e w1 ⟨rfl, hb1⟩
    have G3 := hidd (show Blk (w1.alloc (.cells (psC 0 0 0) 40)) w1.heap.size (psC 0 0 0) 40 from Blk.new _ _ _ _ rfl)
    have G4 := hidd (show Below w.heap.size w ((w1.alloc (.cells (psC 0 0 0) 40)).setRow w1.heap.size V) from below_setRow (hb1.alloc hb1.size _) hb1.size _)
    clear hb1
    go_wp2_with (refine wpList_store_row rfl 40 (.tmp 6) (.tmp 12) rfl w1.heap.size V rfl rfl 40 _ G3.out HVS.out.1 HVS.out.2.1 HVS.out.2.2 ?_)
    go_ret2
    exact ⟨rfl, G4.out⟩
end Go.Proofs.Yteclbaalejondaa
