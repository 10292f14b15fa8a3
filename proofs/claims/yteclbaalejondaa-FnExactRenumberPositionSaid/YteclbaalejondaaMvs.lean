/- MovesOf: the program and its model. -/
import Derived.Test.YteclbaalejondaaMth
import Derived.Test.YteclbaalejondaaOnly
namespace Go.Proofs.Yteclbaalejondaa
set_option linter.unusedVariables false
set_option linter.unusedSimpArgs false
open Go Go.RowKit Go.Shelf
theorem rsl_ge {N : Nat} {zs : List Int} (hm : mvr zs = 0 ∨ mvr zs = 1) : decide (0 ≤ rsl N zs) = (rsl N zs != -1) := by
  have h : rsl N zs = -1 ∨ 0 ≤ rsl N zs := by
    unfold rsl
    split
    · split
      · right; omega
      · left; rfl
    · right; omega
  rcases h with h | h
  · rw [h]; rfl
  · rw [decide_eq_true h]; symm; rw [bne_iff_ne]; omega
def mvsL (n : Int) (zs : List Int) : List Int := if gmCode n zs = 0 then mvL n.toNat zs (frB zs) else []
theorem mvs_0 {n : Int} {zs : List Int} (h : gmCode n zs = 0) : mvsL n zs = mvL n.toNat zs (frB zs) := if_pos h
theorem mvs_no {n : Int} {zs : List Int} (h : ¬ gmCode n zs = 0) : mvsL n zs = [] := if_neg h
theorem mvs_len {n : Int} {zs : List Int} : (mvsL n zs).length ≤ 1000 := by
  by_cases h : gmCode n zs = 0
  · obtain ⟨N, rfl, hP⟩ := pos_of h
    rw [mvs_0 h]
    have := mvL_len (N : Int).toNat zs (frB zs)
    have := hP.l10
    omega
  · rw [mvs_no h]; simp
set_option maxRecDepth 100000 in
set_option maxHeartbeats 1000000 in
theorem moves36 (N : Nat) (zs : List Int) (h : Pos N zs) (a : Option Addr) (cap : Nat) (w : World) (hs : SlI w a zs) :
    Calls Try.prog 36 #[.int .i64 (N : Int), .slice a zs.length cap] w (LOne w (mvL N zs (frB zs))) := by
  have HR := hidd (result34 N zs a cap w hs h.n1 h.n5 h.len h.mov)
  have HF := hidd (fun w hs => free56 zs a cap w hs h.l10)
  have HS := hidd hs
  have hge := rsl_ge (N := N) h.mov
  obtain ⟨b, hb⟩ : ∃ b, (rsl N zs != -1) = b := ⟨_, rfl⟩
  rw [hb] at hge
  cases b with
  | true =>
    rw [mvL_no hb]
    generalize rsl N zs = r at *
    clear h hs hb
    go_enter Try.func36, Try.ntmps36
    go_wp2_with fail
    refine HR.out.mono ?_
    rintro e w2 ⟨rfl, hb2⟩
    have G := hidd (hb2.alloc hb2.size (.cells #[] 2))
    clear hb2
    go_wp2_with fail
    go_ret
    exact ⟨_, 0, rfl, .inl rfl, G.out⟩
  | false =>
    rw [mvL_yes hb]
    generalize rsl N zs = r at *
    clear h hs hb
    go_enter Try.func36, Try.ntmps36
    go_wp2_with fail
    refine HR.out.mono ?_
    rintro e w2 ⟨rfl, hb2⟩
    have G := hidd hb2
    clear hb2
    go_wp2_with fail
    refine (HF.out _ (HS.out.below G.out (Nat.le_refl _))).mono ?_
    rintro e w3 ⟨a3, c3, rfl, ho, hb3⟩
    have G3 := hidd (And.intro ho (G.out.trans (hb3.mono G.out.size)))
    clear ho hb3
    go_wp2_with fail
    go_ret
    exact ⟨a3, c3, rfl, G3.out.1.bas G.out.size, G3.out.2⟩
set_option maxRecDepth 100000 in
set_option maxHeartbeats 1000000 in
theorem spec18v (n : Int) (zs : List Int) (a : Option Addr) (cap : Nat) (w : World) (hs : SlI w a zs) (hl : zs.length ≤ 9223372036854775807) :
    Calls Try.prog 18 #[.int .i64 n, .slice a zs.length cap] w (LOut w (mvsL n zs) (gmCode n zs)) := by
  have HC := hidd (code31 n zs a cap w hs hl)
  by_cases h : gmCode n zs = 0
  · obtain ⟨N, rfl, hP⟩ := pos_of h
    have HM := hidd (moves36 N zs hP a cap w hs)
    rw [mvs_0 h, h, Int.toNat_natCast]
    rw [h] at HC
    generalize mvL N zs (frB zs) = ms at *
    clear h hP hs
    go_enter Try.func18, Try.ntmps18
    go_wp2_with fail
    refine HC.out.mono ?_
    rintro e w' ⟨rfl, rfl⟩
    go_wp2_with fail
    refine HM.out.mono ?_
    rintro e w3 ⟨a3, c3, rfl, ho, hb3⟩
    have G3 := hidd (And.intro ho hb3)
    clear ho hb3
    go_wp2_with fail
    go_ret2
    exact ⟨a3, c3, rfl, G3.out.1, G3.out.2⟩
  · rw [mvs_no h]
    generalize gmCode n zs = c at *
    have hne : (c != 0) = true := by rw [bne_iff_ne]; exact h
    clear h hs
    go_enter Try.func18, Try.ntmps18
    go_wp2_with fail
    refine HC.out.mono ?_
    rintro e w' ⟨rfl, rfl⟩
    go_wp2_with fail
    go_ret2
    exact lout_nil rfl (Below.refl _ _)
set_option maxRecDepth 100000 in
set_option maxHeartbeats 1000000 in
theorem impl19v (n : Int) (zs : List Int) (a : Option Addr) (cap : Nat) (w : World) (hs : SlI w a zs) (hl : zs.length ≤ 9223372036854775807) :
    Calls Try.prog 19 #[.int .i64 n, .slice a zs.length cap] w (LOut w (mvsL n zs) (gmCode n zs)) := by
  have HE := hidd (enter30 n zs a cap w hs hl)
  obtain ⟨V, hV, hVs, hV0, hV1, hV2⟩ := en_cells n zs
  rw [hV] at HE
  have HVS := hidd (And.intro hVs (And.intro hV0 hV1))
  have Hz := zero40
  by_cases h : gmCode n zs = 0
  · obtain ⟨N, rfl, hP⟩ := pos_of h
    have HM := hidd (fun tb cap w hT => moves37 N zs hP tb cap w hT)
    have hVp := hV2 h
    rw [Int.toNat_natCast] at hVp
    rw [hVp] at HM
    rw [mvs_0 h, h, Int.toNat_natCast]
    rw [h] at HE
    generalize mvL N zs (frB zs) = ms at *
    clear hV hVs hV0 hV1 hV2 hs h hP hVp
    go_enter Try.func19, Try.ntmps19
    go_wp2_with fail
    refine HE.out.mono ?_
    rintro e w1 ⟨rfl, hb1⟩
    have G3 := hidd (show Blk (w1.alloc (.cells (psC 0 0 0) 40)) w1.heap.size (psC 0 0 0) 40 from Blk.new _ _ _ _ rfl)
    have G4 := hidd (show Below w.heap.size w ((w1.alloc (.cells (psC 0 0 0) 40)).setRow w1.heap.size V) from below_setRow (hb1.alloc hb1.size _) hb1.size _)
    have G5 := hidd (G3.out.rowSame V)
    have hs1 := hb1.size
    clear hb1
    go_wp2_with (first
      | (refine wpList_store_row rfl 40 (.tmp 6) (.tmp 12) rfl w1.heap.size V rfl rfl 40 _ G3.out HVS.out.1 HVS.out.2.1 HVS.out.2.2 ?_)
      | (refine wpList_load_row rfl 40 (.tmp 6) rfl w1.heap.size rfl 40 _ (0,0) _ G5.out Try.underlying40 rfl HVS.out.1 ?_))
    refine (HM.out _ _ _ (Blk.new _ _ _ _ (by simp))).mono ?_
    rintro e w3 ⟨a3, c3, rfl, ho, hb3⟩
    have G6 := hidd (And.intro (ho.bas (show w.heap.size ≤ _ by simp; omega)) ((G4.out.alloc (by simp; omega) (.cells tst1 47)).trans (hb3.mono (by simp; omega))))
    clear ho hb3
    go_wp2_with fail
    go_ret2
    exact ⟨a3, c3, rfl, G6.out.1, G6.out.2⟩
  · rw [mvs_no h]
    generalize gmCode n zs = c at *
    have hne : (c != 0) = true := by rw [bne_iff_ne]; exact h
    clear hV hVs hV0 hV1 hV2 hs h
    go_enter Try.func19, Try.ntmps19
    go_wp2_with fail
    refine HE.out.mono ?_
    rintro e w1 ⟨rfl, hb1⟩
    have G3 := hidd (show Blk (w1.alloc (.cells (psC 0 0 0) 40)) w1.heap.size (psC 0 0 0) 40 from Blk.new _ _ _ _ rfl)
    have G4 := hidd (show Below w.heap.size w ((w1.alloc (.cells (psC 0 0 0) 40)).setRow w1.heap.size V) from below_setRow (hb1.alloc hb1.size _) hb1.size _)
    clear hb1
    go_wp2_with (refine wpList_store_row rfl 40 (.tmp 6) (.tmp 12) rfl w1.heap.size V rfl rfl 40 _ G3.out HVS.out.1 HVS.out.2.1 HVS.out.2.2 ?_)
    go_ret2
    exact lout_nil rfl G4.out
end Go.Proofs.Yteclbaalejondaa
