/- UpLengths: the program. -/
import Derived.Test.YtmeihpakbhfipaaDoorRpt
import Derived.Test.YtmeihpakbhfipaaDoorUlq
namespace Go.Proofs.YtmeihpakbhfipaaDoor
set_option linter.unusedVariables false
set_option linter.unusedSimpArgs false
open Go Go.RowKit Go.Shelf
attribute [local go_sem] Oper.semAt_some
set_option maxRecDepth 100000 in
set_option maxHeartbeats 4000000 in
theorem lengths26 (N : Nat) (c : Int) (bs : List Nat) (g : Nat) (w : World) (N1 : 1 ≤ N) (N2 : N ≤ 17) (hS : StI w g (upR bs c N) N) :
    Calls Tryd.prog 26 #[.slice (some ⟨g, 0, none⟩) N N] w fun e w' => ∃ h, e = .returned (.slice (some ⟨h, 0, none⟩) N N) ∧ w.heap.size ≤ h ∧ Blk w' h (icells (fl N (ulV bs c))).toArray 2 ∧ Below w.heap.size w w' := by
  obtain ⟨W, hW⟩ : ∃ W, W = w.alloc (.cells #[.int .i64 1] 2) := ⟨_, rfl⟩
  have HW0 := hidd hW
  have HBW := hidd (show Below w.heap.size w W by rw [hW]; exact (Below.refl _ _).alloc (Nat.le_refl _) _)
  have HWS := hidd (show W.heap.size = w.heap.size + 1 by rw [hW]; simp)
  have HSW := hidd (show StI W g (upR bs c N) N from hS.below HBW.out)
  have HRP := hidd (repeat45 N N1 N2 w.heap.size 0 1 W (by rw [hW]; exact (Blk.new w #[.int .i64 1] 2 _ rfl).cell rfl))
  clear hS hW
  go_enter Tryd.func26, Tryd.ntmps26
  go_wp2_with fail
  rw [← HW0.out]
  refine HRP.out.mono ?_
  rintro e w1 ⟨rfl, hB1, hb1⟩
  have HR0 := hidd (show RelOo N (uS bs c 0) W w1 from ⟨by rw [← uS_zero]; exact hB1, hb1⟩)
  clear hB1 hb1
  go_wp2_with fail
  go_loopw [14] (fun e wr => ∃ p : Nat, p ≤ N ∧ e = .int .i64 (p : Int) ∧ RelOo N (uS bs c p) W wr) (fun e _ => N - (intOf e).toNat)
  case atStart => exact ⟨0, Nat.zero_le _, rfl, HR0.out⟩
  case round =>
    obtain ⟨p, hp, rfl, HR⟩ := hrel
    have HK := hidd HR
    clear HR
    by_cases hlt : p < N
    · obtain ⟨aa, caa, ca0, hsa⟩ := HSW.out.cells hlt
      have ca1 := (HK.out.2.cell (p := ⟨g, p, none⟩) (block_lt_of_cell ca0)).trans ca0
      have HSA := hidd hsa
      have hrl := upR_len bs c N p
      have hl17 : (upR bs c N p).length ≤ 17 := by omega
      have HS1 := hidd (show RelOo N (uT bs c N p 0) W wr from ⟨by rw [uT_start]; exact HK.out.1, HK.out.2⟩)
      clear ca0 hsa hrl
      go_wp2_with fail
      clear ca1
      go_loopw [21] (fun e wr => ∃ m : Nat, m ≤ (upR bs c N p).length ∧ e = .int .i64 (m : Int) ∧ RelOo N (uT bs c N p m) W wr) (fun e _ => (upR bs c N p).length - (intOf e).toNat)
      case atStart => exact ⟨0, Nat.zero_le _, rfl, HS1.out⟩
      case round =>
        obtain ⟨m, hm, rfl, HR⟩ := hrel
        have HK2 := hidd HR
        clear HR
        by_cases hml : m < (upR bs c N p).length
        · obtain ⟨q, hq, hpq, hqN, _⟩ := upR_get hml
          have HSTP := hidd (uT_step bs c hml hq hpq)
          rcases (HSA.out.below HK2.out.2 (Nat.le_refl _)) with hz | ⟨b2, off2, ha2, hc2⟩
          · rw [hz] at hml; simp at hml
          subst ha2
          have cm := hc2 m hml
          rw [hq] at cm
          have HCQ := hidd (fun wX (h : RelOo N (uT bs c N p m) W wX) => fl_cell h.1 hqN)
          have HCP := hidd (fun wX (h : RelOo N (uT bs c N p m) W wX) => fl_cell h.1 hlt)
          have hbq := uT_bd bs c N p m q
          have hbp := uT_bd bs c N p m p
          have HS2 := hidd (fun wX (h : RelOo N (uT bs c N p m) W wX) => h.store HSTP.out)
          have hz0 : ¬ (uT bs c N p m) = (uT bs c N p m) → False := fun h => h rfl
          clear hz0
          obtain ⟨x, hx⟩ : ∃ x, x = uT bs c N p m q := ⟨_, rfl⟩
          obtain ⟨y, hy⟩ : ∃ y, y = uT bs c N p m p := ⟨_, rfl⟩
          rw [← hx] at HCQ hbq HS2
          rw [← hy] at HCP hbp HS2
          have hwy : IntKind.i64.wrap (y + 1) = y + 1 := IntWalk.i64_in _ (by omega)
          clear hc2 hq hx hy
          go_wp2_with fail
          clear cm
          refine wp_region_last_lit 13 (fun w' => RelOo N (uT bs c N p m) W w') rfl rfl (by kernel_rfl) (HK2.out.drew) (by kernel_rfl) (by kernel_rfl) (by kernel_rfl) ?_
          simp only [List.take_succ_cons, List.take_zero, List.cons_append, List.nil_append, idle]
          refine qs rfl (fun KQ hKQ => ?_)
          apply Exists.intro
          refine ⟨fun w' hw' => ?_, ?_⟩
          · go_simp; exact rfl
          go_simp
          refine hKQ _ ?_
          clear hKQ KQ
          refine qs rfl (fun KQ hKQ => ?_)
          apply Exists.intro
          refine ⟨fun w' hw' => ?_, ?_⟩
          · go_simp; exact rfl
          go_simp
          refine hKQ _ ?_
          clear hKQ KQ
          refine qs rfl (fun KQ hKQ => ?_)
          apply Exists.intro
          refine ⟨fun w' hw' => ?_, ?_⟩
          · go_simp; exact rfl
          go_simp
          refine hKQ _ ?_
          clear hKQ KQ
          refine qs rfl (fun KQ hKQ => ?_)
          apply Exists.intro
          refine ⟨fun w' hw' => ?_, ?_⟩
          · go_simp; exact rfl
          go_simp
          refine hKQ _ ?_
          clear hKQ KQ
          refine qs rfl (fun KQ hKQ => ?_)
          apply Exists.intro
          refine ⟨fun w' hw' => ?_, ?_⟩
          · go_simp; exact rfl
          go_simp
          refine hKQ _ ?_
          clear hKQ KQ
          refine qs rfl (fun KQ hKQ => ?_)
          apply Exists.intro
          refine ⟨fun w' hw' => ?_, ?_⟩
          · have hc := HCQ.out w' hw'; go_simp; exact rfl
          go_simp
          refine hKQ _ ?_
          clear hKQ KQ
          refine qs rfl (fun KQ hKQ => ?_)
          apply Exists.intro
          refine ⟨fun w' hw' => ?_, ?_⟩
          · go_simp; exact rfl
          go_simp
          refine hKQ _ ?_
          clear hKQ KQ
          refine qs rfl (fun KQ hKQ => ?_)
          apply Exists.intro
          refine ⟨fun w' hw' => ?_, ?_⟩
          · go_simp; exact rfl
          go_simp
          refine hKQ _ ?_
          clear hKQ KQ
          refine qs rfl (fun KQ hKQ => ?_)
          apply Exists.intro
          refine ⟨fun w' hw' => ?_, ?_⟩
          · go_simp; exact rfl
          go_simp
          refine hKQ _ ?_
          clear hKQ KQ
          refine qs rfl (fun KQ hKQ => ?_)
          apply Exists.intro
          refine ⟨fun w' hw' => ?_, ?_⟩
          · have hc := HCP.out w' hw'; go_simp; exact rfl
          go_simp
          refine hKQ _ ?_
          clear hKQ KQ
          refine qs rfl (fun KQ hKQ => ?_)
          apply Exists.intro
          refine ⟨fun w' hw' => ?_, ?_⟩
          · go_simp; exact rfl
          go_simp
          refine hKQ _ ?_
          clear hKQ KQ
          refine qs rfl (fun KQ hKQ => ?_)
          apply Exists.intro
          refine ⟨fun w' hw' => ?_, ?_⟩
          · go_simp; exact rfl
          go_simp
          refine hKQ _ ?_
          clear hKQ KQ
          refine qs rfl (fun KQ hKQ => ?_)
          apply Exists.intro
          refine ⟨fun w' hw' => ?_, ?_⟩
          · go_simp; exact rfl
          go_simp
          refine hKQ _ ?_
          clear hKQ KQ
          refine qs rfl (fun KQ hKQ => ?_)
          apply Exists.intro
          refine ⟨fun w' hw' => ?_, ?_⟩
          · go_simp; exact rfl
          go_simp
          refine hKQ _ ?_
          clear hKQ KQ
          refine wpQuiet_nil ?_
          intro w' hw'
          have cE := HCQ.out w' hw'
          have fE := hw'.1.fro q
          have hs3 := HS2.out w' hw'
          rw [mx_if] at hs3
          have HS3 := hidd hs3
          clear hs3
          clear hw'
          go_wp2_with fail
          go_roundw
          case rel => exact ⟨m + 1, by omega, by go_num, HS3.out⟩
          case measure => simp [intOf]; omega
        · have HE2 := hidd (uT_end bs c (N := N) (P := p) (k := m) (by omega))
          have HS2 := hidd (show RelOo N (uS bs c (p + 1)) W wr from ⟨by rw [← HE2.out]; exact HK2.out.1, HK2.out.2⟩)
          go_wp2_with fail
          go_roundw
          case rel => exact ⟨p + 1, by omega, by go_num, HS2.out⟩
          case measure => simp [intOf]; omega
    · obtain rfl : p = N := by omega
      have HF := hidd (show Blk wr W.heap.size (icells (fl p (ulV bs c))).toArray 2 by rw [← uS_done]; exact HK.out.1)
      go_wp2_with fail
      go_ret
      exact ⟨W.heap.size, rfl, by have := HWS.out; omega, HF.out, HBW.out.trans (HK.out.2.mono HBW.out.size)⟩
set_option maxRecDepth 100000 in
theorem impl10 (n k : Int) (bs : List Nat) (hb : Bys bs) (c : Int) (w : World) (hT : Tz w) (h0 : 0 < w.heap.size) :
    Calls Tryd.prog 10 #[.agg (ccells n k bs).toArray, .int .i64 c] w (LOut w (ulL n k bs c) (given n k bs c [])) := by
  have HS := hidd (size_c26 n k hb)
  have HT := hidd (And.intro hT h0)
  have HA := hidd (show Below w.heap.size w (w.alloc (.cells (ccells n k bs).toArray 28)) from (Below.refl w.heap.size w).alloc (Nat.le_refl _) _)
  clear hT h0
  by_cases hg : given n k bs c [] = 0
  · obtain ⟨hi, hcb⟩ := given_cases hg
    obtain ⟨n1, n2, k1, k2⟩ := isCol_bd hi
    have hv : ulL n k bs c = fl n.toNat (ulV bs c) := if_pos hg
    rw [hv, hg]
    obtain ⟨N, rfl⟩ := Int.eq_ofNat_of_zero_le (show 0 ≤ n by omega)
    rw [Int.toNat_natCast]
    have HST := hidd (fun W hW hh => steps25 N k c bs hb W hg hW hh)
    have N2 : N ≤ 17 := by omega
    have N1 : 1 ≤ N := by omega
    clear hi hcb hg hv n1 n2
    go_enter Tryd.func10, Tryd.ntmps10
    go_wp2_with (refine wpList_load_row rfl 28 (.tmp 2) rfl w.heap.size rfl 28 _ (0,0) _ (Blk.new _ _ _ _ rfl) Tryd.underlying28 rfl HS.out ?_)
    refine (HST.out _ (HT.out.1.below HA.out HT.out.2) (by simp)).mono ?_
    rintro e w1 ⟨g, rfl, hgs, hst, hb1⟩
    have G1 := hidd (And.intro hst (HA.out.trans (hb1.mono (by simp))))
    clear hgs hst hb1
    go_wp2_with fail
    refine (lengths26 N c bs g _ N1 N2 G1.out.1).mono ?_
    rintro e w2 ⟨h, rfl, hh, hB, hb2⟩
    have G2 := hidd (And.intro hB (And.intro (Nat.le_trans G1.out.2.size hh) (G1.out.2.trans (hb2.mono G1.out.2.size))))
    clear hh hB hb2
    go_wp2_with fail
    go_ret2
    exact ⟨some ⟨h, 0, none⟩, N, by rw [fl_len]; rfl, own_blk G2.out.1 G2.out.2.1, G2.out.2.2⟩
  · have hv : ulL n k bs c = [] := if_neg hg
    rw [hv]
    have HST := hidd (fun W => steps25_e n k c bs hb W hg)
    generalize given n k bs c [] = cd at hg HST ⊢
    have hd : (cd != 0) = true := by rw [bne_iff_ne]; exact hg
    clear hg hv
    go_enter Tryd.func10, Tryd.ntmps10
    go_wp2_with (refine wpList_load_row rfl 28 (.tmp 2) rfl w.heap.size rfl 28 _ (0,0) _ (Blk.new _ _ _ _ rfl) Tryd.underlying28 rfl HS.out ?_)
    refine (HST.out _).mono ?_
    rintro e w1 ⟨rfl, hb1⟩
    have G1 := hidd (HA.out.trans (hb1.mono (by simp)))
    clear hb1
    go_wp2_with fail
    go_ret2
    exact lout_nil rfl G1.out
end Go.Proofs.YtmeihpakbhfipaaDoor
