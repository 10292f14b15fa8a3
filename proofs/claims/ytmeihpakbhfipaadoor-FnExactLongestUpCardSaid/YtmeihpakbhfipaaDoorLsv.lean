/- l10Longest: the model. -/
import Derived.Test.YtmeihpakbhfipaaDoorLsu
import Derived.Test.YtmeihpakbhfipaaDoorLgi
namespace Go.Proofs.YtmeihpakbhfipaaDoor
set_option linter.unusedVariables false
set_option linter.unusedSimpArgs false
open Go Go.RowKit Go.Shelf
attribute [local go_sem] Oper.semAt_some
/-- What is so of each point of the path, and of no point before it. -/
theorem pt_is (bs : List Nat) (c : Int) {N m : Nat} (hN : 1 ≤ N) (hm : (m : Int) < lnM bs c N) : ptV bs c N m < N ∧ lfV bs c N (ptV bs c N m) = lnM bs c N - m ∧
    (∀ k, m = k + 1 → ptV bs c N k < ptV bs c N m ∧ colAt bs (ptV bs c N k) (ptV bs c N m) = c) ∧
    (∀ q, q < ptV bs c N m → lfV bs c N q = lnM bs c N - m → m ≠ 0 ∧ ∀ k, m = k + 1 → ptV bs c N k < q → colAt bs (ptV bs c N k) q ≠ c) := by
  obtain ⟨h1, h2⟩ := pt_all bs c hN m hm
  refine ⟨h1, h2, ?_⟩
  cases m with
  | zero =>
    refine ⟨fun k h => by omega, fun q hq hv => ?_⟩
    have h := (pt_first bs c hN).2.2 q hq
    unfold ptP at h
    rw [if_pos rfl, Bool.true_and, decide_eq_false_iff_not] at h
    exact absurd hv h
  | succ k =>
    obtain ⟨g1, g2⟩ := pt_all bs c hN k (by omega)
    obtain ⟨e1, e2, e3⟩ := pt_next bs c hm g1 g2
    refine ⟨fun k' h => ?_, fun q hq hv => ⟨by omega, fun k' h hlt hc => ?_⟩⟩
    · obtain rfl : k' = k := by omega
      unfold ptP at e2
      rw [if_neg (by omega), Bool.and_eq_true] at e2
      have h := e2.1
      unfold upP at h
      rw [Bool.and_eq_true, decide_eq_true_iff, decide_eq_true_iff] at h
      exact h
    · obtain rfl : k' = k := by omega
      have h := e3 q hq
      unfold ptP at h
      rw [if_neg (by omega), show upP bs c (ptV bs c N k') q = true by unfold upP; simp [hlt, hc], Bool.true_and, decide_eq_false_iff_not] at h
      exact h hv
/-- The colouring, the lengths, the path as far as it is made. -/
def RelSp (C : Array Value) (N : Nat) (f : Nat → Int) (w : World) (B m : Nat) (zs : List Int) (v : Value) (wr : World) : Prop :=
  Blk wr w.heap.size C 28 ∧ Blk wr (w.heap.size + 1 + 1) (icells (fl N f)).toArray 2 ∧ wr.ownsRow B 2 1 v m (icells zs) ∧ zs.length = m ∧ Below w.heap.size w wr ∧ B ≤ wr.heap.size
section
variable {C : Array Value} {N : Nat} {f : Nat → Int} {w : World} {B m : Nat} {zs : List Int} {v : Value} {wr : World}
theorem RelSp.more {w2 : World} (h : RelSp C N f w B m zs v wr) (hb : Below wr.heap.size wr w2) : RelSp C N f w B m zs v w2 :=
  ⟨h.1.below hb h.1.lt, h.2.1.below hb h.2.1.lt, own_below h.2.2.1 hb (Nat.le_refl _), h.2.2.2.1, h.2.2.2.2.1.trans (hb.mono h.2.2.2.2.1.size), Nat.le_trans h.2.2.2.2.2 hb.size⟩
theorem RelSp.drew (h : RelSp C N f w B m zs v wr) : RelSp C N f w B m zs v wr.drew := h.more (Below.refl _ _).drew
theorem RelSp.step (h : RelSp C N f w B m zs v wr) (hB : w.heap.size + 1 + 1 < B) {y : Int} {o : Obj} {v' : Value} {w2 : World}
    (hown' : w2.ownsRow B 2 1 v' (m + 1) (icells zs ++ [.int .i64 y])) (hg : (wr.alloc o).grownBy w2 v.ownBlock) : RelSp C N f w B (m + 1) (zs ++ [y]) v' w2 := by
  have hBw := h.2.2.2.2.2
  have hb := grown_step h.2.2.1 hg hBw
  refine ⟨h.1.below hb (by omega), h.2.1.below hb (by omega), ?_, by rw [List.length_append, h.2.2.2.1]; rfl, h.2.2.2.2.1.trans (hb.mono (by omega)), Nat.le_trans hBw hb.size⟩
  rw [icells_app]; exact hown'
theorem RelSp.last (h : RelSp C N f w B m zs v wr) (hm : 0 < m) : ∃ b off cap, v = .slice (some ⟨b, off, none⟩) m cap ∧ wr.cell? ⟨b, off + (m - 1), none⟩ = some (.int .i64 (zs.getD (m - 1) 0)) := by
  have hl := h.2.2.2.1
  obtain ⟨a', cap', e, ho⟩ := own_list (zs := zs) (by rw [hl]; exact h.2.2.1)
  rcases ho.sl with hz | ⟨b, off, ha, hc⟩
  · subst hz; simp at hl; omega
  · subst ha
    exact ⟨b, off, cap', by rw [e, hl], hc (m - 1) (by omega)⟩
end
set_option maxRecDepth 100000 in
set_option maxHeartbeats 4000000 in
theorem longest31 (N : Nat) (k : Int) (bs : List Nat) (hb : Bys bs) (c : Int) (N1 : 1 ≤ N) (N2 : N ≤ 17) (w : World) :
    Calls Tryd.prog 31 #[.agg (ccells (N : Int) k bs).toArray, .int .i64 c] w fun e w' => ∃ a cap, e = .returned (.slice a (pathL bs c N (lnM bs c N).toNat).length cap) ∧ OwnL w' w.heap.size a (pathL bs c N (lnM bs c N).toNat) ∧ Below w.heap.size w w' := by
  have HS := hidd (size_c26 (N : Int) k hb)
  have HC0 := hidd (show (ccells (N : Int) k bs).toArray[0]? = some (.int .i64 (N : Int)) from rfl)
  have HAT := hidd (fun (i j : Nat) (hi : i < N) (hj : j < N) (hij : i ≠ j) W => at57 (N : Int) k bs hb (N : Int) (i : Int) (j : Int) W (by omega) (by omega) (by omega) (by omega) (by omega) (by omega))
  have HUP := hidd (fun W => ups48 N k bs hb c N1 N2 W)
  have HA := hidd (show RelKl (ccells (N : Int) k bs).toArray w (w.alloc (.cells (ccells (N : Int) k bs).toArray 28)) from ⟨Blk.new _ _ _ _ rfl, (Below.refl _ _).alloc (Nat.le_refl _) _⟩)
  obtain ⟨t0, hi2, hz0, hz1, hz3⟩ := info_parts info2
  have HIF := hidd (And.intro hi2 (And.intro hz0 (And.intro hz1 hz3)))
  obtain ⟨lb1, lb2⟩ := lnM_bd bs c N1
  have HPT := hidd (fun m hm => pt_is bs c (N := N) (m := m) N1 hm)
  obtain ⟨M, hM⟩ : ∃ M : Nat, (M : Int) = lnM bs c N := ⟨(lnM bs c N).toNat, by omega⟩
  have HMX := hidd (show mxL (lfV bs c N) N = (M : Int) from hM.symm)
  rw [← hM] at lb1 lb2 HPT ⊢
  clear hM hi2 hz0 hz1 hz3
  go_enter Tryd.func31, Tryd.ntmps31
  go_wp2_with (refine wpList_load_row rfl 28 (.tmp 2) rfl w.heap.size rfl 28 _ (0,0) _ HA.out.1 Tryd.underlying28 rfl HS.out ?_)
  refine (HUP.out _).mono ?_
  rintro e w1 ⟨rfl, hB1, hb1⟩
  have G1 := hidd (And.intro (HA.out.more hb1) (show Blk w1 (w.heap.size + 1 + 1) (icells (fl N (lfV bs c N))).toArray 2 by simpa using hB1))
  clear hB1 hb1
  go_wp2_with fail
  go_loop [6, 7] (fun m i => ∃ j : Nat, j ≤ N ∧ i = .int .i64 (j : Int) ∧ m = .int .i64 (mxL (lfV bs c N) j)) (fun _ i => N - (intOf i).toNat)
  case atStart => exact ⟨0, Nat.zero_le _, rfl, rfl⟩
  case round =>
    obtain ⟨j, hj, rfl, rfl⟩ := hrel
    by_cases hlt : j < N
    · have hcj := fl_cell G1.out.2 hlt
      have HST := hidd (show mxL (lfV bs c N) (j + 1) = max (mxL (lfV bs c N) j) (lfV bs c N j) from rfl)
      obtain ⟨z, hz⟩ : ∃ z, z = lfV bs c N j := ⟨_, rfl⟩
      obtain ⟨y, hy⟩ : ∃ y, y = mxL (lfV bs c N) j := ⟨_, rfl⟩
      rw [← hz] at hcj HST
      rw [← hy] at HST ⊢
      clear hz hy
      go_wp2_with fail
      go_round
      case rel => exact ⟨j + 1, by omega, by go_num, by congr 1; rw [HST.out]; split <;> omega⟩
      case measure => simp [intOf]; omega
    · obtain rfl : j = N := by omega
      rw [HMX.out]
      have hul := G1.out.2.lt
      have HR0 := hidd (show RelSp (ccells (j : Int) k bs).toArray j (lfV bs c j) w w1.heap.size 0 (pathL bs c j 0) (.slice (some ⟨w1.heap.size, 0, none⟩) 0 0) (w1.alloc (.cells #[] 2)) from
        ⟨G1.out.1.1.alloc _, G1.out.2.alloc _, empty_at w1 (Nat.le_refl _), rfl, G1.out.1.2.alloc (by have := G1.out.1.2.size; omega) _, by simp⟩)
      go_wp2_with fail
      go_loopw [6, 8, 9] (fun nd v q wr => ∃ m q' : Nat, q' ≤ j ∧ q = .int .i64 (q' : Int) ∧ nd = .int .i64 ((M : Int) - m) ∧ m ≤ M ∧ (m < M → q' ≤ ptV bs c j m) ∧ (∀ k, m = k + 1 → ptV bs c j k < q') ∧ Hid (RelSp (ccells (j : Int) k bs).toArray j (lfV bs c j) w w1.heap.size m (pathL bs c j m) v wr)) (fun _ _ q _ => j - (intOf q).toNat)
      case atStart => exact ⟨0, 0, Nat.zero_le _, rfl, by simp, Nat.zero_le _, fun _ => Nat.zero_le _, fun k h => by omega, HR0⟩
      case round =>
        obtain ⟨m, q, hq, rfl, rfl, hm, hq1, hq2, HR⟩ := hrel
        have c0 := HR.out.1.cell HC0.out
        by_cases hrun : q < j ∧ m < M
        · obtain ⟨hqj, hmM⟩ := hrun
          have hsl := HR.out.2.2.2.1
          obtain ⟨al, capl, hv, ho⟩ := own_list (zs := pathL bs c j m) (by rw [hsl]; exact HR.out.2.2.1)
          rw [hsl] at hv
          subst hv
          clear ho hsl
          have HCQ := hidd (fun wX (h : RelSp (ccells (j : Int) k bs).toArray j (lfV bs c j) w w1.heap.size m (pathL bs c j m) (.slice al m capl) wX) => fl_cell h.2.1 hqj)
          obtain ⟨p1, p2, p3, p4⟩ := HPT.out m (by omega)
          have HP3 := hidd p3
          have HP4 := hidd (p4 q)
          have hqle := hq1 hmM
          have HP2 := hidd p2
          have hgt : decide ((M : Int) - (m : Int) > 0) = true := by simp; omega
          have hqI : (q : Int) < (j : Int) := by omega
          clear p2 p3 p4
          by_cases hz : lfV bs c j q = M - m
          · have hez : (lfV bs c j q == (M : Int) - (m : Int)) = true := by simpa using hz
            have HZ := hidd hz
            obtain ⟨z, hzz⟩ : ∃ z, z = lfV bs c j q := ⟨_, rfl⟩
            rw [← hzz] at HCQ hez
            clear hz hzz
            cases m with
            | zero =>
              have HQP := hidd (show ptV bs c j 0 = q by
                by_cases h : q < ptV bs c j 0
                · exact absurd rfl (HP4.out h HZ.out).1
                · omega)
              have hez0 : (z == (M : Int)) = true := by simpa using hez
              go_wp2_with fail
              refine wp_region_quiet_at (fun w' => RelSp (ccells (j : Int) k bs).toArray j (lfV bs c j) w w1.heap.size 0 (pathL bs c j 0) (.slice al 0 capl) w') rfl (by kernel_rfl) (HR.out.drew) ?_
              refine qs rfl (fun KQ hKQ => ?_)
              apply Exists.intro
              refine ⟨fun w' hw' => ?_, ?_⟩
              · go_simp; exact rfl
              go_simp
              refine hKQ _ ?_
              clear hKQ KQ
              refine qs rfl (fun KQ hKQ => ?_)
              apply Exists.intro
              refine ⟨fun w' hw' => ?_, ?_⟩
              · go_simp; exact rfl
              go_simp
              refine hKQ _ ?_
              clear hKQ KQ
              refine qs rfl (fun KQ hKQ => ?_)
              apply Exists.intro
              refine ⟨fun w' hw' => ?_, ?_⟩
              · go_simp; exact rfl
              go_simp
              refine hKQ _ ?_
              clear hKQ KQ
              refine qs rfl (fun KQ hKQ => ?_)
              apply Exists.intro
              refine ⟨fun w' hw' => ?_, ?_⟩
              · have hc := HCQ.out w' hw'; go_simp; exact rfl
              go_simp
              refine hKQ _ ?_
              clear hKQ KQ
              refine qs rfl (fun KQ hKQ => ?_)
              apply Exists.intro
              refine ⟨fun w' hw' => ?_, ?_⟩
              · go_simp; exact rfl
              go_simp
              refine hKQ _ ?_
              clear hKQ KQ
              refine qs rfl (fun KQ hKQ => ?_)
              apply Exists.intro
              refine ⟨fun w' hw' => ?_, ?_⟩
              · go_simp; exact rfl
              go_simp
              refine hKQ _ ?_
              clear hKQ KQ
              refine qs rfl (fun KQ hKQ => ?_)
              apply Exists.intro
              refine ⟨fun w' hw' => ?_, ?_⟩
              · go_simp; exact rfl
              go_simp
              refine hKQ _ ?_
              clear hKQ KQ
              go_big_quiet_want
              rename_i KQ hKQ
              apply Exists.intro
              refine ⟨fun w' hw' => ?_, ?_⟩
              · go_simp; exact rfl
              go_simp
              refine hKQ _ ?_
              clear hKQ KQ
              go_big_quiet_want
              rename_i KQ hKQ
              apply Exists.intro
              refine ⟨fun w' hw' => ?_, ?_⟩
              · go_simp; exact rfl
              go_simp
              refine hKQ _ ?_
              clear hKQ KQ
              go_big_quiet_want
              rename_i KQ hKQ
              apply Exists.intro
              refine ⟨fun w' hw' => ?_, ?_⟩
              · go_simp; exact rfl
              go_simp
              refine hKQ _ ?_
              clear hKQ KQ
              go_big_quiet_want
              rename_i KQ hKQ
              apply Exists.intro
              refine ⟨fun w' hw' => ?_, ?_⟩
              · go_simp; exact rfl
              go_simp
              refine hKQ _ ?_
              clear hKQ KQ
              go_big_quiet_skip
              go_big_quiet_skip
              go_big_quiet_skip
              go_big_quiet_skip
              go_big_quiet_skip
              go_big_quiet_skip
              go_big_quiet_skip
              go_big_quiet_skip
              go_big_quiet_skip
              go_big_quiet_skip
              go_big_quiet_skip
              go_big_quiet_want
              rename_i KQ hKQ
              apply Exists.intro
              refine ⟨fun w' hw' => ?_, ?_⟩
              · go_simp; exact rfl
              go_simp
              refine hKQ _ ?_
              clear hKQ KQ
              refine qs rfl (fun KQ hKQ => ?_)
              apply Exists.intro
              refine ⟨fun w' hw' => ?_, ?_⟩
              · go_simp; exact rfl
              go_simp
              refine hKQ _ ?_
              clear hKQ KQ
              refine wpQuiet_nil ?_
              intro w' hw'
              have HW := hidd hw'
              have hown := hw'.2.2.1
              have hwB : w1.heap.size ≤ w'.heap.size := hw'.2.2.2.2.2
              clear hw'
              go_wp2_with (at_builtin; refine wpList_append_own _ rfl _ _ 25 rfl w1.heap.size 2 t0 (.int .i64 0) 1 8 Tryd.underlying25 HIF.out.1 HIF.out.2.1 HIF.out.2.2.1 HIF.out.2.2.2 rfl (by decide) _ _ _ rfl (hown.alloc _) ⟨w'.heap.size, 0, none⟩ 1 1 [.int .i64 (q : Int)] rfl rfl ?c1 ?c2 ?c3 ?c4 ?c5 ?_)
              case c1 => exact one_new _ _ _
              case c2 => intro u hu; simp at hu; subst hu; rfl
              case c3 => unfold maxLen; omega
              case c4 => omega
              case c5 => simp; omega
              intro v' w3 hown' hgrow _
              have K3 := hidd (HW.out.step hul hown' hgrow)
              rw [← HQP.out, ← pathL_snoc] at K3
              clear hown' hgrow hown hwB
              have hwM : IntKind.i64.wrap ((M : Int) - (0 : Nat) - 1) = (M : Int) - (0 : Nat) - 1 := IntWalk.i64_in _ (by omega)
              go_wp2_with fail
              go_roundw
              case rel => exact ⟨0 + 1, q + 1, by omega, by go_num, by congr 1, by omega, fun h => by
                have h1 := (HPT.out (0 + 1) (by omega)).2.2.1 0 rfl
                have h2 := HQP.out
                omega, fun k' h => by
                have h2 := HQP.out
                obtain rfl : k' = 0 := by omega
                omega, K3.out⟩
              case measure => simp [intOf]; omega
            | succ k' =>
              have hqk := hq2 k' rfl
              have hkj : ptV bs c j k' < j := by omega
              have A1 := hidd (HAT.out (ptV bs c j k') q hkj hqj (by omega))
              obtain ⟨b, off, cap', e, _⟩ := HR.out.last (by omega)
              cases e
              have HLA := hidd (fun wX (h : RelSp (ccells (j : Int) k bs).toArray j (lfV bs c j) w w1.heap.size (k' + 1) (pathL bs c j (k' + 1)) (.slice (some ⟨b, off, none⟩) (k' + 1) capl) wX) => (show wX.cell? ⟨b, off + k', none⟩ = some (.int .i64 (ptV bs c j k' : Int)) by
                obtain ⟨b2, off2, cap2, e2, hc2⟩ := h.last (by omega)
                cases e2
                rw [show k' + 1 - 1 = k' by omega] at hc2
                rw [hc2]
                unfold pathL
                rw [fl_get _ (by omega)]))
              obtain ⟨P, hP⟩ : ∃ P : Nat, P = ptV bs c j k' := ⟨_, rfl⟩
              have HPK := hidd hP
              rw [← hP] at hqk hkj A1 HLA
              have hez1 : (z == (M : Int) - ((k' : Int) + 1)) = true := by rw [← hez, show (((k' + 1 : Nat) : Int)) = (k' : Int) + 1 by omega]
              have hl0 : ((((k' + 1 : Nat) : Int)) == 0) = false := by rw [beq_eq_false_iff_ne]; omega
              have hl1 : (((k' : Int) + 1) == 0) = false := by rw [beq_eq_false_iff_ne]; omega
              have hwk : IntKind.i64.wrap (((k' + 1 : Nat) : Int) - 1) = (k' : Int) := by rw [show (((k' + 1 : Nat) : Int) - 1) = (k' : Int) by omega]; exact IntWalk.i64_in _ (by omega)
              have hk0 : (0 : Int) ≤ (k' : Int) := by omega
              have hwk2 : IntKind.i64.wrap (k' : Int) = (k' : Int) := IntWalk.i64_in _ (by omega)
              have hk2 : (k' : Int) < (k' : Int) + 1 := by omega
              have hk1 : (k' : Int) < ((k' + 1 : Nat) : Int) := by omega
              clear hP
              by_cases hx : colAt bs (P : Int) (q : Int) = c
              · have HQP := hidd (show ptV bs c j (k' + 1) = q by
                  by_cases h : q < ptV bs c j (k' + 1)
                  · exact absurd hx (by rw [HPK.out]; exact (HP4.out h HZ.out).2 k' rfl (by rw [← HPK.out]; exact hqk))
                  · omega)
                have ex : (colAt bs (P : Int) (q : Int) == c) = true := by simpa using hx
                generalize colAt bs (P : Int) (q : Int) = x at A1 ex hx
                clear hx HPK
                go_wp2_with fail
                refine wp_region_quiet_at (fun w' => RelSp (ccells (j : Int) k bs).toArray j (lfV bs c j) w w1.heap.size (k' + 1) (pathL bs c j (k' + 1)) (.slice (some ⟨b, off, none⟩) (k' + 1) capl) w') rfl (by kernel_rfl) (HR.out.drew) ?_
                refine qs rfl (fun KQ hKQ => ?_)
                apply Exists.intro
                refine ⟨fun w' hw' => ?_, ?_⟩
                · go_simp; exact rfl
                go_simp
                refine hKQ _ ?_
                clear hKQ KQ
                refine qs rfl (fun KQ hKQ => ?_)
                apply Exists.intro
                refine ⟨fun w' hw' => ?_, ?_⟩
                · go_simp; exact rfl
                go_simp
                refine hKQ _ ?_
                clear hKQ KQ
                refine qs rfl (fun KQ hKQ => ?_)
                apply Exists.intro
                refine ⟨fun w' hw' => ?_, ?_⟩
                · go_simp; exact rfl
                go_simp
                refine hKQ _ ?_
                clear hKQ KQ
                refine qs rfl (fun KQ hKQ => ?_)
                apply Exists.intro
                refine ⟨fun w' hw' => ?_, ?_⟩
                · have hc := HCQ.out w' hw'; go_simp; exact rfl
                go_simp
                refine hKQ _ ?_
                clear hKQ KQ
                refine qs rfl (fun KQ hKQ => ?_)
                apply Exists.intro
                refine ⟨fun w' hw' => ?_, ?_⟩
                · go_simp; exact rfl
                go_simp
                refine hKQ _ ?_
                clear hKQ KQ
                refine qs rfl (fun KQ hKQ => ?_)
                apply Exists.intro
                refine ⟨fun w' hw' => ?_, ?_⟩
                · go_simp; exact rfl
                go_simp
                refine hKQ _ ?_
                clear hKQ KQ
                refine qs rfl (fun KQ hKQ => ?_)
                apply Exists.intro
                refine ⟨fun w' hw' => ?_, ?_⟩
                · go_simp; exact rfl
                go_simp
                refine hKQ _ ?_
                clear hKQ KQ
                go_big_quiet_want
                rename_i KQ hKQ
                apply Exists.intro
                refine ⟨fun w' hw' => ?_, ?_⟩
                · go_simp; exact rfl
                go_simp
                refine hKQ _ ?_
                clear hKQ KQ
                go_big_quiet_want
                rename_i KQ hKQ
                apply Exists.intro
                refine ⟨fun w' hw' => ?_, ?_⟩
                · go_simp; exact rfl
                go_simp
                refine hKQ _ ?_
                clear hKQ KQ
                go_big_quiet_want
                rename_i KQ hKQ
                apply Exists.intro
                refine ⟨fun w' hw' => ?_, ?_⟩
                · go_simp; exact rfl
                go_simp
                refine hKQ _ ?_
                clear hKQ KQ
                go_big_quiet_want
                rename_i KQ hKQ
                apply Exists.intro
                refine ⟨fun w' hw' => ?_, ?_⟩
                · go_simp; exact rfl
                go_simp
                refine hKQ _ ?_
                clear hKQ KQ
                go_big_quiet_want
                rename_i KQ hKQ
                apply Exists.intro
                refine ⟨fun w' hw' => ?_, ?_⟩
                · exact quietRow 28 (.tmp 2) rfl w.heap.size rfl 28 _ _ hw'.1 Tryd.underlying28 rfl HS.out
                go_simp
                refine hKQ _ ?_
                clear hKQ KQ
                go_big_quiet_want
                rename_i KQ hKQ
                apply Exists.intro
                refine ⟨fun w' hw' => ?_, ?_⟩
                · go_simp; exact rfl
                go_simp
                refine hKQ _ ?_
                clear hKQ KQ
                go_big_quiet_want
                rename_i KQ hKQ
                apply Exists.intro
                refine ⟨fun w' hw' => ?_, ?_⟩
                · go_simp; exact rfl
                go_simp
                refine hKQ _ ?_
                clear hKQ KQ
                go_big_quiet_want
                rename_i KQ hKQ
                apply Exists.intro
                refine ⟨fun w' hw' => ?_, ?_⟩
                · go_simp; exact rfl
                go_simp
                refine hKQ _ ?_
                clear hKQ KQ
                go_big_quiet_want
                rename_i KQ hKQ
                apply Exists.intro
                refine ⟨fun w' hw' => ?_, ?_⟩
                · go_simp; exact rfl
                go_simp
                refine hKQ _ ?_
                clear hKQ KQ
                go_big_quiet_want
                rename_i KQ hKQ
                apply Exists.intro
                refine ⟨fun w' hw' => ?_, ?_⟩
                · go_simp; exact rfl
                go_simp
                refine hKQ _ ?_
                clear hKQ KQ
                go_big_quiet_want
                rename_i KQ hKQ
                apply Exists.intro
                refine ⟨fun w' hw' => ?_, ?_⟩
                · have hc := HLA.out w' hw'; go_simp; exact rfl
                go_simp
                refine hKQ _ ?_
                clear hKQ KQ
                go_big_quiet_want
                rename_i KQ hKQ
                apply Exists.intro
                refine ⟨fun w' hw' => ?_, ?_⟩
                · go_simp; exact rfl
                go_simp
                refine hKQ _ ?_
                clear hKQ KQ
                go_big_quiet_want
                rename_i KQ hKQ
                apply Exists.intro
                refine ⟨fun w' hw' => ?_, ?_⟩
                · go_simp; exact (A1.out _).mono fun _ _ h => ⟨h.1, hw'.more h.2⟩
                go_simp
                refine hKQ _ ?_
                clear hKQ KQ
                go_big_quiet_want
                rename_i KQ hKQ
                apply Exists.intro
                refine ⟨fun w' hw' => ?_, ?_⟩
                · go_simp; exact rfl
                go_simp
                refine hKQ _ ?_
                clear hKQ KQ
                go_big_quiet_want
                rename_i KQ hKQ
                apply Exists.intro
                refine ⟨fun w' hw' => ?_, ?_⟩
                · go_simp; exact rfl
                go_simp
                refine hKQ _ ?_
                clear hKQ KQ
                go_big_quiet_want
                rename_i KQ hKQ
                apply Exists.intro
                refine ⟨fun w' hw' => ?_, ?_⟩
                · go_simp; exact rfl
                go_simp
                refine hKQ _ ?_
                clear hKQ KQ
                refine qs rfl (fun KQ hKQ => ?_)
                apply Exists.intro
                refine ⟨fun w' hw' => ?_, ?_⟩
                · go_simp; exact rfl
                go_simp
                refine hKQ _ ?_
                clear hKQ KQ
                refine wpQuiet_nil ?_
                intro w' hw'
                have HW := hidd hw'
                have hown := hw'.2.2.1
                have hwB : w1.heap.size ≤ w'.heap.size := hw'.2.2.2.2.2
                clear hw'
                go_wp2_with (at_builtin; refine wpList_append_own _ rfl _ _ 25 rfl w1.heap.size 2 t0 (.int .i64 0) 1 8 Tryd.underlying25 HIF.out.1 HIF.out.2.1 HIF.out.2.2.1 HIF.out.2.2.2 rfl (by decide) _ _ _ rfl (hown.alloc _) ⟨w'.heap.size, 0, none⟩ 1 1 [.int .i64 (q : Int)] rfl rfl ?c1 ?c2 ?c3 ?c4 ?c5 ?_)
                case c1 => exact one_new _ _ _
                case c2 => intro u hu; simp at hu; subst hu; rfl
                case c3 => unfold maxLen; omega
                case c4 => omega
                case c5 => simp; omega
                intro v' w3 hown' hgrow _
                have K3 := hidd (HW.out.step hul hown' hgrow)
                rw [← HQP.out, ← pathL_snoc] at K3
                clear hown' hgrow hown hwB
                have hwM : IntKind.i64.wrap ((M : Int) - (k' + 1 : Nat) - 1) = (M : Int) - (k' + 1 : Nat) - 1 := IntWalk.i64_in _ (by omega)
                go_wp2_with fail
                go_roundw
                case rel => exact ⟨k' + 1 + 1, q + 1, by omega, by go_num, by congr 1; omega, by omega, fun h => by
                  have h1 := (HPT.out (k' + 1 + 1) (by omega)).2.2.1 (k' + 1) rfl
                  have h2 := HQP.out
                  omega, fun kk h => by
                  have h2 := HQP.out
                  obtain rfl : kk = k' + 1 := by omega
                  omega, K3.out⟩
                case measure => simp [intOf]; omega
              · have HNQ := hidd (show q + 1 ≤ ptV bs c j (k' + 1) by
                  by_cases h : q = ptV bs c j (k' + 1)
                  · exact absurd (by rw [h, HPK.out]; exact (HP3.out k' rfl).2) hx
                  · omega)
                have ex : (colAt bs (P : Int) (q : Int) == c) = false := by rw [beq_eq_false_iff_ne]; exact hx
                generalize colAt bs (P : Int) (q : Int) = x at A1 ex hx
                clear hx HPK
                go_wp2_with fail
                refine wp_region_quiet_at (fun w' => RelSp (ccells (j : Int) k bs).toArray j (lfV bs c j) w w1.heap.size (k' + 1) (pathL bs c j (k' + 1)) (.slice (some ⟨b, off, none⟩) (k' + 1) capl) w') rfl (by kernel_rfl) (HR.out.drew) ?_
                refine qs rfl (fun KQ hKQ => ?_)
                apply Exists.intro
                refine ⟨fun w' hw' => ?_, ?_⟩
                · go_simp; exact rfl
                go_simp
                refine hKQ _ ?_
                clear hKQ KQ
                refine qs rfl (fun KQ hKQ => ?_)
                apply Exists.intro
                refine ⟨fun w' hw' => ?_, ?_⟩
                · go_simp; exact rfl
                go_simp
                refine hKQ _ ?_
                clear hKQ KQ
                refine qs rfl (fun KQ hKQ => ?_)
                apply Exists.intro
                refine ⟨fun w' hw' => ?_, ?_⟩
                · go_simp; exact rfl
                go_simp
                refine hKQ _ ?_
                clear hKQ KQ
                refine qs rfl (fun KQ hKQ => ?_)
                apply Exists.intro
                refine ⟨fun w' hw' => ?_, ?_⟩
                · have hc := HCQ.out w' hw'; go_simp; exact rfl
                go_simp
                refine hKQ _ ?_
                clear hKQ KQ
                refine qs rfl (fun KQ hKQ => ?_)
                apply Exists.intro
                refine ⟨fun w' hw' => ?_, ?_⟩
                · go_simp; exact rfl
                go_simp
                refine hKQ _ ?_
                clear hKQ KQ
                refine qs rfl (fun KQ hKQ => ?_)
                apply Exists.intro
                refine ⟨fun w' hw' => ?_, ?_⟩
                · go_simp; exact rfl
                go_simp
                refine hKQ _ ?_
                clear hKQ KQ
                refine qs rfl (fun KQ hKQ => ?_)
                apply Exists.intro
                refine ⟨fun w' hw' => ?_, ?_⟩
                · go_simp; exact rfl
                go_simp
                refine hKQ _ ?_
                clear hKQ KQ
                go_big_quiet_want
                rename_i KQ hKQ
                apply Exists.intro
                refine ⟨fun w' hw' => ?_, ?_⟩
                · go_simp; exact rfl
                go_simp
                refine hKQ _ ?_
                clear hKQ KQ
                go_big_quiet_want
                rename_i KQ hKQ
                apply Exists.intro
                refine ⟨fun w' hw' => ?_, ?_⟩
                · go_simp; exact rfl
                go_simp
                refine hKQ _ ?_
                clear hKQ KQ
                go_big_quiet_want
                rename_i KQ hKQ
                apply Exists.intro
                refine ⟨fun w' hw' => ?_, ?_⟩
                · go_simp; exact rfl
                go_simp
                refine hKQ _ ?_
                clear hKQ KQ
                go_big_quiet_want
                rename_i KQ hKQ
                apply Exists.intro
                refine ⟨fun w' hw' => ?_, ?_⟩
                · go_simp; exact rfl
                go_simp
                refine hKQ _ ?_
                clear hKQ KQ
                go_big_quiet_want
                rename_i KQ hKQ
                apply Exists.intro
                refine ⟨fun w' hw' => ?_, ?_⟩
                · exact quietRow 28 (.tmp 2) rfl w.heap.size rfl 28 _ _ hw'.1 Tryd.underlying28 rfl HS.out
                go_simp
                refine hKQ _ ?_
                clear hKQ KQ
                go_big_quiet_want
                rename_i KQ hKQ
                apply Exists.intro
                refine ⟨fun w' hw' => ?_, ?_⟩
                · go_simp; exact rfl
                go_simp
                refine hKQ _ ?_
                clear hKQ KQ
                go_big_quiet_want
                rename_i KQ hKQ
                apply Exists.intro
                refine ⟨fun w' hw' => ?_, ?_⟩
                · go_simp; exact rfl
                go_simp
                refine hKQ _ ?_
                clear hKQ KQ
                go_big_quiet_want
                rename_i KQ hKQ
                apply Exists.intro
                refine ⟨fun w' hw' => ?_, ?_⟩
                · go_simp; exact rfl
                go_simp
                refine hKQ _ ?_
                clear hKQ KQ
                go_big_quiet_want
                rename_i KQ hKQ
                apply Exists.intro
                refine ⟨fun w' hw' => ?_, ?_⟩
                · go_simp; exact rfl
                go_simp
                refine hKQ _ ?_
                clear hKQ KQ
                go_big_quiet_want
                rename_i KQ hKQ
                apply Exists.intro
                refine ⟨fun w' hw' => ?_, ?_⟩
                · go_simp; exact rfl
                go_simp
                refine hKQ _ ?_
                clear hKQ KQ
                go_big_quiet_want
                rename_i KQ hKQ
                apply Exists.intro
                refine ⟨fun w' hw' => ?_, ?_⟩
                · have hc := HLA.out w' hw'; go_simp; exact rfl
                go_simp
                refine hKQ _ ?_
                clear hKQ KQ
                go_big_quiet_want
                rename_i KQ hKQ
                apply Exists.intro
                refine ⟨fun w' hw' => ?_, ?_⟩
                · go_simp; exact rfl
                go_simp
                refine hKQ _ ?_
                clear hKQ KQ
                go_big_quiet_want
                rename_i KQ hKQ
                apply Exists.intro
                refine ⟨fun w' hw' => ?_, ?_⟩
                · go_simp; exact (A1.out _).mono fun _ _ h => ⟨h.1, hw'.more h.2⟩
                go_simp
                refine hKQ _ ?_
                clear hKQ KQ
                go_big_quiet_want
                rename_i KQ hKQ
                apply Exists.intro
                refine ⟨fun w' hw' => ?_, ?_⟩
                · go_simp; exact rfl
                go_simp
                refine hKQ _ ?_
                clear hKQ KQ
                go_big_quiet_want
                rename_i KQ hKQ
                apply Exists.intro
                refine ⟨fun w' hw' => ?_, ?_⟩
                · go_simp; exact rfl
                go_simp
                refine hKQ _ ?_
                clear hKQ KQ
                go_big_quiet_want
                rename_i KQ hKQ
                apply Exists.intro
                refine ⟨fun w' hw' => ?_, ?_⟩
                · go_simp; exact rfl
                go_simp
                refine hKQ _ ?_
                clear hKQ KQ
                refine qs rfl (fun KQ hKQ => ?_)
                apply Exists.intro
                refine ⟨fun w' hw' => ?_, ?_⟩
                · go_simp; exact rfl
                go_simp
                refine hKQ _ ?_
                clear hKQ KQ
                refine wpQuiet_nil ?_
                intro w' hw'
                have HW := hidd hw'
                clear hw'
                go_wp2_with fail
                go_roundw
                case rel => exact ⟨k' + 1, q + 1, by omega, by go_num, rfl, hm, fun h => HNQ.out, fun kk h => by have := hq2 kk h; omega, HW.out⟩
                case measure => simp [intOf]; omega
          · have hez : (lfV bs c j q == (M : Int) - (m : Int)) = false := by rw [beq_eq_false_iff_ne]; exact hz
            have HNQ := hidd (show q + 1 ≤ ptV bs c j m by
              by_cases h : q = ptV bs c j m
              · exact absurd (by rw [h]; exact HP2.out) hz
              · omega)
            obtain ⟨z, hzz⟩ : ∃ z, z = lfV bs c j q := ⟨_, rfl⟩
            rw [← hzz] at HCQ hez
            clear hz hzz
            go_wp2_with fail
            refine wp_region_quiet_at (fun w' => RelSp (ccells (j : Int) k bs).toArray j (lfV bs c j) w w1.heap.size m (pathL bs c j m) (.slice al m capl) w') rfl (by kernel_rfl) (HR.out.drew) ?_
            refine qs rfl (fun KQ hKQ => ?_)
            apply Exists.intro
            refine ⟨fun w' hw' => ?_, ?_⟩
            · go_simp; exact rfl
            go_simp
            refine hKQ _ ?_
            clear hKQ KQ
            refine qs rfl (fun KQ hKQ => ?_)
            apply Exists.intro
            refine ⟨fun w' hw' => ?_, ?_⟩
            · go_simp; exact rfl
            go_simp
            refine hKQ _ ?_
            clear hKQ KQ
            refine qs rfl (fun KQ hKQ => ?_)
            apply Exists.intro
            refine ⟨fun w' hw' => ?_, ?_⟩
            · go_simp; exact rfl
            go_simp
            refine hKQ _ ?_
            clear hKQ KQ
            refine qs rfl (fun KQ hKQ => ?_)
            apply Exists.intro
            refine ⟨fun w' hw' => ?_, ?_⟩
            · have hc := HCQ.out w' hw'; go_simp; exact rfl
            go_simp
            refine hKQ _ ?_
            clear hKQ KQ
            refine qs rfl (fun KQ hKQ => ?_)
            apply Exists.intro
            refine ⟨fun w' hw' => ?_, ?_⟩
            · go_simp; exact rfl
            go_simp
            refine hKQ _ ?_
            clear hKQ KQ
            refine qs rfl (fun KQ hKQ => ?_)
            apply Exists.intro
            refine ⟨fun w' hw' => ?_, ?_⟩
            · go_simp; exact rfl
            go_simp
            refine hKQ _ ?_
            clear hKQ KQ
            refine qs rfl (fun KQ hKQ => ?_)
            apply Exists.intro
            refine ⟨fun w' hw' => ?_, ?_⟩
            · go_simp; exact rfl
            go_simp
            refine hKQ _ ?_
            clear hKQ KQ
            go_big_quiet_skip
            go_big_quiet_skip
            go_big_quiet_skip
            go_big_quiet_skip
            go_big_quiet_skip
            go_big_quiet_skip
            go_big_quiet_skip
            go_big_quiet_skip
            go_big_quiet_skip
            go_big_quiet_skip
            go_big_quiet_skip
            go_big_quiet_skip
            go_big_quiet_skip
            go_big_quiet_skip
            go_big_quiet_skip
            go_big_quiet_skip
            refine qs rfl (fun KQ hKQ => ?_)
            apply Exists.intro
            refine ⟨fun w' hw' => ?_, ?_⟩
            · go_simp; exact rfl
            go_simp
            refine hKQ _ ?_
            clear hKQ KQ
            refine wpQuiet_nil ?_
            intro w' hw'
            have HW := hidd hw'
            clear hw'
            go_wp2_with fail
            go_roundw
            case rel => exact ⟨m, q + 1, by omega, by go_num, rfl, hm, fun h => HNQ.out, fun k' h => by have := hq2 k' h; omega, HW.out⟩
            case measure => simp [intOf]; omega
        · obtain rfl : m = M := by
            by_cases h : m < M
            · have h1 := hq1 h
              have h2 := (HPT.out m (by omega)).1
              omega
            · omega
          have hgt : decide ((m : Int) - (m : Int) > 0) = false := by simp
          have hsl := HR.out.2.2.2.1
          obtain ⟨al, capl, hv, ho⟩ := own_list (zs := pathL bs c j m) (by rw [hsl]; exact HR.out.2.2.1)
          subst hv
          have HO := hidd ho
          clear ho hsl
          by_cases hqj : q < j
          · have hqI : (q : Int) < (j : Int) := by omega
            go_wp2_with fail
            go_ret
            exact ⟨al, capl, rfl, ownL_base HO.out (by omega), HR.out.2.2.2.2.1⟩
          · obtain rfl : q = j := by omega
            go_wp2_with fail
            go_ret
            exact ⟨al, capl, rfl, ownL_base HO.out (by omega), HR.out.2.2.2.2.1⟩
end Go.Proofs.YtmeihpakbhfipaaDoor
