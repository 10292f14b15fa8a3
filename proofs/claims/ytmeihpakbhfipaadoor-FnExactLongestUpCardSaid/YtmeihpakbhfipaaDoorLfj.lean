/- lengthsFrom: the program. -/
import Derived.Test.YtmeihpakbhfipaaDoorLfi
import Derived.Test.YtmeihpakbhfipaaDoorOut
namespace Go.Proofs.YtmeihpakbhfipaaDoor
set_option linter.unusedVariables false
set_option linter.unusedSimpArgs false
open Go Go.RowKit Go.Shelf
attribute [local go_sem] Oper.semAt_some
set_option maxRecDepth 100000 in
set_option maxHeartbeats 4000000 in
theorem lengths49 (N : Nat) (c : Int) (bs : List Nat) (g : Nat) (w : World) (N1 : 1 ≤ N) (N2 : N ≤ 17) (hS : StI w g (upR bs c N) N) :
    Calls Tryd.prog 49 #[.slice (some ⟨g, 0, none⟩) N N] w fun e w' => e = .returned (.slice (some ⟨w.heap.size, 0, none⟩) N N) ∧ Blk w' w.heap.size (icells (fl N (lfV bs c N))).toArray 2 ∧ Below w.heap.size w w' := by
  have hmk := make29 N (by omega)
  rw [zrow_icells] at hmk
  have HSI := hidd hS
  obtain ⟨C, hC, hCs, hCr⟩ := hS
  have HCr := hidd hCr
  have HCs := hidd hCs
  have HG := hidd hC
  have HGL := hidd hC.lt
  obtain ⟨W0, hW0⟩ : ∃ W0, W0 = (w.alloc (.cells (icells (List.replicate N 0)).toArray 2)).alloc (.cells #[.slice (some ⟨w.heap.size, 0, none⟩) N N] 25) := ⟨_, rfl⟩
  have hz : W0.heap.size = w.heap.size + 1 + 1 := by rw [hW0]; simp
  have hb0 : Below w.heap.size w W0 := by rw [hW0]; exact ((Below.refl _ _).alloc (Nat.le_refl _) _).alloc (by simp) _
  have HR0 := hidd (show RelLf N (lfA bs c N 0) w W0 from ⟨by
      rw [hW0, show fl N (lfA bs c N 0) = List.replicate N 0 by
        apply List.ext_getElem
        · rw [fl_len]; simp
        · intro q h1 h2
          simp [fl, lfA]]
      exact (Blk.new _ _ _ _ rfl).alloc _, by rw [hW0]; exact Blk.new _ _ _ _ (by simp), hb0⟩)
  have HW0 := hidd hW0
  clear hC hCs hCr hW0
  refine (callsIn_wide (n := 3)).1 (callsIn_of_wp_marks Tryd.func49 rfl trivial ?_ rfl)
  simp only [Tryd.ntmps49, List.size_toArray, List.length_cons, List.length_nil, Nat.reduceAdd, Nat.reduceSub, Array.replicate_succ, Array.replicate_zero, List.push_toArray, List.append_toArray, List.nil_append, List.cons_append]
  gi_wp2_with fail
  rw [← HW0.out]
  refine ⟨trivial, (callsIn_wide.2 (backward62 _ _ _ _)).mono ?_⟩
  rintro e w1 ⟨rfl, hw1⟩
  rw [hz]
  have hb1 : Below W0.heap.size W0 w1 := by rw [← hw1]; exact (Below.refl _ _).alloc (Nat.le_refl _) _
  have hs1 : w1.heap.size = w.heap.size + 1 + 1 + 1 := by rw [← hw1]; simp [hz]
  have hn1 : Blk w1 (w.heap.size + 1 + 1) #[.slice (some ⟨g, 0, none⟩) N N] 41 := by rw [← hw1]; exact Blk.new _ _ _ _ (by rw [hz])
  have hg1 : Blk w1 g C 25 := (HG.out.below hb0 HGL.out).below hb1 (by have := HGL.out; omega)
  have HR1 := hidd (HR0.out.more (show w.heap.size + 1 < W0.heap.size by omega) hb1)
  have HIT := hidd (iter68 1 (w.heap.size + 1 + 1) g N C HCs.out N2 w1 hn1 hg1)
  have HS1 := hidd hs1
  have HST := hidd (show Stab w1.heap.size (fun (pre : List (Nat × Value)) Wx => RelLf N (lfA bs c N pre.length) w Wx) from
    fun pre A A' h hb => h.more (by omega) hb)
  clear hw1 hb1 hs1 hn1 hg1 hz hb0 hmk HR0 HW0 HG
  gi_wp2_with fail
  refine range_gives rfl (enters_of Tryd.func68 (by kernel_rfl) rfl) HIT.out (fun b hb => by simp only [List.mem_cons, List.not_mem_nil, or_false] at hb; have := HS1.out; have := HGL.out; omega) (fun _ => rfl)
    (fun (pre : List (Nat × Value)) Wx => RelLf N (lfA bs c N pre.length) w Wx) (fun (pre : List (Nat × Value)) Wx => False) HST.out (fun _ _ _ h _ _ => h) HR1.out
    (fun x a' Wx => a' = { tmps := #[.slice (some ⟨g, 0, none⟩) N N, undef, .slice none 0 0, .pointer (some ⟨w.heap.size + 1, 0, none⟩), .int .i64 (x.1 : Int), x.2, undef, undef, .slice (some ⟨g, 0, none⟩) N N, .int .i64 (N : Int), .slice (some ⟨w.heap.size, 0, none⟩) N N, .slice (some ⟨g, 0, none⟩) N N, .func (.func 68) #[] #[.pointer (some ⟨w.heap.size + 1 + 1, 0, none⟩)], .int .i64 (x.1 : Int), x.2, undef, undef, undef, undef, undef, undef, undef, undef, undef, undef, undef, undef, undef, undef, undef, undef, undef, undef, undef, undef, undef, undef, undef, undef], defers := [] })
    (fun x a' A l' o o' h hl' ho => h) ?assign ?body ?done ?stop
  case assign =>
    intro l' pre x rest Wx Kx' hall hI hs hK
    have HK := hidd hK
    clear hK hI
    dsimp only [encB]
    gi_wp2
    exact HK.out _ _ (Below.refl _ _) rfl
  case body =>
    rintro l' pre ⟨p, v⟩ rest a' Wx hall hs hI rfl
    obtain ⟨hd, hpre, hx⟩ := bwL_split hall
    have hp : p = N - 1 - pre.length := congrArg Prod.fst hx
    have hv : v = C.getD (N - 1 - pre.length) undef := congrArg Prod.snd hx
    obtain ⟨d, hde⟩ : ∃ d, d = pre.length := ⟨_, rfl⟩
    have hlen : (pre ++ [(p, v)]).length = d + 1 := by simp [hde]
    rw [← hde] at hd hp hv hI
    rw [← hp] at hv
    have hpN : p < N := by omega
    have HP := hidd (show p = N - (d + 1) by omega)
    have HD := hidd hd
    obtain ⟨a, cap, e, hsa⟩ := HCr.out p hpN
    have hv2 : v = .slice a (upR bs c N p).length cap := by
      rw [hv, Array.getD_eq_getD_getElem?, e]; rfl
    have hrl := upR_len bs c N p
    have hl17 : (upR bs c N p).length ≤ 17 := by omega
    have HLEN := hidd hlen
    have HSA := hidd hsa
    have hpNI : (p : Int) < (N : Int) := by omega
    clear hx hpre hall hde hv hsa e hp hlen
    subst hv2
    have H1 := hidd (show RelLg N (lfA bs c N d) w [w.heap.size + 1 + 1, g] w1.heap.size Wx Wx from ⟨hI, Kx.refl _ _ _⟩)
    have HST1 := hidd (fun wX (h : RelLg N (lfA bs c N d) w [w.heap.size + 1 + 1, g] w1.heap.size Wx wX) => h.store (by have := HS1.out; omega) (by have := HGL.out; simp; omega) (by have := lfM_start bs c N d; rw [← HP.out] at this; exact this))
    have HST2 := hidd (fun (m q : Nat) (h1 : m < (upR bs c N p).length) (h2 : (upR bs c N p).getD m 0 = (q : Int)) (h3 : p < q) wX (h : RelLg N (lfM bs c N d m) w [w.heap.size + 1 + 1, g] w1.heap.size Wx wX) => h.store (by have := HS1.out; omega) (by have := HGL.out; simp; omega) (lfM_step bs c HP.out h1 h2 h3))
    have c3 := hI.2.1.cell (j := 0) (show _ = some (Value.slice (some ⟨w.heap.size, 0, none⟩) N N) from rfl)
    have cp := fl_cell hI.1 hpN
    have fp := hI.1.fro p
    have hS1 := HST1.out Wx H1.out
    have HS2 := hidd hS1
    clear hI hS1 hrl
    gi_wp2_with fail
    clear c3 cp fp
    gi_loopw [20] (fun e wr => ∃ m : Nat, m ≤ (upR bs c N p).length ∧ e = .int .i64 (m : Int) ∧ RelLg N (lfM bs c N d m) w [w.heap.size + 1 + 1, g] w1.heap.size Wx wr) (fun e _ => (upR bs c N p).length - (intOf e).toNat)
    case atStart => exact ⟨0, Nat.zero_le _, rfl, HS2.out⟩
    case round =>
      obtain ⟨m, hm, rfl, HR⟩ := hrel
      have HK2 := hidd HR
      clear HR
      by_cases hml : m < (upR bs c N p).length
      · obtain ⟨q, hq, hpq, hqN, _⟩ := upR_get hml
        rcases (HSA.out.below HK2.out.1.2.2 (Nat.le_refl _)) with hz | ⟨b2, off2, ha2, hc2⟩
        · rw [hz] at hml; simp at hml
        subst ha2
        have cm := hc2 m hml
        rw [hq] at cm
        have HC3 := hidd (fun wX (h : RelLg N (lfM bs c N d m) w [w.heap.size + 1 + 1, g] w1.heap.size Wx wX) => h.1.2.1.cell (j := 0) (show _ = some (Value.slice (some ⟨w.heap.size, 0, none⟩) N N) from rfl))
        have HCQ := hidd (fun wX (h : RelLg N (lfM bs c N d m) w [w.heap.size + 1 + 1, g] w1.heap.size Wx wX) => fl_cell h.1.1 hqN)
        have HCP := hidd (fun wX (h : RelLg N (lfM bs c N d m) w [w.heap.size + 1 + 1, g] w1.heap.size Wx wX) => fl_cell h.1.1 hpN)
        have hbq := lfM_bd bs c (m := m) HD.out hqN
        have hbp := lfM_bd bs c (m := m) HD.out hpN
        have HS3 := hidd (HST2.out m q hml hq hpq)
        have hqNI : (q : Int) < (N : Int) := by omega
        obtain ⟨x, hx⟩ : ∃ x, x = lfM bs c N d m q := ⟨_, rfl⟩
        obtain ⟨y, hy⟩ : ∃ y, y = lfM bs c N d m p := ⟨_, rfl⟩
        rw [← hx] at HCQ hbq HS3
        rw [← hy] at HCP hbp HS3
        have hwx : IntKind.i64.wrap (x + 1) = x + 1 := IntWalk.i64_in _ (by omega)
        clear hc2 hq hx hy hbq hbp
        gi_wp2_with fail
        clear cm
        refine wpIn_region_tail_lit (lets_round l' _) 13 (fun w' => RelLg N (lfM bs c N d m) w [w.heap.size + 1 + 1, g] w1.heap.size Wx w') (by decide) (by kernel_rfl) (HK2.out.drew) (by kernel_rfl) (by kernel_rfl) (by kernel_rfl) (by kernel_rfl) (by kernel_rfl) ?_
        simp only [List.take_succ_cons, List.take_zero, List.drop_succ_cons, List.drop_zero, List.map_cons, List.map_nil, List.cons_append, List.nil_append, idle]
        refine qs rfl (fun KQ hKQ => ?_)
        apply Exists.intro
        refine ⟨fun w' hw' => ?_, ?_⟩
        · have hc := HC3.out w' hw'; go_simp; exact rfl
        go_simp
        refine hKQ _ ?_
        clear hKQ KQ
        refine qs rfl (fun KQ hKQ => ?_)
        apply Exists.intro
        refine ⟨fun w' hw' => ?_, ?_⟩
        · go_simp; exact rfl
        go_simp
        refine hKQ _ ?_
        clear hKQ KQ
        refine qs rfl (fun KQ hKQ => ?_)
        apply Exists.intro
        refine ⟨fun w' hw' => ?_, ?_⟩
        · have hc := HC3.out w' hw'; go_simp; exact rfl
        go_simp
        refine hKQ _ ?_
        clear hKQ KQ
        refine qs rfl (fun KQ hKQ => ?_)
        apply Exists.intro
        refine ⟨fun w' hw' => ?_, ?_⟩
        · go_simp; exact rfl
        go_simp
        refine hKQ _ ?_
        clear hKQ KQ
        refine qs rfl (fun KQ hKQ => ?_)
        apply Exists.intro
        refine ⟨fun w' hw' => ?_, ?_⟩
        · go_simp; exact rfl
        go_simp
        refine hKQ _ ?_
        clear hKQ KQ
        refine qs rfl (fun KQ hKQ => ?_)
        apply Exists.intro
        refine ⟨fun w' hw' => ?_, ?_⟩
        · have hc := HCP.out w' hw'; go_simp; exact rfl
        go_simp
        refine hKQ _ ?_
        clear hKQ KQ
        refine qs rfl (fun KQ hKQ => ?_)
        apply Exists.intro
        refine ⟨fun w' hw' => ?_, ?_⟩
        · have hc := HC3.out w' hw'; go_simp; exact rfl
        go_simp
        refine hKQ _ ?_
        clear hKQ KQ
        refine qs rfl (fun KQ hKQ => ?_)
        apply Exists.intro
        refine ⟨fun w' hw' => ?_, ?_⟩
        · go_simp; exact rfl
        go_simp
        refine hKQ _ ?_
        clear hKQ KQ
        refine qs rfl (fun KQ hKQ => ?_)
        apply Exists.intro
        refine ⟨fun w' hw' => ?_, ?_⟩
        · go_simp; exact rfl
        go_simp
        refine hKQ _ ?_
        clear hKQ KQ
        refine qs rfl (fun KQ hKQ => ?_)
        apply Exists.intro
        refine ⟨fun w' hw' => ?_, ?_⟩
        · have hc := HCQ.out w' hw'; go_simp; exact rfl
        go_simp
        refine hKQ _ ?_
        clear hKQ KQ
        refine qs rfl (fun KQ hKQ => ?_)
        apply Exists.intro
        refine ⟨fun w' hw' => ?_, ?_⟩
        · go_simp; exact rfl
        go_simp
        refine hKQ _ ?_
        clear hKQ KQ
        refine qs rfl (fun KQ hKQ => ?_)
        apply Exists.intro
        refine ⟨fun w' hw' => ?_, ?_⟩
        · go_simp; exact rfl
        go_simp
        refine hKQ _ ?_
        clear hKQ KQ
        refine qs rfl (fun KQ hKQ => ?_)
        apply Exists.intro
        refine ⟨fun w' hw' => ?_, ?_⟩
        · go_simp; exact rfl
        go_simp
        refine hKQ _ ?_
        clear hKQ KQ
        refine qs rfl (fun KQ hKQ => ?_)
        apply Exists.intro
        refine ⟨fun w' hw' => ?_, ?_⟩
        · go_simp; exact rfl
        go_simp
        refine hKQ _ ?_
        clear hKQ KQ
        refine wpQuiet_nil ?_
        intro w' hw'
        have cE := HCP.out w' hw'
        have fE := hw'.1.1.fro p
        have hs3 := HS3.out w' hw'
        rw [mx_if] at hs3
        have HS4 := hidd hs3
        clear hs3 hw'
        gi_wp2_with fail
        go_roundw
        case rel => exact ⟨m + 1, by omega, by go_num, HS4.out⟩
        case measure => simp [intOf]; omega
      · have HE2 := hidd (lfM_end bs c (N := N) (d := d) (m := m) (by rw [← HP.out]; omega))
        have HS2 := hidd (show Kx [w.heap.size + 1 + 1, g] w1.heap.size Wx wr ∧ RelLf N (lfA bs c N (pre ++ [(p, Value.slice a (upR bs c N p).length cap)]).length) w wr from
          ⟨HK2.out.2, by rw [HLEN.out]; have h := HK2.out.1; unfold RelLf at h ⊢; rw [HE2.out] at h; exact h⟩)
        gi_wp2_with fail
        exact HS2.out
  case done =>
    intro D Wx hD hI hdef
    have hM := hidd (show Mks w1.heap.size [D] Wx from (Mks.nil _ _).cons hD (by simp) hdef)
    rw [bwL_len] at hI
    have HI := hidd hI
    have hc := hI.2.1.cell (j := 0) (show _ = some (Value.slice (some ⟨w.heap.size, 0, none⟩) N N) from rfl)
    clear hI hdef
    gi_wp2
    refine leave_marks (B := w1.heap.size) (v := .slice (some ⟨w.heap.size, 0, none⟩) N N) [D] _ hM.out (fun W' hb _ => ⟨?_, ?_⟩)
    · simp [results, Tryd.results49, go_sem]
    · have h := HI.out.more (by have := HS1.out; omega) hb
      exact ⟨rfl, h.1, h.2.2⟩
  case stop =>
    intro D pre x rest Wx hD hall hIx hdef
    exact hIx.elim
end Go.Proofs.YtmeihpakbhfipaaDoor
