/- Moves that pass tests: the program's movesThat with the tests of free edges and of safe moves. -/
import Derived.Test.YteclbaalejondaaMth
namespace Go.Proofs.Yteclbaalejondaa
set_option linter.unusedVariables false
set_option linter.unusedSimpArgs false
open Go Go.RowKit Go.Shelf
/-- Is an edge free and the move safe? -/
def fsB (N : Nat) (zs : List Int) (e : Nat) : Bool := frB zs e && sfB N zs e
def tst2 : Array Value := #[.func (.func 38) #[] #[], .func (.func 41) #[] #[]]
set_option maxRecDepth 100000 in
set_option maxHeartbeats 4000000 in
theorem moves37s (N : Nat) (zs : List Int) (h : Pos N zs) (tb cap : Nat) (w : World) (hT : Blk w tb tst2 47) :
    Calls Try.prog 37 #[psL N zs, .slice (some ⟨tb, 0, none⟩) 2 cap] w (LOne w (mvL N zs (fsB N zs))) := by
  have HOv := hidd (fun w => over45 N zs h w)
  have HF := hidd (fun e he w => free38 N zs h e he w)
  have HSf := hidd (fun e he hf w => safe41 N zs h e he hf w)
  have htb := hT.lt
  have hl10 := h.l10
  have h1 := h.n1
  have h5 := h.n5
  have HL := hidd (show (zs.length : Int) = edg (N : Int) by rw [← eN_edg, h.len])
  obtain ⟨V, hV⟩ : ∃ V, V = psZ N zs := ⟨_, rfl⟩
  have hVp : psL N zs = .agg V := by rw [hV]; rfl
  have HVS := hidd (show (Try.prog.info? 40).map (·.size) = some V.size by rw [hV]; exact size40)
  have HV0 := hidd (show V[0]? = some (Value.int .i64 (N : Int)) by rw [hV]; rfl)
  have HB0 := hidd (show Blk (w.alloc (.cells V 40)) w.heap.size V 40 ∧ Blk (w.alloc (.cells V 40)) tb tst2 47 ∧ Below w.heap.size w (w.alloc (.cells V 40)) from ⟨Blk.new w V 40 _ rfl, hT.alloc _, (Below.refl w.heap.size w).alloc (Nat.le_refl _) (.cells V 40)⟩)
  rw [hVp] at HOv HF HSf ⊢
  clear hV hVp h hT
  cases q : (rsl N zs != -1) with
  | true =>
    rw [q] at HOv
    rw [mvL_no q]
    clear q
    go_enter Try.func37, Try.ntmps37
    go_wp2
    go_step3
    go_wp2_with (refine wpList_load_row rfl 40 (.tmp 2) rfl w.heap.size rfl 40 _ (0,0) _ HB0.out.1 Try.underlying40 rfl HVS.out ?_)
    refine (HOv.out _).mono ?_
    rintro e w2 ⟨rfl, hb2⟩
    have G2 := hidd (HB0.out.2.2.trans (hb2.mono HB0.out.2.2.size))
    clear hb2
    go_wp2_with fail
    (try rw [Exit.noGoto_ret])
    go_ret
    exact ⟨none, 0, rfl, .inl rfl, G2.out⟩
  | false =>
    rw [q] at HOv
    rw [mvL_yes q]
    clear q
    obtain ⟨t0, hi2, hz0, hz1, hz3⟩ := info_parts info2
    have HIF := hidd (And.intro hi2 (And.intro hz0 (And.intro hz1 hz3)))
    clear hi2 hz0 hz1 hz3
    go_enter Try.func37, Try.ntmps37
    go_wp2
    go_step3
    go_wp2_with (refine wpList_load_row rfl 40 (.tmp 2) rfl w.heap.size rfl 40 _ (0,0) _ HB0.out.1 Try.underlying40 rfl HVS.out ?_)
    refine (HOv.out _).mono ?_
    rintro e w2 ⟨rfl, hb2⟩
    have hsz : (w.alloc (.cells V 40)).heap.size = w.heap.size + 1 := by simp
    have G2 := hidd (show RelMt V tst2 tb w [] (.slice none 0 0) w2 from ⟨⟨rfl, .inl ⟨rfl, rfl⟩⟩, HB0.out.1.below hb2 (by omega), HB0.out.2.1.below hb2 (by omega), HB0.out.2.2.trans (hb2.mono (by omega))⟩)
    have c0 := G2.out.2.1.cell HV0.out
    clear hb2 hsz HB0
    go_wp2_with (go_at_call 44; refine (edge48 (N : Int) _ (by omega) (by omega)).mono ?_; rintro e w' ⟨rfl, rfl⟩; rw [← HL.out])
    go_step3
    go_wp2_with (go_at_call 44; refine (edge48 (N : Int) _ (by omega) (by omega)).mono ?_; rintro e w' ⟨rfl, rfl⟩; rw [← HL.out])
    go_loopw [5, 6, 14] (fun v x i wr => ∃ j : Nat, j ≤ zs.length ∧ i = .int .i64 j ∧ Hid (RelMt V tst2 tb w (nbK (fsB N zs) j) v wr)) (fun _ _ i _ => zs.length - (intOf i).toNat)
    case atStart => exact ⟨0, by omega, rfl, G2⟩
    case round =>
      obtain ⟨j, hj, rfl, HK⟩ := hrel
      clear c0
      by_cases hlt : j < zs.length
      · have hlx : (nbK (fsB N zs) j).length ≤ 40 := by have := nbK_len (fsB N zs) j; omega
        have HFj := hidd (HF.out j hlt)
        have ct := HK.out.2.2.1.cell (j := 0) (show _ = some (Value.func (.func 38) #[] #[]) from rfl)
        go_wp2_with fail
        refine wp_loop_rounds 3 ?_
        rw [rounds_succ]
        go_wp2_with (refine wpList_load_row rfl 40 (.tmp 2) rfl w.heap.size rfl 40 _ (0,0) _ HK.out.2.1 Try.underlying40 rfl HVS.out ?_)
        refine (HFj.out _).mono ?_
        rintro e w3 ⟨rfl, hb3⟩
        have HK3 := hidd (HK.out.go htb hb3)
        clear hb3 ct
        cases hq : frB zs j with
        | false =>
          have HS1 := hidd (nbK_not (p := fsB N zs) (k := j) (by unfold fsB; rw [hq]; rfl))
          go_wp2_with fail
          go_roundw
          case rel => exact ⟨j + 1, by omega, by go_num, by rw [HS1.out]; exact HK3⟩
          case measure => simp [intOf]; omega
        | true =>
          have HSj := hidd (HSf.out j hlt hq)
          have ct := HK3.out.2.2.1.cell (j := 1) (show _ = some (Value.func (.func 41) #[] #[]) from rfl)
          go_wp2_with fail
          rw [rounds_succ]
          go_wp2_with (refine wpList_load_row rfl 40 (.tmp 2) rfl w.heap.size rfl 40 _ (0,0) _ HK3.out.2.1 Try.underlying40 rfl HVS.out ?_)
          refine (HSj.out _).mono ?_
          rintro e w5 ⟨rfl, hb5⟩
          have HK5 := hidd (HK3.out.go htb hb5)
          clear hb5 ct
          cases hq2 : sfB N zs j with
          | false =>
            have HS1 := hidd (nbK_not (p := fsB N zs) (k := j) (by unfold fsB; rw [hq, hq2]; rfl))
            go_wp2_with fail
            go_roundw
            case rel => exact ⟨j + 1, by omega, by go_num, by rw [HS1.out]; exact HK5⟩
            case measure => simp [intOf]; omega
          | true =>
            have HS1 := hidd (nbK_put (p := fsB N zs) (k := j) (by unfold fsB; rw [hq, hq2]; rfl))
            obtain ⟨xs, hxs⟩ : ∃ xs, xs = nbK (fsB N zs) j := ⟨_, rfl⟩
            rw [← hxs] at HK5 HS1 hlx
            have hown := HK5.out.1
            have hsz := HK5.out.2.1.lt
            clear hxs HK HK3
            go_wp2_with fail
            rw [rounds_succ]
            go_wp2_with (at_builtin; refine wpList_append_own _ rfl _ _ 22 rfl (w.heap.size + 1) 2 t0 (.int .i64 0) 1 8 Try.underlying22 HIF.out.1 HIF.out.2.1 HIF.out.2.2.1 HIF.out.2.2.2 rfl (by decide) _ _ _ rfl (hown.alloc _) ⟨w5.heap.size, 0, none⟩ 1 1 [.int .i64 (j : Int)] rfl rfl ?c1 ?c2 ?c3 ?c4 ?c5 ?_)
            case c1 => exact one_new _ _ _
            case c2 => intro u hu; simp at hu; subst hu; rfl
            case c3 => unfold maxLen; omega
            case c4 => omega
            case c5 => simp; omega
            intro v' w4 hown' hgrow _

            have K3 := hidd (HK5.out.step htb hown' hgrow)
            rw [← HS1.out] at K3
            clear hown' hgrow hown
            go_wp2
            go_roundw
            case rel => exact ⟨j + 1, by omega, by go_num, K3⟩
            case measure => simp [intOf]; omega
      · have hje : j = zs.length := by omega
        subst hje
        go_wp2_with fail
        (try rw [Exit.noGoto_ret])
        go_ret
        obtain ⟨a', cap', rfl, ho⟩ := own_list (zs := nbK (fsB N zs) zs.length) (own_base HK.out.1 (Nat.le_succ _))
        exact ⟨a', cap', rfl, ho, HK.out.2.2.2⟩
end Go.Proofs.Yteclbaalejondaa
