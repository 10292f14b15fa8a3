/- readPosition: the program's reading of a list. -/
import Derived.Test.YtidengcihakijaaLsc
import Derived.Test.YtidengcihakijaaCn
namespace Go.Proofs.Ytidengcihakijaa
set_option linter.unusedVariables false
set_option linter.unusedSimpArgs false
open Go Go.RowKit
/-- The edges of the player P among the first k. -/
def tkn (P : Int) (zs : List Int) (k : Nat) : Nat := arK (pw P zs) k
theorem tkn_lt {P : Int} {zs : List Int} {k : Nat} (h : k ≤ 10) : tkn P zs k < 2 ^ 10 := Nat.lt_of_lt_of_le (arK_lt _ _) (Nat.pow_le_pow_right (by omega) h)
theorem tkn_put {P : Int} {zs : List Int} {k : Nat} (h : zs.getD k 0 = P) : tkn P zs (k + 1) = tkn P zs k ||| 2 ^ k := by
  show (if pw P zs k then arK (pw P zs) k ||| 2 ^ k else arK (pw P zs) k) = _
  rw [if_pos (show pw P zs k = true by unfold pw; rw [h, beq_self_eq_true])]; rfl
theorem tkn_not {P : Int} {zs : List Int} {k : Nat} (h : zs.getD k 0 ≠ P) : tkn P zs (k + 1) = tkn P zs k := by
  show (if pw P zs k then arK (pw P zs) k ||| 2 ^ k else arK (pw P zs) k) = _
  rw [if_neg (show ¬ pw P zs k = true by unfold pw; rw [beq_iff_eq]; exact h)]; rfl
theorem edg_10 {n : Int} (h1 : 1 ≤ n) (h2 : n ≤ 5) : edg n ≤ 10 := by
  obtain ⟨N, rfl⟩ := Int.eq_ofNat_of_zero_le (show 0 ≤ n by omega)
  have := eN_mono (show N ≤ 5 by omega)
  have e : eN 5 = 10 := rfl
  show edg (N : Int) ≤ 10
  rw [← eN_edg]; omega
/-- What readPosition answers. -/
def rdV (n : Int) (zs : List Int) : Value := if lstB n zs = true then psV n (tkn 0 zs zs.length) (tkn 1 zs zs.length) else psV 0 0 0
theorem rd_no {n : Int} {zs : List Int} (h : lstB n zs = false) : rdV n zs = psV 0 0 0 := if_neg (by simp [h])
theorem rd_ok {n : Int} {zs : List Int} (h : lstB n zs = true) : rdV n zs = psV n (tkn 0 zs zs.length) (tkn 1 zs zs.length) := if_pos h
theorem info40 : (Try.prog.info? 44).map (fun i => (i.zero, i.size)) = some (some (.agg #[.int .i64 0, .int .u16 0, .int .u16 0]), 3) := by kernel_rfl
theorem zero40 : ∀ w, (zeroValue 44).run Try.prog w = .ok (.agg #[.int .i64 0, .int .u16 0, .int .u16 0]) w := (zero_of_info info40).1
theorem size40 : (Try.prog.info? 44).map (·.size) = some 3 := (zero_of_info info40).2
theorem ret_ps {fn : Func} {p u : Tmp} (h : fn.results = #[.cell p 44, .tmp u]) {tmps : Array Value} {w : World} {R : Ending → World → Prop} {g : Nat} {n : Int} {a b : Nat} {d : List Deferred}
    (hp : tmps.getD p undef = .pointer (some ⟨g, 0, none⟩)) (hg : Blk w g (psC n a b) 44) (hd : d = []) {v : Value} (hv : v = .tuple #[psV n a b, tmps.getD u undef]) (hR : R (.returned v) w) :
    bodyPost Try.prog fn R .ret ⟨tmps, d⟩ w := by
  subst hv
  exact bodyPost_ret (results_row_tmp h tmps w g 44 _ _ hp hg Try.underlying44 rfl size40) hd hR
theorem one_ps (n : Int) (a b : Nat) : (psC n a b).all (·.oneCell') = true := by simp [psC, Value.oneCell']
/-- The blocks of the result and of the position that is read. -/
def RelRd (w : World) (zs : List Int) (n : Int) (j : Nat) (wr : World) : Prop := Blk wr w.heap.size (psC 0 0 0) 44 ∧ Blk wr (w.heap.size + 1) (psC n (tkn 0 zs j) (tkn 1 zs j)) 44 ∧ Below w.heap.size w wr
theorem u16_bit {A j : Nat} (hA : A < 2 ^ 10) (hj : j < 10) : bits .or .u16 (A : Int) (IntKind.u16.wrap (2 ^ j)) = ((A ||| 2 ^ j : Nat) : Int) := by
  have h2 : 2 ^ j < 2 ^ 10 := Nat.pow_lt_pow_right (by omega) hj
  have e : (2 : Int) ^ j = ((2 ^ j : Nat) : Int) := by simp
  rw [e]
  generalize 2 ^ j = y at *
  rw [u16_wrap y (by omega)]
  exact u16_or_nat A y (by omega) (by omega)
theorem RelRd.put {w wr : World} {zs : List Int} {n : Int} {j : Nat} (h : RelRd w zs n j wr) (i : Nat) (v : Value) (hv : (psC n (tkn 0 zs j) (tkn 1 zs j)).setIfInBounds i v = psC n (tkn 0 zs (j + 1)) (tkn 1 zs (j + 1))) : RelRd w zs n (j + 1) (wr.setCell ⟨w.heap.size + 1, i, none⟩ v).drew :=
  ⟨(h.1.other _ _ (by show _ ≠ _ + 1; omega)).drew, by have := h.2.1.same i v; rw [hv] at this; exact this.drew, (h.2.2.setCell (by show _ ≤ _ + 1; omega) _).drew⟩
set_option maxRecDepth 100000 in
set_option maxHeartbeats 2000000 in
theorem read52 (n : Int) (zs : List Int) (a : Option Addr) (cap : Nat) (w : World) (hs : SlI w a zs) (hl : zs.length ≤ 9223372036854775807) :
    Calls Try.prog 36 #[.int .i64 n, .slice a zs.length cap] w fun e w' => e = .returned (.tuple #[rdV n zs, .bool (lstB n zs)]) ∧ Below w.heap.size w w' := by
  have HS := hidd hs
  have Hz := zero40
  have HB0 := hidd (show Blk (w.alloc (.cells (psC 0 0 0) 44)) w.heap.size (psC 0 0 0) 44 ∧ Below w.heap.size w (w.alloc (.cells (psC 0 0 0) 44)) from ⟨Blk.new _ _ _ _ rfl, (Below.refl _ _).alloc (Nat.le_refl _) _⟩)
  have HBR := hidd (show Blk ((w.alloc (.cells (psC 0 0 0) 44)).setRow w.heap.size (psC 0 0 0)) w.heap.size (psC 0 0 0) 44 ∧ Below w.heap.size w ((w.alloc (.cells (psC 0 0 0) 44)).setRow w.heap.size (psC 0 0 0)) from ⟨HB0.out.1.rowSame _, below_setRow HB0.out.2 (Nat.le_refl _) _⟩)
  clear hs
  cases c1 : inB n 1 5 with
  | false =>
    have H1 := hidd c1
    have H := hidd (lst_n (zs := zs) c1)
    clear c1
    go_enter Try.func36, Try.ntmps36
    go_wp2_with (first
      | (go_at_call 53; refine (within45 _ _ _ _).mono ?_; rintro e w' ⟨rfl, rfl⟩; rw [H1.out])
      | (refine wpList_store_row rfl 44 (.tmp 4) (.tmp 19) rfl w.heap.size (psC 0 0 0) rfl rfl 44 _ HB0.out.1 size40 rfl (one_ps _ _ _) ?_))
    refine ret_ps rfl rfl HBR.out.1 rfl rfl ⟨?_, HBR.out.2⟩
    rw [H.out, rd_no H.out]; rfl
  | true =>
    have H1 := hidd c1
    obtain ⟨n1, n2⟩ := inB_bd c1
    by_cases c2 : (zs.length : Int) = edg n
    · have hne : ((zs.length : Int) != edg n) = false := by simp [c2]
      have HE := hidd c2
      have hle := edg_10 n1 n2
      have hl10 : (zs.length : Int) ≤ 10 := by omega
      clear c1 c2
      have HB1 := hidd (show Blk ((w.alloc (.cells (psC 0 0 0) 44)).alloc (.cells (psC 0 0 0) 44)) (w.heap.size + 1) (psC 0 0 0) 44 from Blk.new _ _ _ _ (by simp))
      have HR0 := hidd (show RelRd w zs n 0 (((w.alloc (.cells (psC 0 0 0) 44)).alloc (.cells (psC 0 0 0) 44)).setRow (w.heap.size + 1) (psC n 0 0)) from
        ⟨(HB0.out.1.alloc _).rowOther _ _ (by omega), HB1.out.rowSame _, below_setRow (HB0.out.2.alloc (by simp) _) (by omega) _⟩)
      go_enter Try.func36, Try.ntmps36
      go_wp2_with (first
        | (go_at_call 53; refine (within45 _ _ _ _).mono ?_; rintro e w' ⟨rfl, rfl⟩; rw [H1.out])
        | (go_at_call 48; refine (edge48 _ _ (by omega) (by omega)).mono ?_; rintro e w' ⟨rfl, rfl⟩)
        | (refine wpList_store_row rfl 44 (.tmp 6) (.tmp 21) rfl (w.heap.size + 1) (psC n 0 0) rfl rfl 44 _ HB1.out size40 rfl (one_ps _ _ _) ?_))
      clear hne HB0 HB1 HBR Hz
      go_loopw [7, 8, 24] (fun x y i wr => ∃ j : Nat, j ≤ zs.length ∧ i = .int .i64 j ∧ Hid (RelRd w zs n j wr ∧ ∀ m, m < j → inB (zs.getD m 0) (-1) 1 = true)) (fun _ _ i _ => zs.length - (intOf i).toNat)
      case atStart => exact ⟨0, by omega, rfl, HR0.out, fun m hm => absurd hm (by omega)⟩
      case round =>
        obtain ⟨j, hj, rfl, HD⟩ := hrel
        by_cases hlt : j < zs.length
        · rcases HS.out.below HD.out.1.2.2 (Nat.le_refl _) with hz | ⟨b, off, rfl, hc⟩
          · subst hz; simp at hlt
          · have hcj := hc j hlt
            obtain ⟨z, hz⟩ : ∃ z, z = zs.getD j 0 := ⟨_, rfl⟩
            rw [← hz] at hcj
            have HZ := hidd hz
            clear hz hc
            have ht0 := tkn_lt (P := 0) (zs := zs) (k := j) (by omega)
            have ht1 := tkn_lt (P := 1) (zs := zs) (k := j) (by omega)
            by_cases z0 : z = 0
            · subst z0
              have HT0 := tkn_put (P := 0) HZ.out.symm
              have HT1 := tkn_not (P := 1) (k := j) (zs := zs) (by rw [← HZ.out]; decide)
              have c1 := HD.out.1.2.1.cell (j := 1) (show _ = some (Value.int .u16 (tkn 0 zs j : Nat)) from rfl)
              have f1 := HD.out.1.2.1.fro 1
              have K := hidd (HD.out.1.put 1 (.int .u16 (bits .or .u16 (tkn 0 zs j : Nat) (IntKind.u16.wrap (2 ^ j)))) (by rw [u16_bit ht0 (by omega), HT0, HT1]; rfl))
              have HA := hidd HD.out.2
              clear HT0 HT1 HD
              go_wp2_with fail
              refine wp_region_still_tail 9 (by kernel_rfl) (by kernel_rfl) ?_
              simp only [List.take_succ_cons, List.take_zero, List.drop_succ_cons, List.drop_zero]
              iterate 9 still_step
              refine wpStill_nil ?_
              go_wp2_with fail
              go_roundw
              case rel => exact ⟨j + 1, by omega, by go_num, K.out, fun m hm => by
                by_cases e : m = j
                · subst e; rw [← HZ.out]; decide
                · exact HA.out m (by omega)⟩
              case measure => simp [intOf]; omega
            · by_cases z1 : z = 1
              · subst z1
                have HT0 := tkn_put (P := 1) HZ.out.symm
                have HT1 := tkn_not (P := 0) (k := j) (zs := zs) (by rw [← HZ.out]; decide)
                have c1 := HD.out.1.2.1.cell (j := 2) (show _ = some (Value.int .u16 (tkn 1 zs j : Nat)) from rfl)
                have f1 := HD.out.1.2.1.fro 2
                have K := hidd (HD.out.1.put 2 (.int .u16 (bits .or .u16 (tkn 1 zs j : Nat) (IntKind.u16.wrap (2 ^ j)))) (by rw [u16_bit ht1 (by omega), HT0, HT1]; rfl))
                have HA := hidd HD.out.2
                clear HT0 HT1 HD
                go_wp2_with fail
                refine wp_region_still_tail 9 (by kernel_rfl) (by kernel_rfl) ?_
                simp only [List.take_succ_cons, List.take_zero, List.drop_succ_cons, List.drop_zero]
                iterate 9 still_step
                refine wpStill_nil ?_
                go_wp2_with fail
                go_roundw
                case rel => exact ⟨j + 1, by omega, by go_num, K.out, fun m hm => by
                  by_cases e : m = j
                  · subst e; rw [← HZ.out]; decide
                  · exact HA.out m (by omega)⟩
                case measure => simp [intOf]; omega
              · have hd0 : (z == 0) = false := by simp [z0]
                have hd1 : (z == 1) = false := by simp [z1]
                by_cases z2 : z = -1
                · subst z2
                  have HT0 := tkn_not (P := 0) (k := j) (zs := zs) (by rw [← HZ.out]; decide)
                  have HT1 := tkn_not (P := 1) (k := j) (zs := zs) (by rw [← HZ.out]; decide)
                  have K := hidd (show RelRd w zs n (j + 1) wr by
                    have := HD.out.1
                    unfold RelRd at this ⊢
                    rw [HT0, HT1]; exact this)
                  have HA := hidd HD.out.2
                  clear HT0 HT1 HD
                  go_wp2_with fail
                  go_roundw
                  case rel => exact ⟨j + 1, by omega, by go_num, K.out, fun m hm => by
                    by_cases e : m = j
                    · subst e; rw [← HZ.out]; decide
                    · exact HA.out m (by omega)⟩
                  case measure => simp [intOf]; omega
                · have hd2 : (z == -1) = false := by simp [z2]
                  have Hz := zero40
                  have HBR := hidd (And.intro (HD.out.1.1.rowSame (psC 0 0 0)) (below_setRow HD.out.1.2.2 (g := w.heap.size) (Nat.le_refl _) (psC 0 0 0)))
                  have H := hidd (lst_a (n := n) (allW_no hlt (by rw [← HZ.out]; unfold inB; simp; omega)))
                  go_wp2_with (refine wpList_store_row rfl 44 (.tmp 4) (.tmp 30) rfl w.heap.size (psC 0 0 0) rfl rfl 44 _ HD.out.1.1 size40 rfl (one_ps _ _ _) ?_)
                  refine ret_ps rfl rfl HBR.out.1 rfl rfl ⟨?_, HBR.out.2⟩
                  rw [H.out, rd_no H.out]; rfl
        · have hje : j = zs.length := by omega
          subst hje
          have H := hidd (lst_y (show inB n 1 5 = true from H1.out) HE.out (allW_yes HD.out.2))
          obtain ⟨t0, h0⟩ : ∃ t, t = tkn 0 zs zs.length := ⟨_, rfl⟩
          obtain ⟨t1, h1⟩ : ∃ t, t = tkn 1 zs zs.length := ⟨_, rfl⟩
          have HD' := HD.out.1
          unfold RelRd at HD'
          rw [← h0, ← h1] at HD'
          have HT := hidd (And.intro h0 h1)
          have HR := hidd HD'
          have HBR := hidd (And.intro (HR.out.1.rowSame (psC n t0 t1)) (below_setRow HR.out.2.2 (g := w.heap.size) (Nat.le_refl _) (psC n t0 t1)))
          clear h0 h1 HD' HD
          go_wp2_with (first
            | (refine wpList_load_row rfl 44 (.tmp 6) rfl (w.heap.size + 1) rfl 44 _ (0,0) _ HR.out.2.1 Try.underlying44 rfl size40 ?_)
            | (refine wpList_store_row rfl 44 (.tmp 4) (.tmp 46) rfl w.heap.size (psC n t0 t1) rfl rfl 44 _ HR.out.1 size40 rfl (one_ps _ _ _) ?_))
          refine ret_ps rfl rfl HBR.out.1 rfl rfl ⟨?_, HBR.out.2⟩
          rw [H.out, rd_ok H.out, ← HT.out.1, ← HT.out.2]; rfl
    · have hne : ((zs.length : Int) != edg n) = true := by simp [c2]
      have H := hidd (lst_l c2)
      clear c1 c2
      go_enter Try.func36, Try.ntmps36
      go_wp2_with (first
        | (go_at_call 53; refine (within45 _ _ _ _).mono ?_; rintro e w' ⟨rfl, rfl⟩; rw [H1.out])
        | (go_at_call 48; refine (edge48 _ _ (by omega) (by omega)).mono ?_; rintro e w' ⟨rfl, rfl⟩)
        | (refine wpList_store_row rfl 44 (.tmp 4) (.tmp 19) rfl w.heap.size (psC 0 0 0) rfl rfl 44 _ HB0.out.1 size40 rfl (one_ps _ _ _) ?_))
      refine ret_ps rfl rfl HBR.out.1 rfl rfl ⟨?_, HBR.out.2⟩
      rw [H.out, rd_no H.out]; rfl
end Go.Proofs.Ytidengcihakijaa
