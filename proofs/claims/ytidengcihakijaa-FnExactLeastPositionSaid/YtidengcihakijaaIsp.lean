/- isPosition: the program's test of positions. -/
import Derived.Test.YtidengcihakijaaHas
import Derived.Test.YtidengcihakijaaSp3
namespace Go.Proofs.Ytidengcihakijaa
set_option linter.unusedVariables false
set_option linter.unusedSimpArgs false
open Go Go.RowKit Go.Shelf
attribute [local go_sem] Oper.semAt_some
theorem mvr_ones (zs : List Int) : ((ones (tkn 0 zs zs.length) : Int) - (ones (tkn 1 zs zs.length) : Int)) = mvr zs := by
  unfold mvr tkn; rw [ones_arK, ones_arK]
theorem mvr_bd (zs : List Int) : -(zs.length : Int) ≤ mvr zs ∧ mvr zs ≤ zs.length := by
  have e0 := cnt_le (pw 0 zs) zs.length
  have e1 := cnt_le (pw 1 zs) zs.length
  unfold mvr; omega
/-- The mover of a position. -/
theorem mov33 (N : Nat) (zs : List Int) (hl : zs.length ≤ 10) (w : World) : Calls Try.prog 54 #[psL N zs] w fun e w' => e = .returned (.int .i64 (mvr zs)) ∧ Below w.heap.size w w' := by
  rw [← mvr_ones]
  exact mover33 (N : Int) _ _ (tkn_lt hl) (tkn_lt hl) w
theorem cmL_16 {c : Nat} (l : List Nat) (h : c ≤ 65535) : cmL c l ≤ 65535 := Nat.le_trans (cmL_le c l) h
set_option maxRecDepth 100000 in
set_option maxHeartbeats 2000000 in
theorem isp53 (zs : List Int) (N : Nat) (hN1 : 1 ≤ N) (hN : N ≤ 5) (hlen : zs.length = eN N) (w : World) :
    Calls Try.prog 37 #[psL N zs] w fun e w' => e = .returned (.bool (posB N zs)) ∧ Below w.heap.size w w' := by
  have hl10 : zs.length ≤ 10 := by rw [hlen]; exact Nat.le_trans (eN_mono hN) (by decide)
  have HM := hidd (fun w => mov33 N zs hl10 w)
  obtain ⟨V, hV⟩ : ∃ V, V = psZ N zs := ⟨_, rfl⟩
  have hVp : psL N zs = .agg V := by rw [hV]; rfl
  have hVs : (Try.prog.info? 44).map (·.size) = some V.size := by rw [hV]; exact size40
  have HVS := hidd hVs
  have HV3 := hidd (show ∃ x0 x1 x2, V = #[x0, x1, x2] from ⟨_, _, _, hV⟩)
  have HB0 := hidd (And.intro (Blk.new w V 44 _ rfl) ((Below.refl w.heap.size w).alloc (Nat.le_refl _) (.cells V 44)))
  cases q : inB (mvr zs) 0 1 with
  | false =>
    have H := hidd (pos_m (N := N) q)
    have HQ := hidd q
    generalize mvr zs = m at *
    rw [hVp] at HM ⊢
    clear q hVs hV hVp hlen
    go_enter Try.func37, Try.ntmps37
    go_wp2_with (refine wpList_load_row rfl 44 (.tmp 1) rfl w.heap.size rfl 44 _ (0,0) _ HB0.out.1 Try.underlying44 rfl HVS.out ?_)
    refine (HM.out _).mono ?_
    rintro e w1 ⟨rfl, hb1⟩
    have G1 := hidd (show Below w.heap.size w w1 from HB0.out.2.trans (hb1.mono (by simp)))
    clear hb1
    go_wp2_with (go_at_call 53; refine (within45 _ _ _ _).mono ?_; rintro e w' ⟨rfl, rfl⟩; rw [HQ.out])
    go_ret
    exact ⟨by rw [H.out]; rfl, G1.out⟩
  | true =>
    have HQ := hidd q
    have hm := inB_out' q
    have HH := hidd (fun w => has57 (mvr zs) hm zs N hN1 hN hlen w)
    have HP := hidd (show posB N zs = ((triK (mvr zs) zs N).isEmpty && (cmL 65535 (triK (1 - mvr zs) zs N) != 0)) by unfold posB; rw [q, Bool.true_and])
    have h67 := fun w => tri67 (N : Int) (tkn 0 zs zs.length) (tkn 1 zs zs.length) (1 - mvr zs) w
    have HT := hidd (fun w => (show Calls Try.prog 56 #[psL N zs, .int .i64 (1 - mvr zs)] w fun e w' => e = .returned (.func (.func 67) #[] #[.pointer (some ⟨w.heap.size, 0, none⟩), .pointer (some ⟨w.heap.size + 1, 0, none⟩)]) ∧
      Blk w' w.heap.size (psZ N zs) 44 ∧ Blk w' (w.heap.size + 1) #[.int .i64 (1 - mvr zs)] 2 ∧ Below w.heap.size w w' from h67 w))
    have HIT0 := hidd (fun m Bp Bq w => iter74 (1 - mvr zs) (by omega) m zs N hN1 hN hlen Bp Bq w)
    unfold Cap7 at HIT0
    rw [← hV] at HT HIT0
    obtain ⟨L, hL⟩ : ∃ L, L = triK (1 - mvr zs) zs N := ⟨_, rfl⟩
    have hL16 : ∀ x, x ∈ L → x < 65536 := by
      intro x hx
      rw [hL] at hx
      have h1 := triK_lt hN N (Nat.le_refl _) x hx
      have h2 := Nat.pow_le_pow_right (show 0 < 2 by omega) (show eN N ≤ 10 by omega)
      omega
    have HL16 := hidd hL16
    rw [← hL] at HP HIT0
    generalize triK (mvr zs) zs N = M at *
    generalize mvr zs = m at *
    rw [hVp] at HM HH HT ⊢
    have hw1 : IntKind.i64.wrap (1 - m) = 1 - m := IntWalk.i64_in _ (by omega)
    clear q hVs hV hVp hlen h67 hL hL16 hm
    obtain ⟨b, hb⟩ : ∃ b, M.isEmpty = b := ⟨_, rfl⟩
    rw [hb] at HP HH
    clear hb
    cases b with
    | false =>
      go_enter Try.func37, Try.ntmps37
      go_wp2_with (refine wpList_load_row rfl 44 (.tmp 1) rfl w.heap.size rfl 44 _ (0,0) _ HB0.out.1 Try.underlying44 rfl HVS.out ?_)
      refine (HM.out _).mono ?_
      rintro e w1 ⟨rfl, hb1⟩
      have G1 := hidd (show Blk w1 w.heap.size V 44 ∧ Below w.heap.size w w1 from ⟨HB0.out.1.below hb1 (by simp), HB0.out.2.trans (hb1.mono (by simp))⟩)
      clear hb1
      go_wp2_with (first
        | (go_at_call 53; refine (within45 _ _ _ _).mono ?_; rintro e w' ⟨rfl, rfl⟩; rw [HQ.out])
        | (refine wpList_load_if (by rfl) 44 (.tmp 1) rfl w.heap.size rfl 44 _ _ G1.out.1 Try.underlying44 rfl HVS.out ?_))
      refine (HH.out _).mono ?_
      rintro e w2 ⟨rfl, hb2⟩
      have G2 := hidd (show Below w.heap.size w w2 from G1.out.2.trans (hb2.mono G1.out.2.size))
      clear hb2
      go_wp2_with fail
      go_ret
      exact ⟨by rw [HP.out]; rfl, G2.out⟩
    | true =>
      refine (callsIn_wide (n := 4)).1 (callsIn_of_wp_marks Try.func37 rfl trivial ?_ rfl)
      simp only [Try.ntmps37, List.size_toArray, List.length_cons, List.length_nil, Nat.reduceAdd, Nat.reduceSub, Array.replicate_succ, Array.replicate_zero, List.push_toArray, List.append_toArray, List.nil_append, List.cons_append]
      gi_wp2_with (refine inLoadRow rfl 44 (.tmp 1) rfl w.heap.size rfl 44 _ _ HB0.out.1 Try.underlying44 rfl HVS.out ?_)
      refine ⟨trivial, (callsIn_wide.2 (HM.out _)).mono ?_⟩
      rintro e w1 ⟨rfl, hb1⟩
      have G1 := hidd (show Blk w1 w.heap.size V 44 ∧ Below w.heap.size w w1 from ⟨HB0.out.1.below hb1 (by simp), HB0.out.2.trans (hb1.mono (by simp))⟩)
      clear hb1
      obtain ⟨x0, x1, x2, rfl⟩ := HV3.out
      have c0 := G1.out.1.cell (j := 0) (show _ = some x0 from rfl)
      have c1 := G1.out.1.cell (j := 1) (show _ = some x1 from rfl)
      have c2 := G1.out.1.cell (j := 2) (show _ = some x2 from rfl)
      gi_wp2_with fail
      refine ⟨trivial, (callsIn_wide.2 (within45 _ _ _ _)).mono ?_⟩
      rintro e w' ⟨rfl, rfl⟩
      rw [HQ.out]
      gi_wp2_with fail
      refine ⟨trivial, (callsIn_wide.2 (HH.out _)).mono ?_⟩
      rintro e w2 ⟨rfl, hb2⟩
      have G2 := hidd (show Blk w2 w.heap.size #[x0, x1, x2] 44 ∧ Below w.heap.size w w2 from ⟨G1.out.1.below hb2 G1.out.1.lt, G1.out.2.trans (hb2.mono G1.out.2.size)⟩)
      have hs2 := G2.out.1.lt
      clear hb2 c0 c1 c2
      have c0 := ((G2.out.1.alloc (.cells #[.int .u16 65535] 41)).cell (j := 0) (show _ = some x0 from rfl))
      have c1 := ((G2.out.1.alloc (.cells #[.int .u16 65535] 41)).cell (j := 1) (show _ = some x1 from rfl))
      have c2 := ((G2.out.1.alloc (.cells #[.int .u16 65535] 41)).cell (j := 2) (show _ = some x2 from rfl))
      gi_wp2_with fail
      refine ⟨trivial, (callsIn_wide.2 (HT.out _)).mono ?_⟩
      rintro e w3 ⟨rfl, f1, f2, hb3⟩
      have hz : (w2.alloc (Obj.cells #[Value.int IntKind.u16 65535] 41)).heap.size = w2.heap.size + 1 := by simp
      rw [hz] at f1 f2 hb3 ⊢
      have hR3 : Blk w3 w2.heap.size #[.int .u16 ((65535 : Nat) : Int)] 41 := (Blk.new w2 #[.int .u16 65535] 41 _ rfl).below hb3 (by omega)
      have hB3 : Below w.heap.size w w3 := (G2.out.2.alloc G2.out.2.size _).trans (hb3.mono (by have := G2.out.2.size; omega))
      have hw3 : w2.heap.size + 1 + 1 < w3.heap.size := f2.lt
      have hww : w.heap.size ≤ w2.heap.size := G2.out.2.size
      have HIT := hidd (HIT0.out 1 _ _ w3 ⟨f1, f2⟩)
      have HR := hidd (And.intro hR3 hB3)
      have HS1 := hidd (show Stab w3.heap.size (fun (pre : List Nat) Wx => Blk Wx w2.heap.size #[.int .u16 (cmL 65535 pre : Nat)] 41 ∧ Below w.heap.size w Wx) from
        fun pre A A' h hb => ⟨h.1.below hb (by omega), h.2.trans (hb.mono (by omega))⟩)
      clear f1 f2 hb3 hz hR3 hB3 c0 c1 c2
      gi_wp2_with fail
      refine range_gives rfl (enters_of Try.func67 (by kernel_rfl) rfl) HIT.out (fun b hb => by simp only [List.mem_cons, List.not_mem_nil, or_false] at hb; omega) (fun _ => rfl)
        (fun (pre : List Nat) Wx => Blk Wx w2.heap.size #[.int .u16 (cmL 65535 pre : Nat)] 41 ∧ Below w.heap.size w Wx) (fun (pre : List Nat) Wx => False) HS1.out (fun _ _ _ h _ _ => h) HR.out
        (fun x a' Wx => a' = { tmps := #[.agg #[x0, x1, x2], .pointer (some ⟨w.heap.size, 0, none⟩), .bool false, .int .i64 m, .pointer (some ⟨w2.heap.size, 0, none⟩), .int .u16 (x : Int), .agg #[x0, x1, x2], .int .i64 m, .int .i64 m, .bool true, .bool false, .bool false, .agg #[x0, x1, x2], .int .i64 m, .bool false, .bool false, .agg #[x0, x1, x2], .int .i64 m, .int .i64 (1 - m), .func (.func 67) #[] #[.pointer (some ⟨w2.heap.size + 1, 0, none⟩), .pointer (some ⟨w2.heap.size + 1 + 1, 0, none⟩)], .int .u16 (x : Int), undef, undef, undef, undef, undef], defers := [] })
        (fun x a' A l' o o' h _ _ => h) ?assign ?body ?done ?stop
      case assign =>
        intro l' pre x rest Wx Kx' hall hI hs hK
        have HK := hidd hK
        clear hK hI
        dsimp only [encT]
        gi_wp2
        exact HK.out _ _ (Below.refl _ _) (by first | rfl | (simp; done) | kernel_rfl)
      case body =>
        rintro l' pre x rest a' Wx hall hs hI rfl
        have hc := hI.1.cell (j := 0) (show _ = some (Value.int .u16 (cmL 65535 pre : Nat)) from rfl)
        have hf := hI.1.fro 0
        have hx := HL16.out x (by rw [hall]; simp)
        have hcl := cmL_16 pre (c := 65535) (Nat.le_refl _)
        have hand := u16_and_nat (cmL 65535 pre) x (by omega) hx
        rw [← cmL_app] at hand
        obtain ⟨v, hv⟩ : ∃ v : Int, v = (cmL 65535 (pre ++ [x]) : Nat) := ⟨_, rfl⟩
        rw [← hv] at hand
        have K := hidd (show Kx [w2.heap.size + 1, w2.heap.size + 1 + 1] w3.heap.size Wx (Wx.setCell ⟨w2.heap.size, 0, none⟩ (.int .u16 v)) ∧ Blk (Wx.setCell ⟨w2.heap.size, 0, none⟩ (.int .u16 v)) w2.heap.size #[.int .u16 (cmL 65535 (pre ++ [x]) : Nat)] 41 ∧ Below w.heap.size w (Wx.setCell ⟨w2.heap.size, 0, none⟩ (.int .u16 v)) from
          ⟨⟨by simp [World.setCell], fun k hk hb => heap_setCell_other Wx ⟨w2.heap.size, 0, none⟩ k (.int .u16 v) (by
            show k ≠ w2.heap.size
            rcases hb with hb | hb
            · omega
            · simp only [List.mem_cons, List.not_mem_nil, or_false] at hb; omega)⟩, by rw [← hv]; exact hI.1.same 0 (.int .u16 v), hI.2.setCell (by show w.heap.size ≤ w2.heap.size; omega) _⟩)
        clear hI hv hx hcl
        generalize cmL 65535 pre = C at *
        gi_wp2
        exact K.out
      case done =>
        intro D Wx hD hI hdef
        have hM := hidd (show Mks w3.heap.size [D] Wx from (Mks.nil _ _).cons hD (by simp) hdef)
        have hB := hidd hI.2
        have hbl := hidd hI.1
        have hc := hI.1.cell (j := 0) (show _ = some (Value.int .u16 (cmL 65535 L : Nat)) from rfl)
        have HE := hidd (show posB N zs = (((cmL 65535 L : Nat) : Int) != 0) by rw [HP.out, Bool.true_and, Bool.eq_iff_iff, bne_iff_ne, bne_iff_ne]; omega)
        generalize cmL 65535 L = C at *
        obtain ⟨ok, hok⟩ : ∃ ok, (((C : Nat) : Int) != 0) = ok := ⟨_, rfl⟩
        rw [hok] at HE
        clear hI hdef
        gi_wp2
        refine leave_marks (B := w3.heap.size) (v := .bool ok) [D] _ hM.out (fun W' hb _ => ⟨?_, ?_, ?_⟩)
        · simp [results, Try.results37, go_sem]
        · rw [HE.out]
        · exact hB.out.trans (hb.mono (by omega))
      case stop =>
        intro D pre x rest Wx hD hall hIx hdef
        exact hIx.elim
end Go.Proofs.Ytidengcihakijaa
