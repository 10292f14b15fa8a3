/- graph.components: the program. -/
import Derived.Test.YtkiocedhibeieaaDoorGvl
import Derived.Test.YtkiocedhibeieaaDoorOut
namespace Go.Proofs.YtkiocedhibeieaaDoor
set_option linter.unusedVariables false
set_option linter.unusedSimpArgs false
open Go Go.RowKit Go.Shelf
attribute [local go_sem] Oper.semAt_some
/-- A list of sets of the call's own. -/
def ucl (xs : List Nat) : List Value := xs.map fun (x : Nat) => Value.int .u32 (x : Int)
theorem ucl_len (xs : List Nat) : (ucl xs).length = xs.length := by simp [ucl]
def UL (w : World) (B : Nat) (v : Value) (xs : List Nat) : Prop := w.ownsRow B 56 1 v xs.length (ucl xs)
theorem UL.shape {w : World} {B : Nat} {v : Value} {xs : List Nat} (h : UL w B v xs) : ∃ a cap, v = .slice a xs.length cap := by
  obtain ⟨_, h | ⟨g, cap, cur, hv, _⟩⟩ := h
  · exact ⟨none, 0, by rw [h.1, h.2]⟩
  · exact ⟨_, _, hv⟩
theorem UL.ckept {w w' : World} {B : Nat} {v : Value} {xs : List Nat} (h : UL w B v xs) (hc : CKept w w') : UL w' B v xs := by
  refine ⟨h.1, ?_⟩
  rcases h.2 with h2 | ⟨g, cap, cur, hv, hB, hcell, r⟩
  · exact .inl h2
  · exact .inr ⟨g, cap, cur, hv, hB, hc _ _ _ _ hcell, r⟩
theorem UL.kx {w w' : World} {B C : Nat} {bs : List Nat} {v : Value} {xs : List Nat} (h : UL w B v xs) (hk : Kx bs B w w') : UL w' B v xs := by
  refine ⟨h.1, ?_⟩
  rcases h.2 with h2 | ⟨g, cap, cur, hv, hB, hcell, r⟩
  · exact .inl h2
  · exact .inr ⟨g, cap, cur, hv, hB, (hk.2 g (Array.getElem?_eq_some_iff.1 hcell).1 (.inl hB)).trans hcell, r⟩
theorem UL.row {w : World} {B : Nat} {v : Value} {xs : List Nat} (h : UL w B v xs) : ∀ r, v.ownBlock = some r → B ≤ r ∧ ∃ C, Blk w r C 56 := by
  obtain ⟨_, h | ⟨g, cap, cur, hv, hg, hc, _⟩⟩ := h
  · intro r hr; rw [h.1] at hr; cases hr
  · intro r hr; rw [hv] at hr; cases hr; exact ⟨hg, cur, hc⟩
theorem info56 : (Tryd.prog.info? 56).map (fun i => (i.zero, i.size, i.bytes)) = some (some (.int .u32 0), 1, 4) := by kernel_rfl
theorem range_at {K x : Nat} {pre rest : List Nat} (h : List.range K = pre ++ x :: rest) : x = pre.length := by
  have h1 : (List.range K)[pre.length]? = some x := by rw [h]; simp
  rw [List.getElem?_eq_some_iff] at h1
  obtain ⟨hl, h2⟩ := h1
  simpa using h2.symm
theorem layers84b (U v : Nat) (F : Nat → Nat) (w : World) : Calls Tryd.prog 84 #[.agg (gcell U F).toArray, .int .i64 (v : Int)] w fun e w' =>
    e = .returned (.func (.func 92) #[] #[.pointer (some ⟨w.heap.size + 1, 0, none⟩), .pointer (some ⟨w.heap.size, 0, none⟩)]) ∧ Blk w' w.heap.size (gcell U F).toArray 79 ∧ Blk w' (w.heap.size + 1) #[.int .i64 (v : Int)] 2 ∧ Below w.heap.size w w' := by
  refine (layers84 U v F w).mono ?_
  rintro e w' ⟨h1, rfl⟩
  exact ⟨h1, (Blk.new _ _ _ _ rfl).alloc _, Blk.new _ _ _ _ (by simp), ((Below.refl _ _).alloc (Nat.le_refl _) _).alloc (by simp) _⟩
/-- What holds ahead of each round. -/
def RelCo (w : World) (U : Nat) (F : Nat → Nat) (Ds : List Nat) (v : Value) (pre : List Nat) (r : Nat) (wr : World) : Prop :=
  Blk wr w.heap.size (gcell U F).toArray 79 ∧ Tz wr ∧ Below w.heap.size w wr ∧ Mks w.heap.size Ds wr ∧ UL wr w.heap.size v pre ∧ r < 2 ^ 17 ∧ pre ++ cpl F r = cpl F U
set_option maxRecDepth 100000 in
theorem first85 (x : Nat) (hx : x < 2 ^ 17) (h0 : x ≠ 0) (w : World) (hT : Tz w) : Calls Tryd.prog 85 #[.int .u32 (x : Int)] w fun e w' => e = .returned (.int .i64 (Lib.ctz 32 x : Nat)) ∧ w = w' := by
  have H := hidd (tz32 x (by omega) h0 w hT)
  obtain ⟨k, hk⟩ : ∃ k, k = Lib.ctz 32 x := ⟨_, rfl⟩
  rw [← hk] at H ⊢
  clear hk hT
  go_enter Tryd.func85, Tryd.ntmps85
  go_wp2_with fail
  refine H.out.mono ?_
  rintro e w' ⟨rfl, rfl⟩
  go_wp2
  go_ret
  exact ⟨rfl, rfl⟩
set_option maxRecDepth 100000 in
set_option maxHeartbeats 4000000 in
theorem components68 (U : Nat) (F : Nat → Nat) (hF : ∀ p, F p < 2 ^ 17) (hU : U < 2 ^ 17) (hlen : (cpl F U).length ≤ 17) (w : World) (hT : Tz w) (hw0 : 0 < w.heap.size) :
    Calls Tryd.prog 68 #[.agg (gcell U F).toArray] w fun e w' => ∃ v, e = .returned v ∧ UL w' w.heap.size v (cpl F U) ∧ Below w.heap.size w w' := by
  have hR0 : RelCo w U F [] (.slice none 0 0) [] U (w.alloc (.cells (gcell U F).toArray 79)) :=
    ⟨Blk.new _ _ _ _ rfl, hT.below ((Below.refl w.heap.size w).alloc (Nat.le_refl _) _) hw0, (Below.refl _ _).alloc (Nat.le_refl _) _, Mks.nil _ _, ⟨rfl, .inl ⟨rfl, rfl⟩⟩, hU, rfl⟩
  have HR0 := hidd hR0
  have HF := hidd hF
  have c0 := hR0.1.cell (j := 0) (show _ = some (Value.int .u32 (U : Int)) from rfl)
  have HSZ := hidd (size79 U F)
  have HLEN := hidd hlen
  clear hR0 hF hU hlen hT
  refine (callsIn_wide (n := 3)).1 (callsIn_of_wp_marks Tryd.func68 rfl trivial ?_ rfl)
  simp only [Tryd.ntmps68, List.size_toArray, List.length_cons, List.length_nil, Nat.reduceAdd, Nat.reduceSub, Array.replicate_succ, Array.replicate_zero, List.push_toArray, List.append_toArray, List.nil_append, List.cons_append]
  gi_wp2_with fail
  refine wpIn_loop (fun a wr => ∃ (Ds : List Nat) (v : Value) (pre : List Nat) (r : Nat) (u5 u6 u7 u10 u11 u12 u13 u14 u15 u16 u17 u18 u19 u20 u21 u22 u23 u24 u25 u26 u27 u28 : Value), a = { tmps := #[.agg (gcell U F).toArray, .pointer (some ⟨w.heap.size, 0, none⟩), .slice none 0 0, v, .int .u32 (r : Int), u5, u6, u7, .pointer (some ⟨w.heap.size, 0, none⟩), .int .u32 (U : Int), u10, u11, u12, u13, u14, u15, u16, u17, u18, u19, u20, u21, u22, u23, u24, u25, u26, u27, u28], defers := Ds.map mk } ∧ Hid (RelCo w U F Ds v pre r wr)) (fun a _ => (intOf (a.tmps.getD 4 undef)).toNat) ?_ ?_
  · exact ⟨[], _, [], U, _, _, _, _, _, _, _, _, _, _, _, _, _, _, _, _, _, _, _, _, _, _, rfl, HR0⟩
  · clear c0 HR0
    rintro a wr ⟨Ds, v, pre, r, u5, u6, u7, u10, u11, u12, u13, u14, u15, u16, u17, u18, u19, u20, u21, u22, u23, u24, u25, u26, u27, u28, rfl, HR⟩
    have hr17 := HR.out.2.2.2.2.2.1
    cases hq : ((r : Int) != 0) with
    | false =>
      have hr0 : r = 0 := by simpa using hq
      have HP := hidd (show pre = cpl F U by have h := HR.out.2.2.2.2.2.2; rw [hr0, cpl_zero, List.append_nil] at h; exact h)
      gi_wp2_with fail
      exact leave_marks Ds wr HR.out.2.2.2.1 (fun W' hb hcc => ⟨results_tmp rfl _ _ _, v, rfl, by rw [← HP.out]; exact HR.out.2.2.2.2.1.ckept hcc, HR.out.2.2.1.trans hb⟩)
    | true =>
      have hr0 : r ≠ 0 := by rintro rfl; simp at hq
      obtain ⟨vx, hvx⟩ : ∃ x, x = Lib.ctz 32 r := ⟨_, rfl⟩
      have hv17 : vx < 17 := by rw [hvx]; exact (lo_bit hr0 hr17).2.2
      have HVX := hidd hvx
      obtain ⟨K, hK, hK'⟩ := layers_end HF.out hv17
      obtain ⟨W1, hW1⟩ : ∃ W1, W1 = wr.alloc (.cells #[.int .u32 0] 56) := ⟨_, rfl⟩
      have hb1 : Below wr.heap.size wr W1 := by rw [hW1]; exact (Below.refl _ _).alloc (Nat.le_refl _) _
      have hB1 : Blk W1 wr.heap.size #[.int .u32 ((0 : Nat) : Int)] 56 := by rw [hW1]; exact Blk.new _ _ _ _ rfl
      have hs1 : W1.heap.size = wr.heap.size + 1 := by rw [hW1]; simp
      have hlt0 : w.heap.size < wr.heap.size := HR.out.1.lt
      have hG1 := HR.out.1.below hb1 HR.out.1.lt
      have hT1 := HR.out.2.1.below hb1 (by omega)
      have HFI := hidd (fun W' h => first85 r hr17 hr0 W' h)
      rw [← hvx] at HFI
      clear hvx
      have H1 := hidd (And.intro hG1 (And.intro hT1 (And.intro hB1 (And.intro hb1 hs1))))
      have HKK := hidd (And.intro hK hK')
      gi_wp2_with fail
      rw [← hW1]
      clear hG1 hT1 hB1 hb1 hs1 hW1 hK hK'
      refine wpIn_region_tail_lit ⟨fun _ => trivial, fun h => (by cases h), fun f args w R h => callsIn_wide.2 h⟩ 3 (fun w' => w' = W1.drew) (by decide) (by kernel_rfl) rfl (by kernel_rfl) (by kernel_rfl) (by kernel_rfl) (by kernel_rfl) (by kernel_rfl) ?_
      simp only [List.take_succ_cons, List.take_zero, List.drop_succ_cons, List.drop_zero, List.map_cons, List.map_nil, List.cons_append, List.nil_append, idle]
      refine qs rfl (fun KQ hKQ => ?_)
      apply Exists.intro
      refine ⟨fun w' hw' => ?_, ?_⟩
      · subst hw'; exact quietRow 79 (.tmp 1) rfl w.heap.size rfl 79 _ _ H1.out.1.drew Tryd.underlying79 rfl HSZ.out
      go_simp
      refine hKQ _ ?_
      clear hKQ KQ
      refine qs rfl (fun KQ hKQ => ?_)
      apply Exists.intro
      refine ⟨fun w' hw' => ?_, ?_⟩
      · go_simp; exact rfl
      go_simp
      refine hKQ _ ?_
      clear hKQ KQ
      refine qs rfl (fun KQ hKQ => ?_)
      apply Exists.intro
      refine ⟨fun w' hw' => ?_, ?_⟩
      · subst hw'; go_simp; exact (HFI.out _ (show Tz W1.drew from H1.out.2.1)).mono fun _ _ h => ⟨h.1, h.2.symm⟩
      go_simp
      refine hKQ _ ?_
      clear hKQ KQ
      refine qs rfl (fun KQ hKQ => ?_)
      apply Exists.intro
      refine ⟨fun w' hw' => ?_, ?_⟩
      · go_simp; exact rfl
      go_simp
      refine hKQ _ ?_
      clear hKQ KQ
      refine wpQuiet_nil ?_
      intro w' hw'
      subst hw'
      have HL4 := hidd (layers84b U vx F W1.drew)
      gi_wp2_with fail
      refine ⟨trivial, (callsIn_wide.2 HL4.out).mono ?_⟩
      rintro e w2 ⟨rfl, f1, f2, hb2⟩
      rw [show W1.drew.heap.size = wr.heap.size + 1 from H1.out.2.2.2.2] at f1 f2 hb2 ⊢
      have hb2' : Below (wr.heap.size + 1) W1 w2 := ⟨hb2.os, hb2.tape, hb2.output, hb2.size, hb2.block⟩
      have hBr2 : Below wr.heap.size wr w2 := H1.out.2.2.2.1.trans (hb2'.mono (by omega))
      have hC2 : Blk w2 wr.heap.size #[.int .u32 ((cmP F 17 vx 0 : Nat) : Int)] 56 := H1.out.2.2.1.below hb2' (by omega)
      have hT2 : Tz w2 := H1.out.2.1.below hb2' (by omega)
      have hl2 : wr.heap.size + 1 + 1 < w2.heap.size := f2.lt
      have HIT := hidd (gives92 1 (wr.heap.size + 1 + 1) (wr.heap.size + 1) U vx K F HF.out hv17 HKK.out.1 HKK.out.2 w2 f2 f1 hT2)
      have HI0 := hidd (And.intro hBr2 hC2)
      have HST := hidd (show Stab w2.heap.size (fun (p : List Nat) Wx => Below wr.heap.size wr Wx ∧ Blk Wx wr.heap.size #[.int .u32 ((cmP F 17 vx p.length : Nat) : Int)] 56) from
        fun p A A' h hb => ⟨h.1.trans (hb.mono (by omega)), h.2.below hb (by omega)⟩)
      have HPO := hidd (cmP_or (N := 17) HF.out hv17)
      have HPL := hidd (cmP_lt (N := 17) HF.out hv17)
      have HLL := hidd (cmL_lt (N := 17) HF.out hv17)
      clear f1 f2 hb2 hb2' hBr2 hC2 hT2 HFI H1 HL4
      gi_wp2_with fail
      refine range_gives rfl (enters_of Tryd.func92 (by kernel_rfl) rfl) HIT.out (fun b hb => by simp only [List.mem_cons, List.not_mem_nil, or_false] at hb; omega) (fun _ => rfl)
        (fun (p : List Nat) Wx => Below wr.heap.size wr Wx ∧ Blk Wx wr.heap.size #[.int .u32 ((cmP F 17 vx p.length : Nat) : Int)] 56) (fun _ _ => False) HST.out (fun _ _ _ h _ _ => h) HI0.out
        (fun x a' Wx => a' = { tmps := #[.agg (gcell U F).toArray, .pointer (some ⟨w.heap.size, 0, none⟩), .slice none 0 0, v, .int .u32 (r : Int), .pointer (some ⟨wr.heap.size, 0, none⟩), u6, .int .u32 (cmL F 17 vx x : Nat), .pointer (some ⟨w.heap.size, 0, none⟩), .int .u32 (U : Int), .int .u32 (r : Int), .bool true, .agg (gcell U F).toArray, .int .u32 (r : Int), .int .i64 (vx : Int), .func (.func 92) #[] #[.pointer (some ⟨wr.heap.size + 1 + 1, 0, none⟩), .pointer (some ⟨wr.heap.size + 1, 0, none⟩)], .int .i64 (x : Int), .int .u32 (cmL F 17 vx x : Nat), u18, u19, u20, u21, u22, u23, u24, u25, u26, u27, u28], defers := [] })
        (fun x a' A l' o o' h _ _ => h) ?assign ?body ?done ?stop
      case assign =>
        intro l' p x rest Wx Kx' hall hI hs hKc
        have HKc := hidd hKc
        clear hKc hI
        dsimp only [encL]
        gi_wp2
        exact HKc.out _ _ (Below.refl _ _) rfl
      case body =>
        rintro l' p x rest a' Wx hall hs hI rfl
        have hx := range_at hall
        subst hx
        have hc := hI.2.cell (j := 0) (show _ = some (Value.int .u32 ((cmP F 17 vx p.length : Nat) : Int)) from rfl)
        have hf := hI.2.fro 0
        have h1 := HPL.out p.length
        have h2 := HLL.out p.length
        have hor := u32_or_nat (cmP F 17 vx p.length) (cmL F 17 vx p.length) (by omega) (by omega)
        rw [HPO.out p.length] at hor
        have hlp : (p ++ [p.length]).length = p.length + 1 := by simp
        have KK := hidd (show Kx [wr.heap.size + 1 + 1, wr.heap.size + 1, 0] w2.heap.size Wx (Wx.setCell ⟨wr.heap.size, 0, none⟩ (.int .u32 ((cmP F 17 vx (p.length + 1) : Nat) : Int))) ∧ (Below wr.heap.size wr (Wx.setCell ⟨wr.heap.size, 0, none⟩ (.int .u32 ((cmP F 17 vx (p.length + 1) : Nat) : Int))) ∧ Blk (Wx.setCell ⟨wr.heap.size, 0, none⟩ (.int .u32 ((cmP F 17 vx (p.length + 1) : Nat) : Int))) wr.heap.size #[.int .u32 ((cmP F 17 vx (p ++ [p.length]).length : Nat) : Int)] 56) from
          ⟨⟨by simp [World.setCell], fun k hk hb => heap_setCell_other Wx ⟨wr.heap.size, 0, none⟩ k _ (by
            show k ≠ wr.heap.size
            rcases hb with hb | hb
            · omega
            · simp only [List.mem_cons, List.not_mem_nil, or_false] at hb; omega)⟩, hI.1.setCell (by show wr.heap.size ≤ wr.heap.size; omega) _, by rw [hlp]; exact hI.2.same 0 _⟩)
        clear hI h1 h2 hlp
        gi_wp2
        exact KK.out
      case stop =>
        intro D p x rest Wx hD hall h
        exact h.elim
      case done =>
        intro D Wx hD hI hdef
        obtain ⟨C, hC⟩ : ∃ C, C = cpo F r := ⟨_, rfl⟩
        have hCe : cmP F 17 vx (List.range K).length = C := by rw [List.length_range, cmP_end HF.out hv17 HKK.out.1, hC, HVX.out]; rfl
        have hC17 : C < 2 ^ 17 := by rw [hC, show cpo F r = cmC F 17 vx by rw [HVX.out]; rfl]; exact cmC_lt HF.out hv17
        obtain ⟨hI1, hI2⟩ := hI
        rw [hCe] at hI2
        have han := u32_andnot_nat r C (by omega) (by omega)
        have hless : adn r C < r := by rw [hC]; exact adn_less hr0 hr17
        have hstep : cpl F r = C :: cpl F (adn r C) := by rw [hC]; exact cpl_step hr0 hr17
        obtain ⟨r', hr'⟩ : ∃ x, x = adn r C := ⟨_, rfl⟩
        rw [← hr'] at han hless hstep
        have HTOT := hidd (show (pre ++ [C]) ++ cpl F r' = cpl F U by rw [List.append_assoc, List.singleton_append, ← hstep]; exact HR.out.2.2.2.2.2.2)
        have hpl : pre.length ≤ 17 := by
          have h1 := congrArg List.length HTOT.out
          have h2 := HLEN.out
          simp only [List.length_append, List.length_cons, List.length_nil] at h1
          omega
        have hDn : ¬ D ∈ Ds := fun h => by have := HR.out.2.2.2.1.lt h; omega
        have RW := hidd (show RelCo w U F (D :: Ds) v pre r Wx from ⟨HR.out.1.below hI1 hlt0, HR.out.2.1.below hI1 (by omega), HR.out.2.2.1.trans (hI1.mono HR.out.2.2.1.size), (HR.out.2.2.2.1.below (fun D hD => HR.out.2.2.2.1.lt hD) hI1).cons (by omega) hDn hdef, own_below HR.out.2.2.2.2.1 hI1 (Nat.le_refl _), hr17, HR.out.2.2.2.2.2.2⟩)
        have hvb : ∀ g, v.ownBlock = some g → w.heap.size < g ∧ g < wr.heap.size := fun g hg => by
          obtain ⟨h1, C', h2⟩ := HR.out.2.2.2.2.1.row g hg
          refine ⟨?_, h2.lt⟩
          rcases Nat.lt_or_ge w.heap.size g with h | h
          · exact h
          · have e : g = w.heap.size := by omega
            subst e
            have h3 := HR.out.1
            unfold Blk at h2 h3
            rw [h2] at h3
            cases h3
        have HVB := hidd hvb
        have hc0 := hI2.cell (j := 0) (show _ = some (Value.int .u32 (C : Int)) from rfl)
        have HI2 := hidd hI2
        obtain ⟨i0, hi, hz0, hz1, hz2⟩ := info_parts info56
        have hrow : Wx.ownsRow w.heap.size 56 1 v pre.length (ucl pre) := RW.out.2.2.2.2.1
        have hsW : w.heap.size ≤ Wx.heap.size := RW.out.2.2.1.size
        clear hI1 hI2 hCe hC hdef hDn hvb hstep HIT HI0 HST HPO HPL HLL HKK
        gi_wp2_with (gi_at_builtin; refine wpListIn_append_own _ rfl _ _ 86 rfl w.heap.size 56 i0 (.int .u32 0) 1 4 Tryd.underlying86 hi hz0 hz1 hz2 rfl (by decide) _ _ _ rfl (hrow.alloc _) ⟨Wx.heap.size, 0, none⟩ 1 1 [.int .u32 (C : Int)] rfl rfl (one_new _ _ _) (by simp [Value.oneCell']) (by unfold maxLen; omega) (by omega) (by simp; omega) ?_; intro v' w3 hown' hgrow _; replace hgrow : (Wx.alloc (.cells #[.int .u32 (C : Int)] 56)).grownBy w3 v.ownBlock := hgrow; have hx3 : Blk w3 wr.heap.size #[.int .u32 (C : Int)] 56 := (hgrow.block wr.heap.size (HI2.out.alloc _).lt (fun e => by have := (HVB.out _ e.symm).2; omega)).trans (HI2.out.alloc _); have hc3 := hx3.cell (j := 0) (show _ = some (Value.int .u32 (C : Int)) from rfl); have HX3 := hidd hx3; clear hx3; have HG := hidd hgrow; clear hgrow; have HO := hidd hown'; clear hown')
        have A1 : Below Wx.heap.size Wx (Wx.alloc (.cells #[.int .u32 (C : Int)] 56)) := (Below.refl _ _).alloc (Nat.le_refl _) _
        have K1 : RelCo w U F (D :: Ds) v' (pre ++ [C]) r' w3 := by
          obtain ⟨q1, q2, q3, q4, q5, q6, q7⟩ := RW.out
          refine ⟨?_, ?_, ?_, ⟨q4.1, fun E hE => ⟨(q4.2 E hE).1, ?_⟩⟩, ?_, by omega, HTOT.out⟩
          · exact (HG.out.block w.heap.size (q1.alloc _).lt (fun e => by have := (HVB.out _ e.symm).1; omega)).trans (q1.alloc _)
          · exact (q2.below A1 (by omega)).kp (HG.out.block 0 (by simp) (fun e => by have := (HVB.out _ e.symm).1; omega))
          · exact (q3.alloc hsW _).grown HG.out (by simp; omega) (fun g hg => Nat.le_of_lt (HVB.out g hg).1)
          · have h1 := (q4.2 E hE).2
            have h2 : E < Wx.heap.size := q4.lt hE
            refine (HG.out.block E (by simp; omega) (fun e => ?_)).trans ((A1.block E h2).trans h1)
            obtain ⟨_, C', h3⟩ := q5.row E e.symm
            unfold Blk at h3
            rw [h1] at h3
            cases h3
          · unfold UL
            rw [List.length_append, show ucl (pre ++ [C]) = ucl pre ++ [.int .u32 (C : Int)] by simp [ucl]]
            exact HO.out
        have KK := hidd K1
        clear K1 A1
        subst hr'
        refine ⟨⟨D :: Ds, v', pre ++ [C], adn r C, _, _, _, _, _, _, _, _, _, _, _, _, _, _, _, _, _, _, _, _, _, _, rfl, KK⟩, ?_⟩
        show (intOf (Value.int .u32 ((adn r C : Nat) : Int))).toNat < (intOf (Value.int .u32 (r : Int))).toNat
        simp [intOf]; omega
end Go.Proofs.YtkiocedhibeieaaDoor
