/- grow: one point more. -/
import Derived.Test.YtckffliiidgilaaDoorGrb
namespace Go.Proofs.YtckffliiidgilaaDoor
set_option linter.unusedVariables false
set_option linter.unusedSimpArgs false
open Go Go.RowKit Go.Shelf
attribute [local go_sem] Oper.semAt_some
theorem Away.belowB {B C D : Nat} {A A' : World} (k : Away C D A A') (h : B ≤ C) (hA : B ≤ A.heap.size) : Below B A A' :=
  ⟨k.1, k.2.1, k.2.2.1, k.2.2.2.1, fun i hi => k.2.2.2.2 i (by omega) (.inl (by omega))⟩
theorem RelGb.away {w A A' : World} {C : Array Value} {n : Int} {l : Nat} {r : Bool} {C' D : Nat} (h : RelGb w C n l r A) (k : Away C' D A A') (hC : w.heap.size + 4 ≤ C') : RelGb w C n l r A' :=
  ⟨k.blk h.1 (.inl (by omega)), k.blk h.2.1 (.inl (by omega)), k.blk h.2.2.1 (.inl (by omega)), k.blk h.2.2.2 (.inl (by omega))⟩
theorem RelGb.belowC {w A A' : World} {C : Array Value} {n : Int} {l : Nat} {r : Bool} {C' : Nat} (h : RelGb w C n l r A) (k : Below C' A A') (hC : w.heap.size + 4 ≤ C') : RelGb w C n l r A' :=
  ⟨h.1.below k (by omega), h.2.1.below k (by omega), h.2.2.1.below k (by omega), h.2.2.2.below k (by omega)⟩
theorem RelGb.putO {w A : World} {C : Array Value} {n : Int} {l : Nat} {r : Bool} (h : RelGb w C n l r A) {k : Nat} {o : Obj} (ho : A.heap[k]? = some o) (hc : o.isCells = false) (o' : Obj) : RelGb w C n l r (A.putObj k o') :=
  ⟨blk_put h.1 ho hc o', blk_put h.2.1 ho hc o', blk_put h.2.2.1 ho hc o', blk_put h.2.2.2 ho hc o'⟩
theorem sl_kept {w w' : World} {bp off : Nat} {zs : List Int} (h : SlI w (some ⟨bp, off, none⟩) zs) (e : w'.heap[bp]? = w.heap[bp]?) : SlI w' (some ⟨bp, off, none⟩) zs := by
  rcases h with h | ⟨b, o, ha, hc⟩
  · exact .inl h
  · cases ha
    refine .inr ⟨bp, off, rfl, fun j hj => ?_⟩
    have := hc j hj
    simp only [World.cell?] at this ⊢
    rw [e]; exact this
theorem ckept_false {W : World} {b : Nat} {t : TypeId} (h : Blk W b #[.bool false] t) : CKept W (W.setCell ⟨b, 0, none⟩ (.bool false)) := by
  intro k C' t' fr hk
  by_cases e : k = b
  · subst e
    have h5 := h.symm.trans hk
    have h6 : Blk (W.setCell ⟨k, 0, none⟩ (.bool false)) k #[.bool false] t := h.same 0 (.bool false)
    rw [← h5]; exact h6
  · exact (heap_setCell_other W ⟨b, 0, none⟩ k (.bool false) e).trans hk
set_option maxRecDepth 100000 in
set_option maxHeartbeats 8000000 in
theorem grow_step (zs : List Int) (K bl off cap n r : Nat) (hl : zs.length = K) (k1 : 1 ≤ K) (hK : K ≤ 4) (h2 : no1 zs K) (hsz : szP zs K = true) (hn : n ≤ 12) (IH : GrowC zs K bl off cap n r) : GrowC zs K bl off cap n (r + 1) := by
  intro N bs w nb B l J Jx n1 hNn hb hi hs hnb hbl hB hJ hJx hY h0
  have S1 := hidd (size_l28 (N : Int) (K : Int) hb)
  have HS56 := hidd (size_s56 (n := (N : Int)) (k := (K : Int)) hb (some ⟨bl, off, none⟩) K cap)
  have HIH := hidd IH
  have HCP := hidd (fun cs (hl : cs.length = N) (h : ∀ z ∈ cs, 0 ≤ z ∧ z < (K : Int)) => (show codeP (N : Int) (K : Int) bs cs = 0 from codeP_0 hi (by omega) (List.all_eq_true.2 fun z hz => inB_yes (h z hz).1 (by have := (h z hz).2; omega)) (by omega)))
  have HCO := hidd (fun cs (hl : cs.length = N) (h : ∀ z ∈ cs, 0 ≤ z ∧ z < (K : Int)) => (And.intro (puB_bys hb hK h) (col_put hb hi hl h (by omega)) : Bys (puB N bs cs) ∧ isCol ((N : Int) + 1) (K : Int) (puB N bs cs) = true))
  have HWI := hidd (fun (a : Option Addr) (lz cz : Nat) (cs : List Int) (b : Option Addr) (cb : Nat) (W : World) hs hc h0 => with49 (N : Int) (K : Int) bs hb a lz cz cs b cb W hs hc h0)
  obtain ⟨C, hC⟩ : ∃ C, C = (scl (N : Int) (K : Int) bs (some ⟨bl, off, none⟩) K cap).toArray := ⟨_, rfl⟩
  have hC0 := hidd (show C[0]? = some (.int .i64 (N : Int)) by rw [hC]; exact scl_fst 0 _ rfl)
  have H55 := hidd (fun W => at55 (N : Int) (K : Int) bs hb (some ⟨bl, off, none⟩) K cap C hC W)
  have HIT := hidd (fun bx W (hX : Blk W bx C 56) hs hbl => iter84 0 N K bs hb zs bl off cap bx W hl n1 (by omega) k1 hK h2 hsz (by rw [← hC]; exact hX) hs hbl)
  rw [← hC] at HS56 ⊢
  have HW49 := hidd (fun (cs : List Int) (b : Option Addr) (cb : Nat) (W : World) (hs : SlI W b cs) (hl : cs.length = N) (h : ∀ z ∈ cs, 0 ≤ z ∧ z < (K : Int)) =>
    (show Calls Tryd.prog 49 #[.agg C, .slice b N cb] W fun e w' => e = .returned (.agg (scl ((N : Int) + 1) (K : Int) (puB N bs cs) (some ⟨bl, off, none⟩) K cap).toArray) ∧ Below W.heap.size W w' from by
      have := HWI.out (some ⟨bl, off, none⟩) K cap cs b cb W hs (by omega) (HCP.out cs hl h)
      rw [hl, ← hC] at this
      rw [show puB N bs cs = putK bs (edg (N : Int)).toNat cs N from by unfold puB; rw [hl]]
      exact this))
  obtain ⟨E, hE⟩ : ∃ E, E = exA bs N K zs := ⟨_, rfl⟩
  have HER := hidd (fun x (hx : x ∈ E) => (show x.length = N ∧ ∀ z ∈ x, 0 ≤ z ∧ z < (K : Int) from exA_row (by rw [← hE]; exact hx)))
  rw [← hE] at HIT
  obtain ⟨G, hG⟩ : ∃ G : List Int → List (List Nat), G = fun cs => grL zs K r (N + 1) (puB N bs cs) := ⟨_, rfl⟩
  have hgr : grL zs K (r + 1) N bs = E.flatMap G := by rw [hE, hG]; rfl
  rw [hgr] at hY ⊢
  have HGE := hidd hG
  have HG0 := hidd (RelGb.new w C (n : Int) l)
  have c0 := HG0.out.1.1.cell hC0.out
  have c1 := HG0.out.1.2.1.cell (j := 0) (show _ = some (Value.int .i64 (n : Int)) from rfl)
  have hEq : ((N : Int) == (n : Int)) = false := by rw [beq_eq_false_iff_ne]; omega
  have HSL := hidd hs
  have HJ := hidd hJ
  have HJX := hidd hJx
  have HY := hidd hY
  have H0 := hidd h0
  have HNN := hidd hNn
  have HBI := hidd hi
  clear hC hY h0 hJ hJx hs IH hl h2 hsz hE hG hgr hb hNn hi
  refine (callsIn_wide (n := 2)).1 (callsIn_of_wp_marks Tryd.func93 rfl trivial ?_ rfl)
  simp only [Tryd.ntmps93, List.size_toArray, List.length_cons, List.length_nil, Nat.reduceAdd, Nat.reduceSub, Array.replicate_succ, Array.replicate_zero, List.push_toArray, List.append_toArray, List.nil_append, List.cons_append]
  gi_wp2_with (refine inLoadRow rfl 56 (.tmp 3) rfl w.heap.size rfl 56 _ _ HG0.out.1.1 Tryd.underlying56 rfl HS56.out ?_)
  obtain ⟨W4, hW4⟩ : ∃ W4, W4 = ((((w.alloc (.cells C 56)).alloc (.cells #[.int .i64 (n : Int)] 2)).alloc (.cells #[.func (.yield l) #[] #[]] 92)).alloc (.cells #[.bool false] 4)) := ⟨_, rfl⟩
  rw [← hW4] at HG0
  rw [← hW4]
  clear hW4 c0 c1
  refine ⟨trivial, (callsIn_wide.2 (H55.out _)).mono ?_⟩
  rintro e w5 ⟨rfl, kB, hb5⟩
  have H5 := hidd (show Blk w5 W4.heap.size C 56 ∧ W4.heap.size = w.heap.size + 4 ∧ W4.heap.size < w5.heap.size from ⟨kB, HG0.out.2.2, kB.lt⟩)
  have hbw : Below w.heap.size w w5 := HG0.out.2.1.trans (hb5.mono (by rw [HG0.out.2.2]; omega))
  have HR5 := hidd (show J [] w5 ∧ RelGb w C (n : Int) l false w5 ∧ Kx nb B w w5 from ⟨HJ.out _ _ _ H0.out (hbw.mono hB), HG0.out.1.below hb5, Kx.of_below hbw⟩)
  have HIT5 := hidd (HIT.out _ w5 kB (sl_kept HSL.out (hbw.block _ hbl)) (Nat.lt_of_lt_of_le hbl hbw.size))
  have HBS := hidd (show ∀ b, b ∈ [W4.heap.size, bl] → b < w5.heap.size from fun b hb => by
    have := H5.out
    simp only [List.mem_cons, List.not_mem_nil, or_false] at hb
    rcases hb with rfl | rfl <;> omega)
  clear kB hb5 hbw
  gi_wp2_with fail
  have HI := hidd (show ∀ Dx, StabD w5.heap.size Dx (fun (pre : List (List Int)) Wx => J (pre.flatMap G) Wx ∧ RelGb w C (n : Int) l false Wx ∧ Kx nb B w Wx) from
    fun Dx pre A A' h hk => by
      have := H5.out
      have hs := h.2.1.1.lt
      exact ⟨HJ.out _ _ _ h.1 (hk.belowB (by omega) (by omega)), h.2.1.away hk (by omega), Nat.le_trans h.2.2.1 hk.2.2.2.1, fun k hk1 hk2 => (hk.2.2.2.2 k (Nat.lt_of_lt_of_le hk1 h.2.2.1) (.inl (by omega))).trans (h.2.2.2 k hk1 hk2)⟩)
  refine range_givesD rfl (enters_of Tryd.func84 (by kernel_rfl) rfl) HIT5.out HBS.out (fun x B D W args h => by obtain ⟨g, h1, _⟩ := h; rw [h1]; rfl)
    (fun _ (pre : List (List Int)) Wx => J (pre.flatMap G) Wx ∧ RelGb w C (n : Int) l false Wx ∧ Kx nb B w Wx)
    (fun _ (xs : List (List Int)) Wx => (∃ pre x rest, E.flatMap G = pre ++ x :: rest ∧ Jx (pre ++ [x]) Wx) ∧ RelGb w C (n : Int) l false Wx ∧ Kx nb B w Wx)
    HI.out ?hix (fun _ => HR5.out)
    (fun x Dx a' Wx => ∃ g, a' = { tmps := #[.agg C, .int .i64 (n : Int), .func (.yield l) #[] #[], .pointer (some ⟨w.heap.size, 0, none⟩), .pointer (some ⟨w.heap.size + 1, 0, none⟩), .pointer (some ⟨w.heap.size + 1 + 1, 0, none⟩), .pointer (some ⟨w.heap.size + 1 + 1 + 1, 0, none⟩), .slice (some ⟨g, 0, none⟩) N N, .pointer (some ⟨w.heap.size, 0, none⟩), .pointer (some ⟨w.heap.size, 0, none⟩), .int .i64 (N : Int), .int .i64 (n : Int), .bool false, undef, undef, undef, undef, .agg C, .func (.func 84) #[] #[.pointer (some ⟨W4.heap.size, 0, none⟩)], .slice (some ⟨g, 0, none⟩) N N, undef, undef, undef, undef, undef, undef, undef], defers := [] } ∧ w5.heap.size ≤ g ∧ g < Dx ∧ Blk Wx g (icells x).toArray 2)
    (fun x Dx a' A l o o' ⟨g, h1, h2, h3, h4⟩ ho hc => ⟨g, h1, h2, h3, blk_put h4 ho hc o'⟩) ?assign ?body ?done ?stop
  case hix =>
    rintro Dx xs A k o o' ⟨⟨pre, x, rest, h1, h2⟩, h3, h4⟩ hk1 hk2 ho hc
    have := H5.out
    exact ⟨⟨pre, x, rest, h1, HJX.out _ _ _ h2 (below_put _ (by omega)) (CKept.put ho hc o')⟩, h3.putO ho hc o', by simpa using h4.1, fun i hi1 hi2 => (World.putObj_heap_other (by omega)).trans (h4.2 i hi1 hi2)⟩
  case assign =>
    rintro l' Dx B' pre x rest args Wx Kx' hall hI hB1 hB2 hB3 ⟨g, rfl, hg1, hg2, hg3⟩ hK
    have HK := hidd hK
    have HGG := hidd (show w5.heap.size ≤ g ∧ g < Dx ∧ Blk Wx g (icells x).toArray 2 from ⟨by omega, hg2, hg3⟩)
    clear hK hI hg1 hg2 hg3 hall
    gi_wp2
    exact HK.out _ _ (Below.refl _ _) ⟨g, by first | (simp; done) | kernel_rfl, HGG.out⟩
  case body =>
    rintro l' Dx pre x rest a' Wx hall hD1 hD2 ⟨hI1, hI2, hI3⟩ ⟨g, rfl, hg1, hg2, hg3⟩
    obtain ⟨hxl, hxr⟩ := HER.out x (by rw [hall]; simp)
    obtain ⟨hpb, hpc⟩ := HCO.out x hxl hxr
    have hGx : G x = grL zs K r (N + 1) (puB N bs x) := by rw [HGE.out]
    have hfm : (pre ++ [x]).flatMap G = pre.flatMap G ++ G x := by simp
    have hall2 : E.flatMap G = pre.flatMap G ++ (G x ++ rest.flatMap G) := by rw [hall]; simp
    obtain ⟨done, hdone⟩ : ∃ done, done = pre.flatMap G := ⟨_, rfl⟩
    rw [← hdone] at hI1 hfm hall2
    obtain ⟨pb, hpbe⟩ : ∃ pb, pb = puB N bs x := ⟨_, rfl⟩
    rw [← hpbe] at hGx hpb hpc
    have HFM := hidd hfm
    have HA2 := hidd hall2
    have HGX := hidd hGx
    have HXN := hidd hxl
    have HW := hidd (fun W' (h : Below Wx.heap.size Wx W') => (show Calls Tryd.prog 49 #[.agg C, .slice (some ⟨g, 0, none⟩) N N] W' fun e w' => e = .returned (.agg (scl ((N : Int) + 1) (K : Int) pb (some ⟨bl, off, none⟩) K cap).toArray) ∧ Below W'.heap.size W' w' from by
      rw [hpbe]
      exact HW49.out x (some ⟨g, 0, none⟩) N W' (.inr ⟨g, 0, rfl, fun j hj => by rw [Nat.zero_add]; exact (hg3.below h hg3.lt).cell (icells_get hj)⟩) hxl hxr))
    have HPB := hidd (And.intro hpb hpc)
    have HG := hidd (show J done Wx ∧ RelGb w C (n : Int) l false Wx ∧ Kx nb B w Wx ∧ w5.heap.size ≤ Dx ∧ Dx ≤ Wx.heap.size from ⟨hI1, hI2, hI3, hD1, hD2⟩)
    have HB1 := hidd (fun W' (h : Below Wx.heap.size Wx W') => (show RelGb w C (n : Int) l false W' from HG.out.2.1.below h))
    clear hI1 hI2 hI3 hg1 hg2 hg3 hall hD1 hD2 hxl hxr hpb hpc hGx hfm hall2 hdone hpbe
    gi_wp2_with fail
    refine wpIn_region_tail_lit (lets_round l' _) 5 (fun w' => Below Wx.heap.size Wx w') (by decide) (by kernel_rfl) ((Below.refl _ _).drew) (by kernel_rfl) (by kernel_rfl) (by kernel_rfl) (by kernel_rfl) (by kernel_rfl) ?_
    simp only [List.take_succ_cons, List.take_zero, List.drop_succ_cons, List.drop_zero, List.map_cons, List.map_nil, List.cons_append, List.nil_append, idle]
    refine qs rfl (fun KQ hKQ => ?_)
    apply Exists.intro
    refine ⟨fun w' hw' => ?_, ?_⟩
    · exact quietRow 56 (.tmp 3) rfl w.heap.size rfl 56 _ _ (HB1.out w' hw').1 Tryd.underlying56 rfl HS56.out
    go_simp
    refine hKQ _ ?_
    clear hKQ KQ
    refine qs rfl (fun KQ hKQ => ?_)
    apply Exists.intro
    refine ⟨fun w' hw' => ?_, ?_⟩
    · go_simp; exact rfl
    go_simp
    refine hKQ _ ?_
    clear hKQ KQ
    refine qs rfl (fun KQ hKQ => ?_)
    apply Exists.intro
    refine ⟨fun w' hw' => ?_, ?_⟩
    · go_simp; exact (HW.out w' hw').mono fun _ _ h => ⟨h.1, hw'.trans (h.2.mono hw'.size)⟩
    go_simp
    refine hKQ _ ?_
    clear hKQ KQ
    refine qs rfl (fun KQ hKQ => ?_)
    apply Exists.intro
    refine ⟨fun w' hw' => ?_, ?_⟩
    · have e1 := (HB1.out w' hw').2.1.cell (j := 0) (show _ = some (Value.int .i64 (n : Int)) from rfl); go_simp; exact rfl
    go_simp
    refine hKQ _ ?_
    clear hKQ KQ
    refine qs rfl (fun KQ hKQ => ?_)
    apply Exists.intro
    refine ⟨fun w' hw' => ?_, ?_⟩
    · have e1 := (HB1.out w' hw').2.2.1.cell (j := 0) (show _ = some (Value.func (.yield l) #[] #[]) from rfl); go_simp; exact rfl
    go_simp
    refine hKQ _ ?_
    clear hKQ KQ
    refine qs rfl (fun KQ hKQ => ?_)
    apply Exists.intro
    refine ⟨fun w' hw' => ?_, ?_⟩
    · go_simp; exact rfl
    go_simp
    refine hKQ _ ?_
    clear hKQ KQ
    refine qs rfl (fun KQ hKQ => ?_)
    apply Exists.intro
    refine ⟨fun w' hw' => ?_, ?_⟩
    · go_simp; exact rfl
    go_simp
    refine hKQ _ ?_
    clear hKQ KQ
    refine wpQuiet_nil ?_
    intro w' hw'
    have hB5 := H5.out
    have hkw : Kx nb B w w' := HG.out.2.2.1.below hw' HG.out.2.2.1.1
    have hB' : B ≤ w'.heap.size := Nat.le_trans hB hkw.1
    have hIHc := HIH.out (N + 1) pb w' nb B l (fun pre' W => J (done ++ pre') W) (fun pre' W => Jx (done ++ pre') W) (by omega) (by have := HNN.out; omega) HPB.out.1 (by have := HPB.out.2; rw [show ((N + 1 : Nat) : Int) = (N : Int) + 1 by omega]; exact this)
      (sl_kept HSL.out (hkw.2 _ hbl (.inr hnb))) hnb (Nat.lt_of_lt_of_le hbl hkw.1) hB' (fun s A A' h hb => HJ.out _ _ _ h hb) (fun s A A' h hb hc => HJX.out _ _ _ h hb hc)
      (fun pre' x' rest' W1 hW1 hall' hJ' => by
        have h5 := HY.out (done ++ pre') x' (rest' ++ rest.flatMap G) W1 (Nat.le_trans hkw.1 hW1) (by rw [HA2.out, HGX.out, hall']; simp) hJ'
        rw [List.append_assoc] at h5
        exact h5)
      (by rw [List.append_nil]; exact HJ.out _ _ _ HG.out.1 (hw'.mono (by have := HG.out; omega)))
    rw [show ((N + 1 : Nat) : Int) = (N : Int) + 1 by omega, ← HGX.out] at hIHc
    have HIC := hidd hIHc
    have HKW := hidd hkw
    have HRB := hidd (HB1.out w' hw')
    have HBX := hidd hw'
    clear hIHc hkw hw' hB'
    gi_wp2_with fail
    refine ⟨trivial, rfl, (CallsIn.inRound _ (callsIn_wide.2 HIC.out)).mono ?_⟩
    rintro e W3 ⟨hk3, ⟨rfl, hJ3⟩ | ⟨rfl, hx3⟩⟩
    · have KK := hidd (show KxD [W4.heap.size, bl] w5.heap.size Dx Wx W3 from ⟨Nat.le_trans HBX.out.size hk3.1, fun k hk hb => by
        refine (hk3.2 k (Nat.lt_of_lt_of_le hk HBX.out.size) ?_).trans (HBX.out.block k hk)
        rcases hb with hb | hb
        · exact .inl (by omega)
        · simp only [List.mem_cons, List.not_mem_nil, or_false] at hb
          rcases hb with rfl | rfl
          · exact .inl (by omega)
          · exact .inr hnb⟩)
      have HF := hidd (show J ((pre ++ [x]).flatMap G) W3 ∧ RelGb w C (n : Int) l false W3 ∧ Kx nb B w W3 from ⟨by rw [HFM.out]; exact hJ3, HRB.out.kx hk3 hB, HKW.out.trans hk3⟩)
      clear hJ3 hk3
      gi_wp2_with fail
      exact ⟨KK.out, HF.out⟩
    · have hR3 := HRB.out.kx hk3 hB
      have hk4 := HKW.out.trans hk3
      have c6 := hR3.2.2.2.cell (j := 0) (show _ = some (Value.bool false) from rfl)
      have f6 := hR3.2.2.2.fro 0
      have KK := hidd (show KxD [W4.heap.size, bl] w5.heap.size Dx Wx (W3.setCell ⟨w.heap.size + 1 + 1 + 1, 0, none⟩ (.bool false)) from ⟨by have := HBX.out.size; have := hk3.1; simp [World.setCell]; omega, fun k hk hb => by
        have hne : k ≠ w.heap.size + 1 + 1 + 1 := by
          rcases hb with hb | hb
          · omega
          · simp only [List.mem_cons, List.not_mem_nil, or_false] at hb
            rcases hb with rfl | rfl <;> omega
        rw [heap_setCell_other _ _ _ _ (by exact hne)]
        refine (hk3.2 k (Nat.lt_of_lt_of_le hk HBX.out.size) ?_).trans (HBX.out.block k hk)
        rcases hb with hb | hb
        · exact .inl (by omega)
        · simp only [List.mem_cons, List.not_mem_nil, or_false] at hb
          rcases hb with rfl | rfl
          · exact .inl (by omega)
          · exact .inr hnb⟩)
      obtain ⟨pre', x', rest', h1, h2⟩ := hx3
      have HF := hidd (show (∃ pre x rest, E.flatMap G = pre ++ x :: rest ∧ Jx (pre ++ [x]) (W3.setCell ⟨w.heap.size + 1 + 1 + 1, 0, none⟩ (.bool false))) ∧ RelGb w C (n : Int) l false (W3.setCell ⟨w.heap.size + 1 + 1 + 1, 0, none⟩ (.bool false)) ∧ Kx nb B w (W3.setCell ⟨w.heap.size + 1 + 1 + 1, 0, none⟩ (.bool false)) from
        ⟨⟨done ++ pre', x', rest' ++ rest.flatMap G, by rw [HA2.out, h1]; simp, by
          rw [List.append_assoc]
          exact HJX.out _ _ _ h2 ((Below.refl B W3).setCell (p := ⟨w.heap.size + 1 + 1 + 1, 0, none⟩) (by show B ≤ w.heap.size + 1 + 1 + 1; omega) (.bool false)) (ckept_false hR3.2.2.2)⟩, hR3.put false, hk4.setCell _ _ (by show w.heap.size ≤ w.heap.size + 1 + 1 + 1; omega)⟩)
      clear hk3 hR3 hk4 h1 h2
      gi_wp2_with fail
      exact ⟨KK.out, HF.out⟩
  case done =>
    rintro Dd Dx Wx hD0 hD1 hD2 ⟨hI1, hI2, hI3⟩ hdef
    have h5 := H5.out
    have c6 := hI2.2.2.2.cell (j := 0) (show _ = some (Value.bool false) from rfl)
    have f6 := hI2.2.2.2.fro 0
    have HP := hidd (hI2.put true)
    have HK := hidd (hI3.setCell ⟨w.heap.size + 1 + 1 + 1, 0, none⟩ (.bool true) (by show w.heap.size ≤ w.heap.size + 1 + 1 + 1; omega))
    have HF := hidd (HJ.out _ _ _ hI1 ((Below.refl B Wx).setCell (p := ⟨w.heap.size + 1 + 1 + 1, 0, none⟩) (by show B ≤ w.heap.size + 1 + 1 + 1; omega) (.bool true)))
    have hM := hidd (show (Wx.setCell ⟨w.heap.size + 1 + 1 + 1, 0, none⟩ (.bool true)).heap[Dd]? = some (.deferred (some [])) from by
      rw [heap_setCell_other _ _ _ _ (by show Dd ≠ w.heap.size + 1 + 1 + 1; omega)]; exact hdef)
    clear hI1 hI2 hI3 hdef
    gi_wp2_with fail
    refine leave_marks (B := w5.heap.size) (v := .bool true) [Dd] _ ((Mks.nil _ _).cons hD0 (by simp) hM.out) (fun W' hb hck => ?_)
    have e6 := (HP.out.belowC hb (by omega)).2.2.2.cell (j := 0) (show _ = some (Value.bool true) from rfl)
    refine ⟨by simp [results, Tryd.results93, go_sem, e6], HK.out.below hb (by omega), .inl ⟨rfl, HJ.out _ _ _ HF.out (hb.mono (by omega))⟩⟩
  case stop =>
    rintro Dd Dx pre x rest Wx hD0 hD1 hD2 hall ⟨⟨pre', x', rest', h1, h2⟩, h3, h4⟩ hdef
    have h5 := H5.out
    have hM := hidd (show Mks w5.heap.size [Dd] Wx from (Mks.nil _ _).cons hD0 (by simp) hdef)
    have HR := hidd (And.intro h2 (And.intro h3 h4))
    clear hdef hall h2 h3 h4
    gi_wp2_with fail
    refine leave_marks (B := w5.heap.size) (v := .bool false) [Dd] _ hM.out (fun W' hb hck => ?_)
    have e6 := (HR.out.2.1.belowC hb (by omega)).2.2.2.cell (j := 0) (show _ = some (Value.bool false) from rfl)
    refine ⟨by simp [results, Tryd.results93, go_sem, e6], HR.out.2.2.below hb (by omega), .inr ⟨rfl, pre', x', rest', h1, HJX.out _ _ _ HR.out.1 (hb.mono (by omega)) hck⟩⟩
/-- grow, for every number of points that are left. -/
theorem grow93 (zs : List Int) (K bl off cap n : Nat) (hl : zs.length = K) (k1 : 1 ≤ K) (hK : K ≤ 4) (h2 : no1 zs K) (hsz : szP zs K = true) (hn : n ≤ 12) : ∀ r, GrowC zs K bl off cap n r
  | 0 => grow_base zs K bl off cap n
  | r + 1 => grow_step zs K bl off cap n r hl k1 hK h2 hsz hn (grow93 zs K bl off cap n hl k1 hK h2 hsz hn r)
end Go.Proofs.YtckffliiidgilaaDoor
