/- FirstFault: the program. -/
import Derived.Test.YthmjmlmmbmdodaaImf
import Derived.Test.YthmjmlmmbmdodaaOwY
namespace Go.Proofs.Ythmjmlmmbmdodaa
set_option linter.unusedVariables false
set_option linter.unusedSimpArgs false
open Go Go.RowKit Go.Shelf
attribute [local go_sem] Oper.semAt_some
theorem slice56 (b : Nat) (w : World) : (Instr.sliceAt 56 (.pointer (some ⟨b, 0, none⟩)) none none none).run Try.prog w = .ok (.slice (some ⟨b, 0, none⟩) 3 3) w := by
  simp [Instr.sliceAt, Instr.sureAddr, Instr.sliceBounds, Instr.sliceBound, Sem.run_bind, run_underlying Try.underlying56, asIntOf, Result.andThen, Addr.add]
set_option maxRecDepth 100000 in
set_option maxHeartbeats 2000000 in
theorem impl16f (k : Int) (zs : List Int) (kind : Int) (b : Nat) (cap : Nat) (w : World) (hbw : b < w.heap.size) (hs : SlI w (some ⟨b, 0, none⟩) zs) (hl : zs.length ≤ 9223372036854775807) :
    Calls Try.prog 16 #[.int .i64 k, .slice (some ⟨b, 0, none⟩) zs.length cap, .int .i64 kind] w (LOutY w (ffList k zs kind) (ffCode k zs kind)) := by
  have hb0 : Below w.heap.size w ((w.alloc (.cells #[.slice none 0 0] 22)).alloc (.cells #[.int .i64 0] 2)) := ((Below.refl _ _).alloc (Nat.le_refl _) _).alloc (by simp) _
  have HB0 := hidd hb0
  have HSL := hidd (hs.below hb0 (Nat.le_refl _))
  have HS0 := hidd hs
  clear hs hb0
  rcases pt_cases k zs kind with hc | ⟨hc, hp, k0, k2⟩
  · have HC := hidd hc
    have HE := hidd (enO_2 hc)
    have HV := hidd (ff_2 hc)
    clear hc
    go_enter Try.func16, Try.ntmps16
    go_wp2_with (go_at_call 35; refine (enter35 _ _ _ _ _ _ HSL.out hl).mono ?_; rintro e w' ⟨rfl, rfl⟩; rw [HE.out])
    refine bodyPost_ret (v := .tuple #[.slice none 0 0, .int .i64 2]) (by simp [results, Try.results16, go_sem]) rfl ?_
    rw [HV.out.1, HV.out.2]
    exact ⟨none, 0, rfl, .inl rfl, ((Below.refl _ _).alloc (Nat.le_refl _) _).alloc (by simp) _⟩
  · have HC := hidd hc
    obtain ⟨T, tv, hkv⟩ := kindV_if kind
    have HE := hidd (enO_0 hc)
    obtain ⟨p1, p2, p3, p4⟩ := partB_bd hp
    have HT := hidd (fun (h : FT zs kind = []) => ff_4 hc h)
    have HN := hidd (fun (h : FT zs kind ≠ []) => ff_0 hc h)
    have HKV := hidd hkv
    rw [hkv] at HE
    have hl41 : zs.length ≤ 41 := by omega
    clear hc hp p4 hkv
    refine (callsIn_wide (n := 3)).1 (callsIn_of_wp_marks Try.func16 rfl trivial ?_ rfl)
    simp only [Try.ntmps16, List.size_toArray, List.length_cons, List.length_nil, Nat.reduceAdd, Nat.reduceSub, Array.replicate_succ, Array.replicate_zero, List.push_toArray, List.append_toArray, List.nil_append, List.cons_append]
    gi_wp2_with fail
    refine ⟨trivial, (callsIn_wide.2 (enter35 _ _ _ _ _ _ HSL.out hl)).mono ?_⟩
    rintro e w' ⟨rfl, rfl⟩
    rw [HE.out]
    gi_wp2_with fail
    refine ⟨trivial, (callsIn_wide.2 (of37 _ _ _ _ _ _)).mono ?_⟩
    rintro e w1 ⟨rfl, f1, f2, hb1⟩
    have hz : ((w.alloc (Obj.cells #[Value.slice none 0 0] 22)).alloc (Obj.cells #[Value.int .i64 0] 2)).heap.size = w.heap.size + 1 + 1 := by simp
    rw [hz] at f1 f2 hb1 ⊢
    have hB0 : Below w.heap.size w w1 := HB0.out.trans (hb1.mono (by omega))
    have hR1 : Blk w1 w.heap.size #[.slice none 0 0] 22 := ((Blk.new w #[.slice none 0 0] 22 _ rfl).alloc _).below hb1 (by omega)
    have hR2 : Blk w1 (w.heap.size + 1) #[.int .i64 0] 2 := (Blk.new (w.alloc (.cells #[.slice none 0 0] 22)) #[.int .i64 0] 2 _ (by simp)).below hb1 (by omega)
    have hw1 : w.heap.size + 1 + 1 + 1 < w1.heap.size := f2.lt
    have hcap : Cap2 zs kind b 0 cap (w.heap.size + 1 + 1) (w.heap.size + 1 + 1 + 1) w1 := ⟨f1, by rw [HKV.out]; exact f2, HS0.out.below hB0 (Nat.le_refl _)⟩
    have HIT := hidd (iter56 0 zs kind k0 k2 b 0 cap (w.heap.size + 1 + 1) (w.heap.size + 1 + 1 + 1) w1 hl41 (by omega) hcap)
    have HR := hidd (And.intro hR1 (And.intro hR2 hB0))
    have HS1 := hidd (show Stab w1.heap.size (fun (pre : List Flt) Wx => pre = [] ∧ Blk Wx w.heap.size #[.slice none 0 0] 22 ∧ Blk Wx (w.heap.size + 1) #[.int .i64 0] 2 ∧ Below w.heap.size w Wx) from
      fun pre A A' h hb => ⟨h.1, h.2.1.below hb (by omega), h.2.2.1.below hb (by omega), h.2.2.2.trans (hb.mono (by omega))⟩)
    have HS2 := hidd (show StabX w1.heap.size (fun (pre : List Flt) Wx => ∃ x g, pre = [x] ∧ w.heap.size ≤ g ∧ Blk Wx g #[.int .i64 x.1, .int .i64 x.2.1, .int .i64 x.2.2] 56 ∧ Blk Wx w.heap.size #[.slice (some ⟨g, 0, none⟩) 3 3] 22 ∧ Blk Wx (w.heap.size + 1) #[.int .i64 0] 2 ∧ Below w.heap.size w Wx) from
      fun pre A A' h hb hcc => by
        obtain ⟨x, g, h1, h2, h3, h4, h5, h6⟩ := h
        exact ⟨x, g, h1, h2, hcc _ _ _ _ h3, hcc _ _ _ _ h4, hcc _ _ _ _ h5, h6.trans (hb.mono (by omega))⟩)
    clear f1 f2 hb1 hz hB0 hR1 hR2 hcap
    gi_wp2_with fail
    refine range_gives rfl (enters_of Try.func56 (by kernel_rfl) rfl) HIT.out (fun c hb => by simp only [List.mem_cons, List.not_mem_nil, or_false] at hb; omega) (fun _ => rfl)
      (fun (pre : List Flt) Wx => pre = [] ∧ Blk Wx w.heap.size #[.slice none 0 0] 22 ∧ Blk Wx (w.heap.size + 1) #[.int .i64 0] 2 ∧ Below w.heap.size w Wx)
      (fun (pre : List Flt) Wx => ∃ x g, pre = [x] ∧ w.heap.size ≤ g ∧ Blk Wx g #[.int .i64 x.1, .int .i64 x.2.1, .int .i64 x.2.2] 56 ∧ Blk Wx w.heap.size #[.slice (some ⟨g, 0, none⟩) 3 3] 22 ∧ Blk Wx (w.heap.size + 1) #[.int .i64 0] 2 ∧ Below w.heap.size w Wx) HS1.out HS2.out ⟨rfl, HR.out⟩
      (fun x a' Wx => ∃ g, w1.heap.size ≤ g ∧ a' = { tmps := #[.int .i64 k, .slice (some ⟨b, 0, none⟩) zs.length cap, .int .i64 kind, undef, undef, undef, .pointer (some ⟨w.heap.size, 0, none⟩), .pointer (some ⟨w.heap.size + 1, 0, none⟩), .iface T tv, .int .i64 0, .pointer (some ⟨g, 0, none⟩), .tuple #[.iface T tv, .int .i64 0], .int .i64 k, .slice (some ⟨b, 0, none⟩) zs.length cap, .int .i64 kind, .tuple #[.iface T tv, .int .i64 0], .iface T tv, .int .i64 0, .int .i64 0, .bool false, undef, .slice (some ⟨b, 0, none⟩) zs.length cap, .iface T tv, .func (.func 56) #[] #[.pointer (some ⟨w.heap.size + 1 + 1, 0, none⟩), .pointer (some ⟨w.heap.size + 1 + 1 + 1, 0, none⟩)], .agg #[.int .i64 x.1, .int .i64 x.2.1, .int .i64 x.2.2], undef], defers := [] } ∧ Blk Wx g #[.int .i64 x.1, .int .i64 x.2.1, .int .i64 x.2.2] 56)
      (fun x a' A l' o o' h hl' ho => by obtain ⟨g, h0, h1, h2⟩ := h; exact ⟨g, h0, h1, blk_put h2 hl' ho o'⟩) ?assign ?body ?done ?stop
    case assign =>
      intro l' pre x rest Wx Kx' hall hI hs hK
      have HK := hidd hK
      have HS := hidd hs
      clear hK hI
      dsimp only [encF]
      gi_wp2
      refine HK.out _ _ ((Below.refl _ _).alloc (Nat.le_refl _) _) ⟨Wx.heap.size, HS.out, rfl, Blk.new _ _ _ _ rfl⟩
    case body =>
      rintro l' pre x rest a' Wx hall hs hI ⟨g, hg, rfl, hblk⟩
      obtain ⟨rfl, hI1, hI2, hI3⟩ := hI
      have c1 := hI1.cell (j := 0) (show _ = some (Value.slice none 0 0) from rfl)
      have e1 := hI1.fro 0
      have c2 := hI2.cell (j := 0) (show _ = some (Value.int .i64 0) from rfl)
      have e2 := hI2.fro 0
      have hsl := slice56 g
      have h12 : w.heap.size ≠ w.heap.size + 1 := by omega
      have K := hidd (show Kx [w.heap.size + 1 + 1, w.heap.size + 1 + 1 + 1, b] w1.heap.size Wx ((Wx.setCell ⟨w.heap.size, 0, none⟩ (.slice (some ⟨g, 0, none⟩) 3 3)).setCell ⟨w.heap.size + 1, 0, none⟩ (.int .i64 0)) ∧
          ∃ y q, [] ++ [x] = [y] ∧ w.heap.size ≤ q ∧ Blk ((Wx.setCell ⟨w.heap.size, 0, none⟩ (.slice (some ⟨g, 0, none⟩) 3 3)).setCell ⟨w.heap.size + 1, 0, none⟩ (.int .i64 0)) q #[.int .i64 y.1, .int .i64 y.2.1, .int .i64 y.2.2] 56 ∧ Blk ((Wx.setCell ⟨w.heap.size, 0, none⟩ (.slice (some ⟨g, 0, none⟩) 3 3)).setCell ⟨w.heap.size + 1, 0, none⟩ (.int .i64 0)) w.heap.size #[.slice (some ⟨q, 0, none⟩) 3 3] 22 ∧ Blk ((Wx.setCell ⟨w.heap.size, 0, none⟩ (.slice (some ⟨g, 0, none⟩) 3 3)).setCell ⟨w.heap.size + 1, 0, none⟩ (.int .i64 0)) (w.heap.size + 1) #[.int .i64 0] 2 ∧ Below w.heap.size w ((Wx.setCell ⟨w.heap.size, 0, none⟩ (.slice (some ⟨g, 0, none⟩) 3 3)).setCell ⟨w.heap.size + 1, 0, none⟩ (.int .i64 0)) from
        ⟨⟨by simp [World.setCell], fun q hq hb => by
          have hne : q ≠ w.heap.size ∧ q ≠ w.heap.size + 1 := by
            rcases hb with hb | hb
            · omega
            · simp only [List.mem_cons, List.not_mem_nil, or_false] at hb; omega
          rw [heap_setCell_other _ ⟨w.heap.size + 1, 0, none⟩ q _ hne.2, heap_setCell_other _ ⟨w.heap.size, 0, none⟩ q _ hne.1]⟩,
          x, g, rfl, by omega, (hblk.other _ _ (by show g ≠ w.heap.size; omega)).other _ _ (by show g ≠ w.heap.size + 1; omega), (hI1.same 0 _).other _ _ (by show w.heap.size ≠ w.heap.size + 1; omega), (hI2.other _ _ (by show w.heap.size + 1 ≠ w.heap.size; omega)).same 0 (.int .i64 0), (hI3.setCell (by show w.heap.size ≤ w.heap.size; omega) _).setCell (by show w.heap.size ≤ w.heap.size + 1; omega) _⟩)
      clear hI1 hI2 hI3 hblk hall
      gi_wp2
      exact K.out
    case done =>
      intro D Wx hD hI hdef
      obtain ⟨hI0, hI1, hI2, hI3⟩ := hI
      have c1 := hI1.cell (j := 0) (show _ = some (Value.slice none 0 0) from rfl)
      have e1 := hI1.fro 0
      have c2 := hI2.cell (j := 0) (show _ = some (Value.int .i64 0) from rfl)
      have e2 := hI2.fro 0
      have h12 : w.heap.size ≠ w.heap.size + 1 := by omega
      have hM := hidd (show Mks w1.heap.size [D] ((Wx.setCell ⟨w.heap.size, 0, none⟩ (.slice none 0 0)).setCell ⟨w.heap.size + 1, 0, none⟩ (.int .i64 4)) from (Mks.nil _ _).cons hD (by simp) (by
        rw [heap_setCell_other _ ⟨w.heap.size + 1, 0, none⟩ D _ (by show D ≠ w.heap.size + 1; omega), heap_setCell_other _ ⟨w.heap.size, 0, none⟩ D _ (by show D ≠ w.heap.size; omega)]; exact hdef))
      have hB := hidd (And.intro ((hI1.same 0 (.slice none 0 0)).other ⟨w.heap.size + 1, 0, none⟩ (.int .i64 4) (by show w.heap.size ≠ w.heap.size + 1; omega)) (And.intro ((hI2.other ⟨w.heap.size, 0, none⟩ (.slice none 0 0) (by show w.heap.size + 1 ≠ w.heap.size; omega)).same 0 (.int .i64 4)) ((hI3.setCell (p := ⟨w.heap.size, 0, none⟩) (by show w.heap.size ≤ w.heap.size; omega) (.slice none 0 0)).setCell (p := ⟨w.heap.size + 1, 0, none⟩) (by show w.heap.size ≤ w.heap.size + 1; omega) (.int .i64 4))))
      have HEE := hidd (HT.out (show FT zs kind = [] from hI0))
      clear hI0 hI1 hI2 hI3 hdef
      gi_wp2
      refine leave_marks (B := w1.heap.size) (v := .tuple #[.slice none 0 0, .int .i64 4]) [D] _ hM.out (fun W' hb hcc => ⟨?_, ?_⟩)
      · have d1 := (hB.out.1.below hb (by omega)).cell (j := 0) (show _ = some (Value.slice none 0 0) from rfl)
        have d2 := (hB.out.2.1.below hb (by omega)).cell (j := 0) (show _ = some (Value.int .i64 4) from rfl)
        simp [results, Try.results16, go_sem, d1, d2]
      · rw [HEE.out.1, HEE.out.2]
        exact ⟨none, 0, rfl, .inl rfl, hB.out.2.2.trans (hb.mono (by omega))⟩
    case stop =>
      intro D pre x rest Wx hD hall hIx hdef
      obtain ⟨y, g, hy, hg, h3, h4, h5, h6⟩ := hIx
      have hpre : pre = [] ∧ x = y := by
        cases pre with
        | nil => simp at hy; exact ⟨rfl, hy⟩
        | cons p q => simp at hy
      obtain ⟨rfl, rfl⟩ := hpre
      have hM := hidd (show Mks w1.heap.size [D] Wx from (Mks.nil _ _).cons hD (by simp) hdef)
      have hB := hidd (And.intro h3 (And.intro h4 (And.intro h5 h6)))
      have hft : FT zs kind = x :: rest := by unfold FT; rw [hall]; rfl
      have HEE := hidd (HN.out (by rw [hft]; simp))
      have HLL := hidd (show headL (FT zs kind) = [x.1, x.2.1, x.2.2] by rw [hft]; rfl)
      have hlt := h5.lt
      clear h3 h4 h5 h6 hdef hall hft hy
      gi_wp2
      refine leave_marks (B := w1.heap.size) (v := .tuple #[.slice (some ⟨g, 0, none⟩) 3 3, .int .i64 0]) [D] _ hM.out (fun W' hb hcc => ⟨?_, ?_⟩)
      · have d1 := (hB.out.2.1.below hb (by omega)).cell (j := 0) (show _ = some (Value.slice (some ⟨g, 0, none⟩) 3 3) from rfl)
        have d2 := (hB.out.2.2.1.below hb (by omega)).cell (j := 0) (show _ = some (Value.int .i64 0) from rfl)
        simp [results, Try.results16, go_sem, d1, d2]
      · rw [HEE.out.1, HEE.out.2, HLL.out]
        have hg2 : Blk W' g (icells [x.1, x.2.1, x.2.2]).toArray 56 := hcc _ _ _ _ hB.out.1
        exact ⟨some ⟨g, 0, none⟩, 3, rfl, .inr ⟨g, _, 56, hg, rfl, hg2, by simp [icells_len], fun j hj => icells_get hj⟩, hB.out.2.2.2.trans (hb.mono (by omega))⟩
end Go.Proofs.Ythmjmlmmbmdodaa
