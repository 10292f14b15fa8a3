/- FirstExtension: the program's walk, where the sizes are avoided. -/
import Derived.Test.YtckffliiidgilaaDoorFxp
namespace Go.Proofs.YtckffliiidgilaaDoor
set_option linter.unusedVariables false
set_option linter.unusedSimpArgs false
open Go Go.RowKit Go.Shelf Go.Extern.Stop Go.Stop Go.Extern
attribute [local go_sem] Oper.semAt_some
theorem below_away {B C D : Nat} {w A A' : World} (h : Below B w A) (k : Away C D A A') (hB : B ≤ C) (hw : B ≤ w.heap.size) : Below B w A' :=
  ⟨k.1.trans h.os, k.2.1.trans h.tape, k.2.2.1.trans h.output, Nat.le_trans h.size k.2.2.2.1, fun i hi => (k.2.2.2.2 i (Nat.lt_of_lt_of_le (Nat.lt_of_lt_of_le hi hw) h.size) (.inl (Nat.lt_of_lt_of_le hi hB))).trans (h.block i hi)⟩
theorem RelGx.away {w A A' : World} {v : Value} {c : Int} {C D : Nat} (h : RelGx w v c A) (k : Away C D A A') (hC : w.heap.size + 3 ≤ C) : RelGx w v c A' :=
  ⟨k.blk h.1 (.inl (by omega)), k.blk h.2.1 (.inl (by omega)), below_away h.2.2 k (by omega) (Nat.le_refl _)⟩
theorem RelGx.below {w A A' : World} {v : Value} {c : Int} {C : Nat} (h : RelGx w v c A) (k : Below C A A') (hC : w.heap.size + 3 ≤ C) : RelGx w v c A' :=
  ⟨h.1.below k (by omega), h.2.1.below k (by omega), h.2.2.trans (k.mono (by omega))⟩
set_option maxRecDepth 100000 in
set_option maxHeartbeats 4000000 in
theorem impl21_good (N K : Nat) (bs : List Nat) (hb : Bys bs) (zs : List Int) (bl off cap : Nat) (e0 : Addr) (w : World) (hs : SlI w (some ⟨bl, off, none⟩) zs) (hl : zs.length ≤ 1048576) (hE : Er w e0) (h0 : eaC 12 (N : Int) (K : Int) bs zs = 0) (hlK : zs.length = K) (n1 : 1 ≤ N) (n12 : N ≤ 12) (k1 : 1 ≤ K) (k4 : K ≤ 4) (h2 : no1 zs K) (hsp : szP zs K = true) (hbl : bl < w.heap.size) :
    Calls Tryd.prog 21 #[.agg (ccells (N : Int) (K : Int) bs).toArray, .slice (some ⟨bl, off, none⟩) K cap] w fun e w' => LOut w (fxV (N : Int) (K : Int) bs zs) (fxC (N : Int) (K : Int) bs zs) e w' := by
  have Hz := zero56
  have HS := hidd (size_c26 (N : Int) (K : Int) hb)
  have HSL := hidd hs
  have HE := hidd hE
  have HEN := hidd (fun W h hE => ea47 12 (N : Int) (K : Int) bs hb zs (some ⟨bl, off, none⟩) cap e0 W h hl hE)
  rw [h0, hlK] at HEN
  have HG := hidd (And.intro (Blk.new w (ccells (N : Int) (K : Int) bs).toArray 28 _ rfl) ((Below.refl w.heap.size w).alloc (Nat.le_refl _) (.cells (ccells (N : Int) (K : Int) bs).toArray 28)))
  have HG2 := hidd (show Blk (((w.alloc (.cells (ccells (N : Int) (K : Int) bs).toArray 28)).alloc (.cells #[.slice none 0 0] 25)).alloc (.cells #[.int .i64 0] 2)) w.heap.size (ccells (N : Int) (K : Int) bs).toArray 28 ∧ RelGx w (.slice none 0 0) 0 (((w.alloc (.cells (ccells (N : Int) (K : Int) bs).toArray 28)).alloc (.cells #[.slice none 0 0] 25)).alloc (.cells #[.int .i64 0] 2)) ∧ w.heap.size + 3 ≤ (((w.alloc (.cells (ccells (N : Int) (K : Int) bs).toArray 28)).alloc (.cells #[.slice none 0 0] 25)).alloc (.cells #[.int .i64 0] 2)).heap.size from
    ⟨(HG.out.1.alloc _).alloc _, ⟨(Blk.new _ _ _ _ (by simp)).alloc _, Blk.new _ _ _ _ (by simp), (HG.out.2.alloc (by simp) _).alloc (by simp; omega) _⟩, by simp⟩)
  obtain ⟨D, hD⟩ : ∃ D, D = (scl (N : Int) (K : Int) bs (some ⟨bl, off, none⟩) K cap).toArray := ⟨_, rfl⟩
  have hDe : eaS 12 (N : Int) (K : Int) bs zs (some ⟨bl, off, none⟩) cap = scl (N : Int) (K : Int) bs (some ⟨bl, off, none⟩) K cap := by unfold eaS; rw [if_pos h0, hlK]
  rw [hDe, ← hD] at HEN
  have HD := hidd (show (Tryd.prog.info? 56).map (·.size) = some D.size ∧ (scl 0 0 zbl none 0 0).toArray.size = D.size ∧ D.all (·.oneCell') = true from by
    rw [hD]; exact ⟨size_s56 hb _ _ _, by simp [scl_len zbl_bys, scl_len hb], scl_one⟩)
  have H55 := hidd (fun W => at55 (N : Int) (K : Int) bs hb (some ⟨bl, off, none⟩) K cap D hD W)
  have HIT := hidd (fun bx W (hX : Blk W bx D 56) hs hbl => iter84 0 N K bs hb zs bl off cap bx W hlK n1 n12 k1 k4 h2 hsp (by rw [← hD]; exact hX) hs hbl)
  have HJ := hidd (fun (W0 W1 : World) (h : RelGx w (.slice none 0 0) 0 W0) (h3 : w.heap.size + 3 ≤ W0.heap.size) (hb1 : Below W0.heap.size W0 W1) =>
    (show RelGx w (.slice none 0 0) 0 ((W1.alloc (.cells (scl 0 0 zbl none 0 0).toArray 56)).setRow W1.heap.size D) ∧ Blk ((W1.alloc (.cells (scl 0 0 zbl none 0 0).toArray 56)).setRow W1.heap.size D) W1.heap.size D 56 ∧ w.heap.size + 3 ≤ ((W1.alloc (.cells (scl 0 0 zbl none 0 0).toArray 56)).setRow W1.heap.size D).heap.size from by
      have k1 := h.1.below hb1 h.1.lt
      have k2 := h.2.1.below hb1 h.2.1.lt
      have h1 := k1.lt
      have h2 := k2.lt
      have k3 := h.2.2.trans (hb1.mono h.2.2.size)
      have hsz := hb1.size
      exact ⟨⟨(k1.alloc _).rowOther _ _ (by omega), (k2.alloc _).rowOther _ _ (by omega), below_setRow (k3.alloc (by omega) _) (by omega) _⟩, (Blk.new _ _ _ _ rfl).rowSame _, by
        have := (below_setRow (B := W1.heap.size) ((Below.refl W1.heap.size W1).alloc (Nat.le_refl _) (.cells (scl 0 0 zbl none 0 0).toArray 56)) (Nat.le_refl W1.heap.size) D).size
        omega⟩))
  obtain ⟨L, hL⟩ : ∃ L, L = exA bs N K zs := ⟨_, rfl⟩
  rw [← hL] at HIT
  have HXL := hidd (fun x (hx : x ∈ L) => (show x.length = N from by rw [hL] at hx; have := exL_len _ _ _ _ hx; simpa using this))
  have HV := hidd (show (L = [] → fxV (N : Int) (K : Int) bs zs = [] ∧ fxC (N : Int) (K : Int) bs zs = 4) ∧ (∀ x r, L = x :: r → fxV (N : Int) (K : Int) bs zs = x ∧ fxC (N : Int) (K : Int) bs zs = 0) from
    ⟨fun h => fx_none h0 (by show (exA bs N K zs).take 1 = []; rw [← hL, h]; rfl), fun x r h => fx_some (r := []) h0 (by show (exA bs N K zs).take 1 = _; rw [← hL, h]; rfl)⟩)
  obtain ⟨fv, hfv⟩ : ∃ fv, fv = fxV (N : Int) (K : Int) bs zs := ⟨_, rfl⟩
  obtain ⟨fc, hfc⟩ : ∃ fc, fc = fxC (N : Int) (K : Int) bs zs := ⟨_, rfl⟩
  rw [← hfv, ← hfc] at HV ⊢
  clear hs hE h0 HG hDe hD hL hfv hfc hsp h2 hb
  refine (callsIn_wide (n := 2)).1 (callsIn_of_wp_marks Tryd.func21 rfl trivial ?_ rfl)
  simp only [Tryd.ntmps21, List.size_toArray, List.length_cons, List.length_nil, Nat.reduceAdd, Nat.reduceSub, Array.replicate_succ, Array.replicate_zero, List.push_toArray, List.append_toArray, List.nil_append, List.cons_append]
  gi_wp2_with (refine inLoadRow rfl 28 (.tmp 2) rfl w.heap.size rfl 28 _ _ HG2.out.1 Tryd.underlying28 rfl HS.out ?_)
  refine ⟨trivial, (callsIn_wide.2 (HEN.out _ (HSL.out.below HG2.out.2.1.2.2 (Nat.le_refl _)) (HE.out.below HG2.out.2.1.2.2 HE.out.lt))).mono ?_⟩
  rintro e w1 ⟨rfl, hb1⟩
  have J := hidd (HJ.out _ w1 HG2.out.2.1 HG2.out.2.2 hb1)
  clear hb1
  obtain ⟨W4, hW4⟩ : ∃ W4, W4 = (w1.alloc (.cells (scl 0 0 zbl none 0 0).toArray 56)).setRow w1.heap.size D := ⟨_, rfl⟩
  rw [← hW4] at J
  gi_wp2_with (first
    | (refine inStoreRow rfl 56 (.tmp 6) (.tmp 13) rfl w1.heap.size _ rfl rfl 56 _ (Blk.new _ _ _ _ rfl) HD.out.1 HD.out.2.1 HD.out.2.2 ?_; rw [← hW4]; clear hW4)
    | (refine inLoadRow rfl 56 (.tmp 6) rfl w1.heap.size rfl 56 _ _ J.out.2.1 Tryd.underlying56 rfl HD.out.1 ?_))
  refine ⟨trivial, (callsIn_wide.2 (H55.out _)).mono ?_⟩
  rintro e w5 ⟨rfl, kB, hb5⟩
  have HR5 := hidd (J.out.1.below hb5 J.out.2.2)
  have H5 := hidd (show Blk w5 W4.heap.size D 56 ∧ w.heap.size + 3 ≤ W4.heap.size ∧ W4.heap.size < w5.heap.size from ⟨kB, J.out.2.2, kB.lt⟩)
  have HIT5 := hidd (HIT.out _ w5 kB (HSL.out.below HR5.out.2.2 (Nat.le_refl _)) (Nat.lt_of_lt_of_le hbl HR5.out.2.2.size))
  have HBS := hidd (show ∀ b, b ∈ [W4.heap.size, bl] → b < w5.heap.size from fun b hb => by
    simp only [List.mem_cons, List.not_mem_nil, or_false] at hb
    rcases hb with rfl | rfl
    · exact H5.out.2.2
    · exact Nat.lt_of_lt_of_le hbl HR5.out.2.2.size)
  clear kB hb5
  gi_wp2_with fail
  have HI := hidd (show ∀ Dx, StabD w5.heap.size Dx (fun (pre : List (List Int)) Wx => pre = [] ∧ RelGx w (.slice none 0 0) 0 Wx) from
    fun Dx pre A A' h hk => ⟨h.1, h.2.away hk (by have := H5.out; omega)⟩)
  have HIX := hidd (show ∀ (Dx : Nat) (xs : List (List Int)) (A : World) (l : Nat) (o o' : Obj), (∃ g x, xs = [x] ∧ RelGx w (.slice (some ⟨g, 0, none⟩) N N) 0 A ∧ Blk A g (icells x).toArray 2 ∧ w.heap.size ≤ g) → w5.heap.size ≤ l → l < Dx → A.heap[l]? = some o → o.isCells = false → (∃ g x, xs = [x] ∧ RelGx w (.slice (some ⟨g, 0, none⟩) N N) 0 (A.putObj l o') ∧ Blk (A.putObj l o') g (icells x).toArray 2 ∧ w.heap.size ≤ g) from
    fun Dx xs A l o o' ⟨g, x, h1, h2, h3, h4⟩ hl1 hl2 ho hc => ⟨g, x, h1, ⟨blk_put h2.1 ho hc o', blk_put h2.2.1 ho hc o', h2.2.2.trans (below_put _ (by have := H5.out; omega))⟩, blk_put h3 ho hc o', h4⟩)
  refine range_givesD rfl (enters_of Tryd.func84 (by kernel_rfl) rfl) HIT5.out HBS.out (fun x B D W args h => by obtain ⟨g, h1, _⟩ := h; rw [h1]; rfl)
    (fun _ (pre : List (List Int)) Wx => pre = [] ∧ RelGx w (.slice none 0 0) 0 Wx) (fun _ (xs : List (List Int)) Wx => ∃ g x, xs = [x] ∧ RelGx w (.slice (some ⟨g, 0, none⟩) N N) 0 Wx ∧ Blk Wx g (icells x).toArray 2 ∧ w.heap.size ≤ g)
    HI.out HIX.out (fun _ => ⟨rfl, HR5.out⟩)
    (fun x Dx a' Wx => ∃ g, a' = { tmps := #[.agg (ccells (N : Int) (K : Int) bs).toArray, .slice (some ⟨bl, off, none⟩) K cap, .pointer (some ⟨w.heap.size, 0, none⟩), undef, .pointer (some ⟨w.heap.size + 1, 0, none⟩), .pointer (some ⟨w.heap.size + 1 + 1, 0, none⟩), .pointer (some ⟨w1.heap.size, 0, none⟩), .int .i64 0, .slice (some ⟨g, 0, none⟩) N N, .tuple #[.agg D, .int .i64 0], .agg (ccells (N : Int) (K : Int) bs).toArray, .slice (some ⟨bl, off, none⟩) K cap, .tuple #[.agg D, .int .i64 0], .agg D, .int .i64 0, .int .i64 0, .bool false, undef, .agg D, .func (.func 84) #[] #[.pointer (some ⟨W4.heap.size, 0, none⟩)], .slice (some ⟨g, 0, none⟩) N N, undef], defers := [] } ∧ w5.heap.size ≤ g ∧ Blk Wx g (icells x).toArray 2)
    (fun x Dx a' A l o o' ⟨g, h1, h2, h3⟩ ho hc => ⟨g, h1, h2, blk_put h3 ho hc o'⟩) ?assign ?body ?done ?stop
  case assign =>
    rintro l' Dx B pre x rest args Wx Kx' hall hI hB1 hB2 hB3 ⟨g, rfl, hg1, hg2, hg3⟩ hK
    have HK := hidd hK
    have HGG := hidd (show w5.heap.size ≤ g ∧ Blk Wx g (icells x).toArray 2 from ⟨by omega, hg3⟩)
    clear hK hI hg1 hg2 hg3 hall
    gi_wp2
    exact HK.out _ _ (Below.refl _ _) ⟨g, by first | (simp; done) | kernel_rfl, HGG.out⟩
  case body =>
    rintro l' Dx pre x rest a' Wx hall hD1 hD2 hI ⟨g, rfl, hg1, hg2⟩
    have c4 := hI.2.1.cell (j := 0) (show _ = some (Value.slice none 0 0) from rfl)
    have f4 := hI.2.1.fro 0
    have c5 := hI.2.2.1.cell (j := 0) (show _ = some (Value.int .i64 0) from rfl)
    have f5 := hI.2.2.1.fro 0
    have KP := hidd (hI.2.put (.slice (some ⟨g, 0, none⟩) N N) 0)
    have hgl := hg2.lt
    have HPR := hidd hI.1
    have hne : g ≠ w.heap.size + 1 ∧ g ≠ w.heap.size + 1 + 1 := by have := H5.out; omega
    have KG := hidd (show Blk ((Wx.setCell ⟨w.heap.size + 1, 0, none⟩ (.slice (some ⟨g, 0, none⟩) N N)).setCell ⟨w.heap.size + 1 + 1, 0, none⟩ (.int .i64 0)) g (icells x).toArray 2 from (hg2.other _ _ hne.1).other _ _ hne.2)
    have KK := hidd (show KxD [W4.heap.size, bl] w5.heap.size Dx Wx ((Wx.setCell ⟨w.heap.size + 1, 0, none⟩ (.slice (some ⟨g, 0, none⟩) N N)).setCell ⟨w.heap.size + 1 + 1, 0, none⟩ (.int .i64 0)) from by
      refine ⟨by simp [World.setCell], fun k hk hb => ?_⟩
      have hne : k ≠ w.heap.size + 1 ∧ k ≠ w.heap.size + 1 + 1 := by
        have := H5.out
        rcases hb with hb | hb
        · omega
        · simp only [List.mem_cons, List.not_mem_nil, or_false] at hb
          omega
      rw [heap_setCell_other _ _ _ _ (by exact hne.2), heap_setCell_other _ _ _ _ (by exact hne.1)])
    clear hI hg2 hgl hne
    gi_wp2_with fail
    refine ⟨KK.out, g, x, by rw [HPR.out]; rfl, KP.out, KG.out, by have := H5.out; omega⟩
  case done =>
    intro Dd Dx Wx hD0 hD1 hD2 hI hdef
    have c4 := hI.2.1.cell (j := 0) (show _ = some (Value.slice none 0 0) from rfl)
    have f4 := hI.2.1.fro 0
    have c5 := hI.2.2.1.cell (j := 0) (show _ = some (Value.int .i64 0) from rfl)
    have f5 := hI.2.2.1.fro 0
    have KP := hidd (hI.2.put (.slice none 0 0) 4)
    have hM := hidd (show Mks w5.heap.size [Dd] ((Wx.setCell ⟨w.heap.size + 1, 0, none⟩ (.slice none 0 0)).setCell ⟨w.heap.size + 1 + 1, 0, none⟩ (.int .i64 4)) from
      (Mks.nil _ _).cons hD0 (by simp) (by
        have := H5.out
        rw [heap_setCell_other _ _ _ _ (by show Dd ≠ w.heap.size + 1 + 1; omega), heap_setCell_other _ _ _ _ (by show Dd ≠ w.heap.size + 1; omega)]; exact hdef))
    have HE := hidd (HV.out.1 hI.1)
    clear hI hdef
    gi_wp2_with fail
    refine leave_marks (B := w5.heap.size) (v := .tuple #[.slice none 0 0, .int .i64 4]) [Dd] _ hM.out (fun W' hb _ => ?_)
    have KB := KP.out.below hb (by have := H5.out; omega)
    have e4 := KB.1.cell (j := 0) (show _ = some (Value.slice none 0 0) from rfl)
    have e5 := KB.2.1.cell (j := 0) (show _ = some (Value.int .i64 4) from rfl)
    refine ⟨by simp [results, Tryd.results21, go_sem, e4, e5], ?_⟩
    rw [HE.out.1, HE.out.2]
    exact lout_nil rfl KB.2.2
  case stop =>
    intro Dd Dx pre x rest Wx hD0 hD1 hD2 hall ⟨g, x', hx', hI, hg, hg1⟩ hdef
    have hM := hidd (show Mks w5.heap.size [Dd] Wx from (Mks.nil _ _).cons hD0 (by simp) hdef)
    have hp : pre = [] ∧ x = x' := by
      cases pre with
      | nil => simpa using hx'
      | cons p ps => simp at hx'
    obtain ⟨rfl, rfl⟩ := hp
    have HE := hidd (HV.out.2 x rest (by rw [hall]; rfl))
    have HXN := hidd (HXL.out x (by rw [hall]; simp))
    have HR := hidd (And.intro hI hg)
    clear hI hg hdef hall hx'
    gi_wp2_with fail
    refine leave_marks (B := w5.heap.size) (v := .tuple #[.slice (some ⟨g, 0, none⟩) N N, .int .i64 0]) [Dd] _ hM.out (fun W' hb hck => ?_)
    have KB := HR.out.1.below hb (by have := H5.out; omega)
    have e4 := KB.1.cell (j := 0) (show _ = some (Value.slice (some ⟨g, 0, none⟩) N N) from rfl)
    have e5 := KB.2.1.cell (j := 0) (show _ = some (Value.int .i64 0) from rfl)
    refine ⟨by simp [results, Tryd.results21, go_sem, e4, e5], ?_⟩
    rw [HE.out.1, HE.out.2]
    refine ⟨some ⟨g, 0, none⟩, N, by rw [HXN.out], ?_, KB.2.2⟩
    exact own_of_blk (hck g _ _ _ HR.out.2) hg1
end Go.Proofs.YtckffliiidgilaaDoor
