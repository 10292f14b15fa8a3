/- My texts Fxq, Fxi, Fxp, Fxg, Fxe, Lls, Hdt, Cln, Elq, Ela, Elg, Ele, Icl, Ies, Lbi, in one. -/
import Derived.Test.YtckffliiidgilaaDoorBcf
import Derived.Deep.RegionHeld2
import Derived.Test.YtckffliiidgilaaDoorBce
import Derived.Test.YtckffliiidgilaaDoorBcd
/- FirstExtension: what it answers; the model. -/
namespace Go.Proofs.YtckffliiidgilaaDoor
set_option linter.unusedVariables false
set_option linter.unusedSimpArgs false
open Go Go.RowKit Go.Shelf
/-- The first of all, if there is one. -/
def fxL (n k : Int) (bs : List Nat) (zs : List Int) : List (List Int) := (exA bs n.toNat k.toNat zs).take 1
def fxV (n k : Int) (bs : List Nat) (zs : List Int) : List Int := if eaC 12 n k bs zs = 0 then (fxL n k bs zs).headD [] else []
def fxC (n k : Int) (bs : List Nat) (zs : List Int) : Int := if eaC 12 n k bs zs = 0 then (if fxL n k bs zs = [] then 4 else 0) else eaC 12 n k bs zs
theorem fx_bad {n k : Int} {bs : List Nat} {zs : List Int} (h : eaC 12 n k bs zs ≠ 0) : fxV n k bs zs = [] ∧ fxC n k bs zs = eaC 12 n k bs zs := by
  unfold fxV fxC; rw [if_neg h, if_neg h]; exact ⟨rfl, rfl⟩
theorem fx_none {n k : Int} {bs : List Nat} {zs : List Int} (h : eaC 12 n k bs zs = 0) (h2 : fxL n k bs zs = []) : fxV n k bs zs = [] ∧ fxC n k bs zs = 4 := by
  unfold fxV fxC; rw [if_pos h, if_pos h, h2]; exact ⟨rfl, rfl⟩
theorem fx_some {n k : Int} {bs : List Nat} {zs x : List Int} {r : List (List Int)} (h : eaC 12 n k bs zs = 0) (h2 : fxL n k bs zs = x :: r) : fxV n k bs zs = x ∧ fxC n k bs zs = 0 := by
  unfold fxV fxC; rw [if_pos h, if_pos h, h2]; exact ⟨rfl, rfl⟩
theorem fxL_mem {n k : Int} {bs : List Nat} {zs x : List Int} {r : List (List Int)} (h2 : fxL n k bs zs = x :: r) : x.length = n.toNat := by
  have : x ∈ exA bs n.toNat k.toNat zs := List.mem_of_mem_take (by show x ∈ fxL n k bs zs; rw [h2]; exact List.mem_cons_self)
  have := exL_len _ _ _ _ this
  simpa using this
theorem fxV_len {n k : Int} {bs : List Nat} {zs : List Int} : (fxV n k bs zs).length ≤ 17 := by
  by_cases h : eaC 12 n k bs zs = 0
  · obtain ⟨hsz, _, h12⟩ := eaC_ok h
    cases h2 : fxL n k bs zs with
    | nil => rw [(fx_none h h2).1]; simp
    | cons x r => rw [(fx_some h h2).1, fxL_mem h2]; omega
  · rw [(fx_bad h).1]; simp
set_option maxRecDepth 100000 in
set_option maxHeartbeats 4000000 in
theorem spec20 (n k : Int) (bs : List Nat) (hb : Bys bs) (zs : List Int) (a : Option Addr) (cap : Nat) (w : World) (hs : SlI w a zs) (hl : zs.length ≤ 1048576) :
    Calls Tryd.prog 20 #[.agg (ccells n k bs).toArray, .slice a zs.length cap] w fun e w' => LOut w (fxV n k bs zs) (fxC n k bs zs) e w' := by
  have HS := hidd (size_c26 n k hb)
  have HSL := hidd hs
  have HCO := hidd (fun W h => small51 n k bs hb zs a cap W h hl)
  have HG := hidd (And.intro (Blk.new w (ccells n k bs).toArray 28 _ rfl) ((Below.refl w.heap.size w).alloc (Nat.le_refl _) (.cells (ccells n k bs).toArray 28)))
  obtain ⟨W0, hW0⟩ : ∃ W0, W0 = w.alloc (.cells (ccells n k bs).toArray 28) := ⟨_, rfl⟩
  rw [← hW0] at HG
  by_cases h0 : eaC 12 n k bs zs = 0
  · obtain ⟨hsz, hav, hn12⟩ := eaC_ok h0
    obtain ⟨hi, ho⟩ := szCode_ok hsz
    obtain ⟨n1, n2, k1, k2⟩ := isCol_bd hi
    obtain ⟨hlk, hsp⟩ := szOk_bd ho
    obtain ⟨N, rfl⟩ := Int.eq_ofNat_of_zero_le (show 0 ≤ n by omega)
    obtain ⟨K, rfl⟩ := Int.eq_ofNat_of_zero_le (show 0 ≤ k by omega)
    have hlK : zs.length = K := by omega
    rw [hlK] at hsp
    have HAL := hidd (fun W h => all54 N K 1 bs hb zs a cap hlK (by omega) (by omega) (by omega) (by omega) (no1_of_av (by omega) hsp hav) hsp (by omega) (by omega) W h)
    rw [show (exA bs N K zs).take 1 = fxL (N : Int) (K : Int) bs zs from rfl] at HAL
    rw [h0, hlK] at HCO
    rw [hlK]
    cases h2 : fxL (N : Int) (K : Int) bs zs with
    | nil =>
      obtain ⟨hv, hc⟩ := fx_none h0 h2
      rw [hv, hc]
      rw [h2] at HAL
      clear hv hc hsz hav hi ho hlk hsp h0 hl hs h2
      go_enter Tryd.func20, Tryd.ntmps20
      go_upto_region 1 with fail
      rw [← hW0]
      clear hW0
      go_wp2_with (refine wpList_load_row rfl 28 (.tmp 2) rfl w.heap.size rfl 28 _ (0,0) _ HG.out.1 Tryd.underlying28 rfl HS.out ?_)
      refine (HCO.out _ (HSL.out.below HG.out.2 (Nat.le_refl _))).mono ?_
      rintro e w1 ⟨rfl, hb1⟩
      have G1 := hidd (And.intro (HG.out.1.below hb1 HG.out.1.lt) (HG.out.2.trans (hb1.mono HG.out.2.size)))
      clear hb1
      go_wp2_with (refine wpList_load_row rfl 28 (.tmp 2) rfl w.heap.size rfl 28 _ (0,0) _ G1.out.1 Tryd.underlying28 rfl HS.out ?_)
      refine (HAL.out _ (HSL.out.below G1.out.2 (Nat.le_refl _))).mono ?_
      rintro r w2 ⟨v, rfl, hL, hb2⟩
      obtain ⟨g3, cap3, _, rfl, _⟩ := hL.at
      have G2 := hidd (G1.out.2.trans (hb2.mono G1.out.2.size))
      clear hb2 hL
      go_wp2_with fail
      go_ret2
      exact lout_nil rfl G2.out
    | cons x r =>
      obtain ⟨hv, hc⟩ := fx_some h0 h2
      have HXL := hidd (show x.length = N from fxL_mem h2)
      rw [hv, hc]
      obtain ⟨L, hL⟩ : ∃ L, L = fxL (N : Int) (K : Int) bs zs := ⟨_, rfl⟩
      have hLl : L.length = 1 := by
        have h3 : L.length ≤ 1 := by rw [hL]; unfold fxL; simp; omega
        have h4 : L = x :: r := by rw [hL, h2]
        rw [h4] at h3 ⊢; simp at h3 ⊢; exact h3
      have HL0 := hidd (show L[0]? = some x by rw [hL, h2]; rfl)
      have HLL := hidd hLl
      rw [← hL] at HAL
      clear hv hc hsz hav hi ho hlk hsp h0 hl hs h2 hLl hL
      go_enter Tryd.func20, Tryd.ntmps20
      go_upto_region 1 with fail
      rw [← hW0]
      clear hW0
      go_wp2_with (refine wpList_load_row rfl 28 (.tmp 2) rfl w.heap.size rfl 28 _ (0,0) _ HG.out.1 Tryd.underlying28 rfl HS.out ?_)
      refine (HCO.out _ (HSL.out.below HG.out.2 (Nat.le_refl _))).mono ?_
      rintro e w1 ⟨rfl, hb1⟩
      have G1 := hidd (And.intro (HG.out.1.below hb1 HG.out.1.lt) (HG.out.2.trans (hb1.mono HG.out.2.size)))
      clear hb1
      go_wp2_with (refine wpList_load_row rfl 28 (.tmp 2) rfl w.heap.size rfl 28 _ (0,0) _ G1.out.1 Tryd.underlying28 rfl HS.out ?_)
      refine (HAL.out _ (HSL.out.below G1.out.2 (Nat.le_refl _))).mono ?_
      rintro e w2 ⟨v, rfl, hL, hb2⟩
      obtain ⟨g3, cap3, xs, rfl, hg3, _, _, _, hcell, hrow⟩ := hL.at
      obtain ⟨a3, c3, hx3, ho3⟩ := hrow 0 x HL0.out
      have e1 := hcell 0 _ hx3
      rw [HLL.out]
      rw [HXL.out] at e1
      have G2 := hidd (And.intro (G1.out.2.trans (hb2.mono G1.out.2.size)) (ho3.baseR (R := w.heap.size) G1.out.2.size))
      clear hb2 hL hrow ho3 hcell hx3
      go_wp2_with fail
      go_ret2
      exact ⟨_, _, by rw [HXL.out]; rfl, G2.out.2, G2.out.1⟩
  · obtain ⟨hv, hc⟩ := fx_bad h0
    rw [hv, hc]
    obtain ⟨cd, hcd⟩ : ∃ cd, cd = eaC 12 n k bs zs := ⟨_, rfl⟩
    rw [← hcd] at HCO h0 ⊢
    have hz : (cd != 0) = true := by rw [bne_iff_ne]; exact h0
    clear hs hcd hl h0 hv hc
    go_enter Tryd.func20, Tryd.ntmps20
    go_upto_region 1 with fail
    rw [← hW0]
    clear hW0
    go_wp2_with (refine wpList_load_row rfl 28 (.tmp 2) rfl w.heap.size rfl 28 _ (0,0) _ HG.out.1 Tryd.underlying28 rfl HS.out ?_)
    refine (HCO.out _ (HSL.out.below HG.out.2 (Nat.le_refl _))).mono ?_
    rintro e w1 ⟨rfl, hb1⟩
    have G := hidd (HG.out.2.trans (hb1.mono HG.out.2.size))
    clear hb1
    go_wp2_with fail
    go_ret2
    exact lout_nil rfl G.out
end Go.Proofs.YtckffliiidgilaaDoor
/- FirstExtension: the program. -/
namespace Go.Proofs.YtckffliiidgilaaDoor
set_option linter.unusedVariables false
set_option linter.unusedSimpArgs false
open Go Go.RowKit Go.Shelf
attribute [local go_sem] Oper.semAt_some
theorem Below.away {B C D : Nat} {w A A' : World} (h : Below B w A) (k : Away C D A A') (hB : B ≤ C) (hw : B ≤ w.heap.size) : Below B w A' :=
  ⟨k.1.trans h.os, k.2.1.trans h.tape, k.2.2.1.trans h.output, Nat.le_trans h.size k.2.2.2.1, fun i hi => (k.2.2.2.2 i (Nat.lt_of_lt_of_le (Nat.lt_of_lt_of_le hi hw) h.size) (.inl (Nat.lt_of_lt_of_le hi hB))).trans (h.block i hi)⟩
theorem blk_put {A : World} {b l : Nat} {C : Array Value} {t : TypeId} {o : Obj} (h : Blk A b C t) (hl : A.heap[l]? = some o) (ho : o.isCells = false) (o' : Obj) : Blk (A.putObj l o') b C t :=
  (World.putObj_heap_other (fun e => by subst e; rw [show A.heap[b]? = _ from h] at hl; cases hl; cases ho)).trans h
theorem at55 (n k : Int) (bs : List Nat) (hb : Bys bs) (a : Option Addr) (K cap : Nat) (C : Array Value) (hC : C = (scl n k bs a K cap).toArray) (w : World) :
    Calls Tryd.prog 55 #[.agg C] w fun e w' => e = .returned (.func (.func 84) #[] #[.pointer (some ⟨w.heap.size, 0, none⟩)]) ∧ Blk w' w.heap.size C 56 ∧ Below w.heap.size w w' := by
  have hmf : ∀ (fn : Fn) (first cap : Array Value) (w : World), (Instr.makeFunc fn first cap).run Tryd.prog w = .ok (.func fn first cap) w := fun _ _ _ _ => rfl
  have hbb := hidd ((Below.refl w.heap.size w).alloc (Nat.le_refl _) (.cells C 56))
  have h1 := hidd (Blk.new w C 56 _ rfl)
  clear hC
  go_enter Tryd.func55, Tryd.ntmps55
  go_wp2_with fail
  go_ret
  exact ⟨rfl, h1.out, hbb.out⟩
end Go.Proofs.YtckffliiidgilaaDoor
/- FirstExtension: the program's walk. -/
namespace Go.Proofs.YtckffliiidgilaaDoor
set_option linter.unusedVariables false
set_option linter.unusedSimpArgs false
open Go Go.RowKit Go.Shelf Go.Extern.Stop Go.Stop Go.Extern
attribute [local go_sem] Oper.semAt_some
/-- The two results in their cells, what was there before, and the extensions' own memory. -/
def RelGx (w : World) (v : Value) (c : Int) (W : World) : Prop := Blk W (w.heap.size + 1) #[v] 25 ∧ Blk W (w.heap.size + 1 + 1) #[.int .i64 c] 2 ∧ Below w.heap.size w W
theorem RelGx.put {w W : World} {v : Value} {c : Int} (h : RelGx w v c W) (v' : Value) (c' : Int) : RelGx w v' c' ((W.setCell ⟨w.heap.size + 1, 0, none⟩ v').setCell ⟨w.heap.size + 1 + 1, 0, none⟩ (.int .i64 c')) := by
  have h1 := (h.1.same 0 v').other ⟨w.heap.size + 1 + 1, 0, none⟩ (.int .i64 c') (by show w.heap.size + 1 ≠ w.heap.size + 1 + 1; omega)
  have h2 := (h.2.1.other ⟨w.heap.size + 1, 0, none⟩ v' (by show w.heap.size + 1 + 1 ≠ w.heap.size + 1; omega)).same 0 (.int .i64 c')
  exact ⟨h1, h2, (h.2.2.setCell (by show w.heap.size ≤ w.heap.size + 1; omega) _).setCell (by show w.heap.size ≤ w.heap.size + 1 + 1; omega) _⟩
set_option maxRecDepth 100000 in
set_option maxHeartbeats 4000000 in
theorem impl21_bad (n k : Int) (bs : List Nat) (hb : Bys bs) (zs : List Int) (a : Option Addr) (cap : Nat) (e0 : Addr) (w : World) (hs : SlI w a zs) (hl : zs.length ≤ 1048576) (hE : Er w e0) (h0 : eaC 12 n k bs zs ≠ 0) :
    Calls Tryd.prog 21 #[.agg (ccells n k bs).toArray, .slice a zs.length cap] w fun e w' => LOut w [] (eaC 12 n k bs zs) e w' := by
  have Hz := zero56
  have HS := hidd (size_c26 n k hb)
  have HSL := hidd hs
  have HE := hidd hE
  have HEN := hidd (fun W h hE => ea47 12 n k bs hb zs a cap e0 W h hl hE)
  have HG := hidd (And.intro (Blk.new w (ccells n k bs).toArray 28 _ rfl) ((Below.refl w.heap.size w).alloc (Nat.le_refl _) (.cells (ccells n k bs).toArray 28)))
  have HG2 := hidd (show Blk (((w.alloc (.cells (ccells n k bs).toArray 28)).alloc (.cells #[.slice none 0 0] 25)).alloc (.cells #[.int .i64 0] 2)) w.heap.size (ccells n k bs).toArray 28 ∧ RelGx w (.slice none 0 0) 0 (((w.alloc (.cells (ccells n k bs).toArray 28)).alloc (.cells #[.slice none 0 0] 25)).alloc (.cells #[.int .i64 0] 2)) from
    ⟨(HG.out.1.alloc _).alloc _, (Blk.new _ _ _ _ (by simp)).alloc _, Blk.new _ _ _ _ (by simp), (HG.out.2.alloc (by simp) _).alloc (by simp; omega) _⟩)
  obtain ⟨W0, hW0⟩ : ∃ W0, W0 = ((w.alloc (.cells (ccells n k bs).toArray 28)).alloc (.cells #[.slice none 0 0] 25)).alloc (.cells #[.int .i64 0] 2) := ⟨_, rfl⟩
  rw [← hW0] at HG2
  obtain ⟨D, hD⟩ : ∃ D, D = (eaS 12 n k bs zs a cap).toArray := ⟨_, rfl⟩
  obtain ⟨cd, hcd⟩ : ∃ cd, cd = eaC 12 n k bs zs := ⟨_, rfl⟩
  have hDs : (Tryd.prog.info? 56).map (·.size) = some D.size ∧ (scl 0 0 zbl none 0 0).toArray.size = D.size ∧ D.all (·.oneCell') = true := by
    rw [hD]; unfold eaS
    split
    · exact ⟨size_s56 hb _ _ _, by simp [scl_len zbl_bys, scl_len hb], scl_one⟩
    · exact ⟨size_s56 zbl_bys _ _ _, rfl, scl_one⟩
  have HD := hidd hDs
  rw [← hD, ← hcd] at HEN
  rw [← hcd] at h0 ⊢
  have hne : (cd != 0) = true := by rw [bne_iff_ne]; exact h0
  have HJ := hidd (fun (W1 : World) (hb1 : Below W0.heap.size W0 W1) =>
    (show RelGx w (.slice none 0 0) 0 ((W1.alloc (.cells (scl 0 0 zbl none 0 0).toArray 56)).setRow W1.heap.size D) from by
      have k1 := HG2.out.2.1.below hb1 HG2.out.2.1.lt
      have k2 := HG2.out.2.2.1.below hb1 HG2.out.2.2.1.lt
      have h1 := k1.lt
      have h2 := k2.lt
      have k3 := HG2.out.2.2.2.trans (hb1.mono HG2.out.2.2.2.size)
      exact ⟨(k1.alloc _).rowOther _ _ (by omega), (k2.alloc _).rowOther _ _ (by omega), below_setRow (k3.alloc (by omega) _) (by omega) _⟩))
  clear hDs hs hE hD hcd h0 HG
  go_enter Tryd.func21, Tryd.ntmps21
  go_upto_region 1 with fail
  rw [← hW0]
  clear hW0
  go_wp2_with (refine wpList_load_row rfl 28 (.tmp 2) rfl w.heap.size rfl 28 _ (0,0) _ HG2.out.1 Tryd.underlying28 rfl HS.out ?_)
  refine (HEN.out _ (HSL.out.below HG2.out.2.2.2 (Nat.le_refl _)) (HE.out.below HG2.out.2.2.2 HE.out.lt)).mono ?_
  rintro e w1 ⟨rfl, hb1⟩
  have J := hidd (HJ.out w1 hb1)
  clear hb1
  obtain ⟨W4, hW4⟩ : ∃ W4, W4 = (w1.alloc (.cells (scl 0 0 zbl none 0 0).toArray 56)).setRow w1.heap.size D := ⟨_, rfl⟩
  rw [← hW4] at J
  go_upto_region 2 with (refine wpList_store_row rfl 56 (.tmp 6) (.tmp 13) rfl w1.heap.size _ rfl rfl 56 _ (Blk.new _ _ _ _ rfl) HD.out.1 HD.out.2.1 HD.out.2.2 ?_)
  rw [← hW4]
  clear hW4
  have c4 := J.out.1.cell (j := 0) (show _ = some (Value.slice none 0 0) from rfl)
  have f4 := J.out.1.fro 0
  have c5 := J.out.2.1.cell (j := 0) (show _ = some (Value.int .i64 0) from rfl)
  have f5 := J.out.2.1.fro 0
  go_wp2_with fail
  have K := hidd (J.out.put (.slice none 0 0) cd)
  have e4 := K.out.1.cell (j := 0) (show _ = some (Value.slice none 0 0) from rfl)
  have e5 := K.out.2.1.cell (j := 0) (show _ = some (Value.int .i64 cd) from rfl)
  refine bodyPost_ret (v := .tuple #[.slice none 0 0, .int .i64 cd]) (by simp [results, Tryd.results21, go_sem, e4, e5]) rfl ?_
  exact lout_nil rfl K.out.2.2
end Go.Proofs.YtckffliiidgilaaDoor
/- FirstExtension: the program's walk, where the sizes are avoided. -/
namespace Go.Proofs.YtckffliiidgilaaDoor
set_option linter.unusedVariables false
set_option linter.unusedSimpArgs false
open Go Go.RowKit Go.Shelf Go.Extern.Stop Go.Stop Go.Extern
attribute [local go_sem] Oper.semAt_some
theorem below_away {B C D : Nat} {w A A' : World} (h : Below B w A) (k : Away C D A A') (hB : B ≤ C) (hw : B ≤ w.heap.size) : Below B w A' :=
  ⟨k.1.trans h.os, k.2.1.trans h.tape, k.2.2.1.trans h.output, Nat.le_trans h.size k.2.2.2.1, fun i hi => (k.2.2.2.2 i (Nat.lt_of_lt_of_le (Nat.lt_of_lt_of_le hi hw) h.size) (.inl (Nat.lt_of_lt_of_le hi hB))).trans (h.block i hi)⟩
theorem RelGx.away {w A A' : World} {v : Value} {c : Int} {C D : Nat} (h : RelGx w v c A) (k : Away C D A A') (hC : w.heap.size + 3 ≤ C) : RelGx w v c A' :=
  ⟨k.blk h.1 (.inl (by omega)), k.blk h.2.1 (.inl (by omega)), below_away h.2.2 k (by omega) (Nat.le_refl _)⟩
theorem RelGx.below {w A A' : World} {v : Value} {c : Int} {C : Nat} (h : RelGx w v c A) (k : Below C A A') (hC : w.heap.size + 3 ≤ C) : RelGx w v c A' :=
  ⟨h.1.below k (by omega), h.2.1.below k (by omega), h.2.2.trans (k.mono (by omega))⟩
set_option maxRecDepth 100000 in
set_option maxHeartbeats 4000000 in
theorem impl21_good (N K : Nat) (bs : List Nat) (hb : Bys bs) (zs : List Int) (bl off cap : Nat) (e0 : Addr) (w : World) (hs : SlI w (some ⟨bl, off, none⟩) zs) (hl : zs.length ≤ 1048576) (hE : Er w e0) (h0 : eaC 12 (N : Int) (K : Int) bs zs = 0) (hlK : zs.length = K) (n1 : 1 ≤ N) (n12 : N ≤ 12) (k1 : 1 ≤ K) (k4 : K ≤ 4) (h2 : no1 zs K) (hsp : szP zs K = true) (hbl : bl < w.heap.size) :
    Calls Tryd.prog 21 #[.agg (ccells (N : Int) (K : Int) bs).toArray, .slice (some ⟨bl, off, none⟩) K cap] w fun e w' => LOut w (fxV (N : Int) (K : Int) bs zs) (fxC (N : Int) (K : Int) bs zs) e w' := by
  have Hz := zero56
  have HS := hidd (size_c26 (N : Int) (K : Int) hb)
  have HSL := hidd hs
  have HE := hidd hE
  have HEN := hidd (fun W h hE => ea47 12 (N : Int) (K : Int) bs hb zs (some ⟨bl, off, none⟩) cap e0 W h hl hE)
  rw [h0, hlK] at HEN
  have HG := hidd (And.intro (Blk.new w (ccells (N : Int) (K : Int) bs).toArray 28 _ rfl) ((Below.refl w.heap.size w).alloc (Nat.le_refl _) (.cells (ccells (N : Int) (K : Int) bs).toArray 28)))
  have HG2 := hidd (show Blk (((w.alloc (.cells (ccells (N : Int) (K : Int) bs).toArray 28)).alloc (.cells #[.slice none 0 0] 25)).alloc (.cells #[.int .i64 0] 2)) w.heap.size (ccells (N : Int) (K : Int) bs).toArray 28 ∧ RelGx w (.slice none 0 0) 0 (((w.alloc (.cells (ccells (N : Int) (K : Int) bs).toArray 28)).alloc (.cells #[.slice none 0 0] 25)).alloc (.cells #[.int .i64 0] 2)) ∧ w.heap.size + 3 ≤ (((w.alloc (.cells (ccells (N : Int) (K : Int) bs).toArray 28)).alloc (.cells #[.slice none 0 0] 25)).alloc (.cells #[.int .i64 0] 2)).heap.size from
    ⟨(HG.out.1.alloc _).alloc _, ⟨(Blk.new _ _ _ _ (by simp)).alloc _, Blk.new _ _ _ _ (by simp), (HG.out.2.alloc (by simp) _).alloc (by simp; omega) _⟩, by simp⟩)
  obtain ⟨D, hD⟩ : ∃ D, D = (scl (N : Int) (K : Int) bs (some ⟨bl, off, none⟩) K cap).toArray := ⟨_, rfl⟩
  have hDe : eaS 12 (N : Int) (K : Int) bs zs (some ⟨bl, off, none⟩) cap = scl (N : Int) (K : Int) bs (some ⟨bl, off, none⟩) K cap := by unfold eaS; rw [if_pos h0, hlK]
  rw [hDe, ← hD] at HEN
  have HD := hidd (show (Tryd.prog.info? 56).map (·.size) = some D.size ∧ (scl 0 0 zbl none 0 0).toArray.size = D.size ∧ D.all (·.oneCell') = true from by
    rw [hD]; exact ⟨size_s56 hb _ _ _, by simp [scl_len zbl_bys, scl_len hb], scl_one⟩)
  have H55 := hidd (fun W => at55 (N : Int) (K : Int) bs hb (some ⟨bl, off, none⟩) K cap D hD W)
  have HIT := hidd (fun bx W (hX : Blk W bx D 56) hs hbl => iter84 0 N K bs hb zs bl off cap bx W hlK n1 n12 k1 k4 h2 hsp (by rw [← hD]; exact hX) hs hbl)
  have HJ := hidd (fun (W0 W1 : World) (h : RelGx w (.slice none 0 0) 0 W0) (h3 : w.heap.size + 3 ≤ W0.heap.size) (hb1 : Below W0.heap.size W0 W1) =>
    (show RelGx w (.slice none 0 0) 0 ((W1.alloc (.cells (scl 0 0 zbl none 0 0).toArray 56)).setRow W1.heap.size D) ∧ Blk ((W1.alloc (.cells (scl 0 0 zbl none 0 0).toArray 56)).setRow W1.heap.size D) W1.heap.size D 56 ∧ w.heap.size + 3 ≤ ((W1.alloc (.cells (scl 0 0 zbl none 0 0).toArray 56)).setRow W1.heap.size D).heap.size from by
      have k1 := h.1.below hb1 h.1.lt
      have k2 := h.2.1.below hb1 h.2.1.lt
      have h1 := k1.lt
      have h2 := k2.lt
      have k3 := h.2.2.trans (hb1.mono h.2.2.size)
      have hsz := hb1.size
      exact ⟨⟨(k1.alloc _).rowOther _ _ (by omega), (k2.alloc _).rowOther _ _ (by omega), below_setRow (k3.alloc (by omega) _) (by omega) _⟩, (Blk.new _ _ _ _ rfl).rowSame _, by
        have := (below_setRow (B := W1.heap.size) ((Below.refl W1.heap.size W1).alloc (Nat.le_refl _) (.cells (scl 0 0 zbl none 0 0).toArray 56)) (Nat.le_refl W1.heap.size) D).size
        omega⟩))
  obtain ⟨L, hL⟩ : ∃ L, L = exA bs N K zs := ⟨_, rfl⟩
  rw [← hL] at HIT
  have HXL := hidd (fun x (hx : x ∈ L) => (show x.length = N from by rw [hL] at hx; have := exL_len _ _ _ _ hx; simpa using this))
  have HV := hidd (show (L = [] → fxV (N : Int) (K : Int) bs zs = [] ∧ fxC (N : Int) (K : Int) bs zs = 4) ∧ (∀ x r, L = x :: r → fxV (N : Int) (K : Int) bs zs = x ∧ fxC (N : Int) (K : Int) bs zs = 0) from
    ⟨fun h => fx_none h0 (by show (exA bs N K zs).take 1 = []; rw [← hL, h]; rfl), fun x r h => fx_some (r := []) h0 (by show (exA bs N K zs).take 1 = _; rw [← hL, h]; rfl)⟩)
  obtain ⟨fv, hfv⟩ : ∃ fv, fv = fxV (N : Int) (K : Int) bs zs := ⟨_, rfl⟩
  obtain ⟨fc, hfc⟩ : ∃ fc, fc = fxC (N : Int) (K : Int) bs zs := ⟨_, rfl⟩
  rw [← hfv, ← hfc] at HV ⊢
  clear hs hE h0 HG hDe hD hL hfv hfc hsp h2 hb
  refine (callsIn_wide (n := 2)).1 (callsIn_of_wp_marks Tryd.func21 rfl trivial ?_ rfl)
  simp only [Tryd.ntmps21, List.size_toArray, List.length_cons, List.length_nil, Nat.reduceAdd, Nat.reduceSub, Array.replicate_succ, Array.replicate_zero, List.push_toArray, List.append_toArray, List.nil_append, List.cons_append]
  gi_wp2_with (refine inLoadRow rfl 28 (.tmp 2) rfl w.heap.size rfl 28 _ _ HG2.out.1 Tryd.underlying28 rfl HS.out ?_)
  refine ⟨trivial, (callsIn_wide.2 (HEN.out _ (HSL.out.below HG2.out.2.1.2.2 (Nat.le_refl _)) (HE.out.below HG2.out.2.1.2.2 HE.out.lt))).mono ?_⟩
  rintro e w1 ⟨rfl, hb1⟩
  have J := hidd (HJ.out _ w1 HG2.out.2.1 HG2.out.2.2 hb1)
  clear hb1
  obtain ⟨W4, hW4⟩ : ∃ W4, W4 = (w1.alloc (.cells (scl 0 0 zbl none 0 0).toArray 56)).setRow w1.heap.size D := ⟨_, rfl⟩
  rw [← hW4] at J
  gi_wp2_with (first
    | (refine inStoreRow rfl 56 (.tmp 6) (.tmp 13) rfl w1.heap.size _ rfl rfl 56 _ (Blk.new _ _ _ _ rfl) HD.out.1 HD.out.2.1 HD.out.2.2 ?_; rw [← hW4]; clear hW4)
    | (refine inLoadRow rfl 56 (.tmp 6) rfl w1.heap.size rfl 56 _ _ J.out.2.1 Tryd.underlying56 rfl HD.out.1 ?_))
  refine ⟨trivial, (callsIn_wide.2 (H55.out _)).mono ?_⟩
  rintro e w5 ⟨rfl, kB, hb5⟩
  have HR5 := hidd (J.out.1.below hb5 J.out.2.2)
  have H5 := hidd (show Blk w5 W4.heap.size D 56 ∧ w.heap.size + 3 ≤ W4.heap.size ∧ W4.heap.size < w5.heap.size from ⟨kB, J.out.2.2, kB.lt⟩)
  have HIT5 := hidd (HIT.out _ w5 kB (HSL.out.below HR5.out.2.2 (Nat.le_refl _)) (Nat.lt_of_lt_of_le hbl HR5.out.2.2.size))
  have HBS := hidd (show ∀ b, b ∈ [W4.heap.size, bl] → b < w5.heap.size from fun b hb => by
    simp only [List.mem_cons, List.not_mem_nil, or_false] at hb
    rcases hb with rfl | rfl
    · exact H5.out.2.2
    · exact Nat.lt_of_lt_of_le hbl HR5.out.2.2.size)
  clear kB hb5
  gi_wp2_with fail
  have HI := hidd (show ∀ Dx, StabD w5.heap.size Dx (fun (pre : List (List Int)) Wx => pre = [] ∧ RelGx w (.slice none 0 0) 0 Wx) from
    fun Dx pre A A' h hk => ⟨h.1, h.2.away hk (by have := H5.out; omega)⟩)
  have HIX := hidd (show ∀ (Dx : Nat) (xs : List (List Int)) (A : World) (l : Nat) (o o' : Obj), (∃ g x, xs = [x] ∧ RelGx w (.slice (some ⟨g, 0, none⟩) N N) 0 A ∧ Blk A g (icells x).toArray 2 ∧ w.heap.size ≤ g) → w5.heap.size ≤ l → l < Dx → A.heap[l]? = some o → o.isCells = false → (∃ g x, xs = [x] ∧ RelGx w (.slice (some ⟨g, 0, none⟩) N N) 0 (A.putObj l o') ∧ Blk (A.putObj l o') g (icells x).toArray 2 ∧ w.heap.size ≤ g) from
    fun Dx xs A l o o' ⟨g, x, h1, h2, h3, h4⟩ hl1 hl2 ho hc => ⟨g, x, h1, ⟨blk_put h2.1 ho hc o', blk_put h2.2.1 ho hc o', h2.2.2.trans (below_put _ (by have := H5.out; omega))⟩, blk_put h3 ho hc o', h4⟩)
  refine range_givesD rfl (enters_of Tryd.func84 (by kernel_rfl) rfl) HIT5.out HBS.out (fun x B D W args h => by obtain ⟨g, h1, _⟩ := h; rw [h1]; rfl)
    (fun _ (pre : List (List Int)) Wx => pre = [] ∧ RelGx w (.slice none 0 0) 0 Wx) (fun _ (xs : List (List Int)) Wx => ∃ g x, xs = [x] ∧ RelGx w (.slice (some ⟨g, 0, none⟩) N N) 0 Wx ∧ Blk Wx g (icells x).toArray 2 ∧ w.heap.size ≤ g)
    HI.out HIX.out (fun _ => ⟨rfl, HR5.out⟩)
    (fun x Dx a' Wx => ∃ g, a' = { tmps := #[.agg (ccells (N : Int) (K : Int) bs).toArray, .slice (some ⟨bl, off, none⟩) K cap, .pointer (some ⟨w.heap.size, 0, none⟩), undef, .pointer (some ⟨w.heap.size + 1, 0, none⟩), .pointer (some ⟨w.heap.size + 1 + 1, 0, none⟩), .pointer (some ⟨w1.heap.size, 0, none⟩), .int .i64 0, .slice (some ⟨g, 0, none⟩) N N, .tuple #[.agg D, .int .i64 0], .agg (ccells (N : Int) (K : Int) bs).toArray, .slice (some ⟨bl, off, none⟩) K cap, .tuple #[.agg D, .int .i64 0], .agg D, .int .i64 0, .int .i64 0, .bool false, undef, .agg D, .func (.func 84) #[] #[.pointer (some ⟨W4.heap.size, 0, none⟩)], .slice (some ⟨g, 0, none⟩) N N, undef], defers := [] } ∧ w5.heap.size ≤ g ∧ Blk Wx g (icells x).toArray 2)
    (fun x Dx a' A l o o' ⟨g, h1, h2, h3⟩ ho hc => ⟨g, h1, h2, blk_put h3 ho hc o'⟩) ?assign ?body ?done ?stop
  case assign =>
    rintro l' Dx B pre x rest args Wx Kx' hall hI hB1 hB2 hB3 ⟨g, rfl, hg1, hg2, hg3⟩ hK
    have HK := hidd hK
    have HGG := hidd (show w5.heap.size ≤ g ∧ Blk Wx g (icells x).toArray 2 from ⟨by omega, hg3⟩)
    clear hK hI hg1 hg2 hg3 hall
    gi_wp2
    exact HK.out _ _ (Below.refl _ _) ⟨g, by first | (simp; done) | kernel_rfl, HGG.out⟩
  case body =>
    rintro l' Dx pre x rest a' Wx hall hD1 hD2 hI ⟨g, rfl, hg1, hg2⟩
    have c4 := hI.2.1.cell (j := 0) (show _ = some (Value.slice none 0 0) from rfl)
    have f4 := hI.2.1.fro 0
    have c5 := hI.2.2.1.cell (j := 0) (show _ = some (Value.int .i64 0) from rfl)
    have f5 := hI.2.2.1.fro 0
    have KP := hidd (hI.2.put (.slice (some ⟨g, 0, none⟩) N N) 0)
    have hgl := hg2.lt
    have HPR := hidd hI.1
    have hne : g ≠ w.heap.size + 1 ∧ g ≠ w.heap.size + 1 + 1 := by have := H5.out; omega
    have KG := hidd (show Blk ((Wx.setCell ⟨w.heap.size + 1, 0, none⟩ (.slice (some ⟨g, 0, none⟩) N N)).setCell ⟨w.heap.size + 1 + 1, 0, none⟩ (.int .i64 0)) g (icells x).toArray 2 from (hg2.other _ _ hne.1).other _ _ hne.2)
    have KK := hidd (show KxD [W4.heap.size, bl] w5.heap.size Dx Wx ((Wx.setCell ⟨w.heap.size + 1, 0, none⟩ (.slice (some ⟨g, 0, none⟩) N N)).setCell ⟨w.heap.size + 1 + 1, 0, none⟩ (.int .i64 0)) from by
      refine ⟨by simp [World.setCell], fun k hk hb => ?_⟩
      have hne : k ≠ w.heap.size + 1 ∧ k ≠ w.heap.size + 1 + 1 := by
        have := H5.out
        rcases hb with hb | hb
        · omega
        · simp only [List.mem_cons, List.not_mem_nil, or_false] at hb
          omega
      rw [heap_setCell_other _ _ _ _ (by exact hne.2), heap_setCell_other _ _ _ _ (by exact hne.1)])
    clear hI hg2 hgl hne
    gi_wp2_with fail
    refine ⟨KK.out, g, x, by rw [HPR.out]; rfl, KP.out, KG.out, by have := H5.out; omega⟩
  case done =>
    intro Dd Dx Wx hD0 hD1 hD2 hI hdef
    have c4 := hI.2.1.cell (j := 0) (show _ = some (Value.slice none 0 0) from rfl)
    have f4 := hI.2.1.fro 0
    have c5 := hI.2.2.1.cell (j := 0) (show _ = some (Value.int .i64 0) from rfl)
    have f5 := hI.2.2.1.fro 0
    have KP := hidd (hI.2.put (.slice none 0 0) 4)
    have hM := hidd (show Mks w5.heap.size [Dd] ((Wx.setCell ⟨w.heap.size + 1, 0, none⟩ (.slice none 0 0)).setCell ⟨w.heap.size + 1 + 1, 0, none⟩ (.int .i64 4)) from
      (Mks.nil _ _).cons hD0 (by simp) (by
        have := H5.out
        rw [heap_setCell_other _ _ _ _ (by show Dd ≠ w.heap.size + 1 + 1; omega), heap_setCell_other _ _ _ _ (by show Dd ≠ w.heap.size + 1; omega)]; exact hdef))
    have HE := hidd (HV.out.1 hI.1)
    clear hI hdef
    gi_wp2_with fail
    refine leave_marks (B := w5.heap.size) (v := .tuple #[.slice none 0 0, .int .i64 4]) [Dd] _ hM.out (fun W' hb _ => ?_)
    have KB := KP.out.below hb (by have := H5.out; omega)
    have e4 := KB.1.cell (j := 0) (show _ = some (Value.slice none 0 0) from rfl)
    have e5 := KB.2.1.cell (j := 0) (show _ = some (Value.int .i64 4) from rfl)
    refine ⟨by simp [results, Tryd.results21, go_sem, e4, e5], ?_⟩
    rw [HE.out.1, HE.out.2]
    exact lout_nil rfl KB.2.2
  case stop =>
    intro Dd Dx pre x rest Wx hD0 hD1 hD2 hall ⟨g, x', hx', hI, hg, hg1⟩ hdef
    have hM := hidd (show Mks w5.heap.size [Dd] Wx from (Mks.nil _ _).cons hD0 (by simp) hdef)
    have hp : pre = [] ∧ x = x' := by
      cases pre with
      | nil => simpa using hx'
      | cons p ps => simp at hx'
    obtain ⟨rfl, rfl⟩ := hp
    have HE := hidd (HV.out.2 x rest (by rw [hall]; rfl))
    have HXN := hidd (HXL.out x (by rw [hall]; simp))
    have HR := hidd (And.intro hI hg)
    clear hI hg hdef hall hx'
    gi_wp2_with fail
    refine leave_marks (B := w5.heap.size) (v := .tuple #[.slice (some ⟨g, 0, none⟩) N N, .int .i64 0]) [Dd] _ hM.out (fun W' hb hck => ?_)
    have KB := HR.out.1.below hb (by have := H5.out; omega)
    have e4 := KB.1.cell (j := 0) (show _ = some (Value.slice (some ⟨g, 0, none⟩) N N) from rfl)
    have e5 := KB.2.1.cell (j := 0) (show _ = some (Value.int .i64 0) from rfl)
    refine ⟨by simp [results, Tryd.results21, go_sem, e4, e5], ?_⟩
    rw [HE.out.1, HE.out.2]
    refine ⟨some ⟨g, 0, none⟩, N, by rw [HXN.out], ?_, KB.2.2⟩
    exact own_of_blk (hck g _ _ _ HR.out.2) hg1
end Go.Proofs.YtckffliiidgilaaDoor
/- FirstExtension: the program, at every argument. -/
namespace Go.Proofs.YtckffliiidgilaaDoor
set_option linter.unusedVariables false
set_option linter.unusedSimpArgs false
open Go Go.RowKit Go.Shelf Go.Extern.Stop Go.Stop Go.Extern
theorem sl_some {w : World} {a : Option Addr} {zs : List Int} (hs : SlI w a zs) (hl : 1 ≤ zs.length) : ∃ bl off, a = some ⟨bl, off, none⟩ ∧ bl < w.heap.size := by
  rcases hs with h | ⟨bl, off, ha, hc⟩
  · rw [h] at hl; simp at hl
  · exact ⟨bl, off, ha, block_lt_of_cell (hc 0 (by omega))⟩
theorem impl21 (n k : Int) (bs : List Nat) (hb : Bys bs) (zs : List Int) (a : Option Addr) (cap : Nat) (e0 : Addr) (w : World) (hs : SlI w a zs) (hl : zs.length ≤ 1048576) (hE : Er w e0) :
    Calls Tryd.prog 21 #[.agg (ccells n k bs).toArray, .slice a zs.length cap] w fun e w' => LOut w (fxV n k bs zs) (fxC n k bs zs) e w' := by
  by_cases h0 : eaC 12 n k bs zs = 0
  · obtain ⟨hsz, hav, hn12⟩ := eaC_ok h0
    obtain ⟨hi, ho⟩ := szCode_ok hsz
    obtain ⟨n1, n2, k1, k2⟩ := isCol_bd hi
    obtain ⟨hlk, hsp⟩ := szOk_bd ho
    obtain ⟨N, rfl⟩ := Int.eq_ofNat_of_zero_le (show 0 ≤ n by omega)
    obtain ⟨K, rfl⟩ := Int.eq_ofNat_of_zero_le (show 0 ≤ k by omega)
    have hlK : zs.length = K := by omega
    rw [hlK] at hsp
    obtain ⟨bl, off, rfl, hbl⟩ := sl_some hs (by omega)
    have := impl21_good N K bs hb zs bl off cap e0 w hs hl hE h0 hlK (by omega) (by omega) (by omega) (by omega) (no1_of_av (by omega) hsp hav) hsp hbl
    rw [hlK]
    exact this
  · obtain ⟨hv, hc⟩ := fx_bad h0
    rw [hv, hc]
    exact impl21_bad n k bs hb zs a cap e0 w hs hl hE h0
end Go.Proofs.YtckffliiidgilaaDoor
/- Lists of lists: read, compared, marked and held. -/
namespace Go.Proofs.YtckffliiidgilaaDoor
set_option linter.unusedVariables false
set_option linter.unusedSimpArgs false
open Go Go.RowKit
set_option maxRecDepth 100000 in
set_option maxHeartbeats 400000 in
/-- Equal lists: only draws. -/
theorem eq17q (zs : List Int) (a b : Option Addr) (cap cap' : Nat) (w : World) (hs : SlI w a zs) (ht : SlI w b zs) (hl : zs.length ≤ 1048576) :
    Calls Tryd.prog 17 #[.slice a zs.length cap, .slice b zs.length cap'] w fun e w' => e = .returned (.bool true) ∧ ∃ m, w' = w.drewN m := by
  have hne : ((zs.length : Int) != (zs.length : Int)) = false := by simp
  go_enter Tryd.func17, Tryd.ntmps17
  go_wp2_with fail
  go_loopw [5] (fun i wr => ∃ k : Nat, k ≤ zs.length ∧ i = .int .i64 k ∧ Hid (∃ m, wr = w.drewN m)) (fun i _ => zs.length - (intOf i).toNat)
  case atStart => exact ⟨0, by omega, rfl, 0, rfl⟩
  case round =>
    obtain ⟨k, hk, rfl, HR⟩ := hrel
    obtain ⟨m, hm⟩ := HR.out
    have hB : Below w.heap.size w wr := by rw [hm]; exact below_drewN (Below.refl _ _) _
    have HM := hidd hm
    clear hm HR
    by_cases hlt : k < zs.length
    · rcases hs.below hB (Nat.le_refl _) with hz | ⟨x, o, ha, hc⟩
      · subst hz; simp at hlt
      · rcases ht.below hB (Nat.le_refl _) with hz | ⟨y, p, hb, hd⟩
        · subst hz; simp at hlt
        · subst ha
          subst hb
          have hck := hc k hlt
          have hdk := hd k hlt
          obtain ⟨z, hz⟩ : ∃ z, z = zs.getD k 0 := ⟨_, rfl⟩
          rw [← hz] at hck hdk
          have hzz : (z != z) = false := by simp
          clear hz hc hd hs ht hB
          go_wp2_with fail
          go_quiet (fail)
          go_wp2
          go_roundw
          case rel => exact ⟨k + 1, by omega, by go_num, m + nq, by rw [HM.out, World.drewN_drewN]⟩
          case measure => simp [intOf]; omega
    · have hke : k = zs.length := by omega
      subst hke
      go_wp2_with fail
      go_ret
      exact ⟨rfl, m, HM.out⟩
/-- A list of lists that can be read. -/
def LLr (w : World) (a : Option Addr) (L : List (List Int)) : Prop :=
  L = [] ∨ ∃ g, a = some ⟨g, 0, none⟩ ∧ ∀ j, j < L.length → ∃ b c, w.cell? ⟨g, j, none⟩ = some (.slice b (L.getD j []).length c) ∧ SlI w b (L.getD j [])
theorem cell_blw {w w' : World} {p : Addr} {v : Value} (h : w.cell? p = some v) (hb : Below w.heap.size w w') : w'.cell? p = some v := by
  rw [World.cell?_of_block (hb.block _ (World.block_lt_of_cell? w p h))]; exact h
theorem LLr.below {w w' : World} {a : Option Addr} {L : List (List Int)} (h : LLr w a L) {B : Nat} (hb : Below B w w') (hB : w.heap.size ≤ B) : LLr w' a L := by
  rcases h with h | ⟨g, ha, h⟩
  · exact .inl h
  · refine .inr ⟨g, ha, fun j hj => ?_⟩
    obtain ⟨b, c, h1, h2⟩ := h j hj
    exact ⟨b, c, cell_blw h1 (hb.mono hB), h2.below hb hB⟩
theorem LL.reads {w : World} {v : Value} {L : List (List Int)} (h : LL w v L) : ∃ a cap, v = .slice a L.length cap ∧ LLr w a L := by
  obtain ⟨xs, ⟨hxl, h | ⟨g, cap, cur, hv, hg, hc, hn, hm, hs, ht⟩⟩, h2⟩ := h
  · exact ⟨none, 0, by rw [h.1, h.2], .inl (List.length_eq_zero_iff.1 h.2)⟩
  · refine ⟨_, _, hv, .inr ⟨g, rfl, fun j hj => ?_⟩⟩
    obtain ⟨a, c, h3, h4⟩ := h2 j (L.getD j []) (by simp [List.getD, hj])
    refine ⟨a, c, ?_, h4.sl⟩
    have hb : Blk w g cur 25 := hc
    refine hb.cell ?_
    rw [← ht, List.getElem?_take, if_pos (by omega)] at h3
    simpa using h3
set_option maxRecDepth 100000 in
set_option maxHeartbeats 1000000 in
theorem eq24 (L : List (List Int)) (a b : Option Addr) (cap cap' : Nat) (w : World) (hs : LLr w a L) (ht : LLr w b L) (hl : L.length ≤ 1048576) (hi : ∀ z ∈ L, z.length ≤ 1048576) :
    Calls Tryd.prog 26 #[.slice a L.length cap, .slice b L.length cap'] w fun e w' => e = .returned (.bool true) ∧ ∃ m, w' = w.drewN m := by
  have hne : ((L.length : Int) != (L.length : Int)) = false := by simp
  have HI := hidd hi
  clear hi
  go_enter Tryd.func26, Tryd.ntmps26
  go_wp2_with fail
  go_loopw [5] (fun i wr => ∃ k : Nat, k ≤ L.length ∧ i = .int .i64 k ∧ Hid (∃ m, wr = w.drewN m)) (fun i _ => L.length - (intOf i).toNat)
  case atStart => exact ⟨0, by omega, rfl, 0, rfl⟩
  case round =>
    obtain ⟨k, hk, rfl, HR⟩ := hrel
    obtain ⟨m, hm⟩ := HR.out
    have hB : Below w.heap.size w wr := by rw [hm]; exact below_drewN (Below.refl _ _) _
    have HM := hidd hm
    clear hm HR
    by_cases hlt : k < L.length
    · rcases hs.below hB (Nat.le_refl _) with hz | ⟨x, ha, hc⟩
      · subst hz; simp at hlt
      · rcases ht.below hB (Nat.le_refl _) with hz | ⟨y, hb, hd⟩
        · subst hz; simp at hlt
        · subst ha
          subst hb
          obtain ⟨b1, c1, hck, hsk⟩ := hc k hlt
          obtain ⟨b2, c2, hdk, htk⟩ := hd k hlt
          obtain ⟨z, hz⟩ : ∃ z, z = L.getD k [] := ⟨_, rfl⟩
          rw [← hz] at hck hdk hsk htk
          have hzl : z.length ≤ 1048576 := by
            rw [hz]; exact HI.out _ (by simp [List.getD, hlt])
          have HEQ := hidd (fun n => eq17q z b1 b2 c1 c2 (wr.drewN n) (hsk.below (below_drewN (Below.refl _ _) _) (Nat.le_refl _)) (htk.below (below_drewN (Below.refl _ _) _) (Nat.le_refl _)) hzl)
          clear hz hc hd hs ht hB hsk htk hzl
          go_wp2_with fail
          go_quiet ((go_at_call 17; exact Calls.quiet_of (HEQ.out _)))
          go_wp2
          go_roundw
          case rel => exact ⟨k + 1, by omega, by go_num, m + nq, by rw [HM.out, World.drewN_drewN]⟩
          case measure => simp [intOf]; omega
    · have hke : k = L.length := by omega
      have hkk : decide ((k : Int) < (L.length : Int)) = false := by simp; omega
      clear hke
      go_wp2_with fail
      go_ret
      exact ⟨rfl, m, HM.out⟩
open Go Go.RowKit
/-- n lists of the call's own, from block B on, no two in one block. -/
def LLf (w : World) (B g : Nat) (A : Nat → Option Addr × Nat) (C : Array Value) (n : Nat) (f : Nat → List Int) : Prop :=
  B ≤ g ∧ Blk w g C 25 ∧ n ≤ C.size ∧ (∀ j, j < n → C[j]? = some (.slice (A j).1 (f j).length (A j).2) ∧ OwnL w B (A j).1 (f j)) ∧
    ∀ i j, i < n → j < n → i ≠ j → f i ≠ [] → f j ≠ [] → ∀ p q, (A i).1 = some p → (A j).1 = some q → p.block ≠ q.block
def LLO (w : World) (B : Nat) (a : Option Addr) (n : Nat) (f : Nat → List Int) : Prop := n = 0 ∨ ∃ g A C, a = some ⟨g, 0, none⟩ ∧ LLf w B g A C n f
theorem LLO.below {w w' : World} {B : Nat} {a : Option Addr} {n : Nat} {f : Nat → List Int} (h : LLO w B a n f) {B' : Nat} (hb : Below B' w w') (hB : w.heap.size ≤ B') : LLO w' B a n f := by
  rcases h with h | ⟨g, A, C, h1, h2, h3, h4, h5, h6⟩
  · exact .inl h
  · exact .inr ⟨g, A, C, h1, h2, h3.below hb (by have := h3.lt; omega), h4, fun j hj => ⟨(h5 j hj).1, (h5 j hj).2.below hb hB⟩, h6⟩
theorem LLO.base {w : World} {B B' : Nat} {a : Option Addr} {n : Nat} {f : Nat → List Int} (h : LLO w B a n f) (hB : B' ≤ B) : LLO w B' a n f := by
  rcases h with h | ⟨g, A, C, h1, h2, h3, h4, h5, h6⟩
  · exact .inl h
  · exact .inr ⟨g, A, C, h1, by omega, h3, h4, fun j hj => ⟨(h5 j hj).1, by
      rcases (h5 j hj).2 with e | ⟨g', C', k1, k2⟩
      · exact .inl e
      · exact .inr ⟨g', C', by omega, k2⟩⟩, h6⟩
theorem LLO.reads {w : World} {B : Nat} {a : Option Addr} {L : List (List Int)} (h : LLO w B a L.length fun j => L.getD j []) : LLr w a L := by
  rcases h with h | ⟨g, A, C, h1, h2, h3, h4, h5, h6⟩
  · exact .inl (List.length_eq_zero_iff.1 h)
  · exact .inr ⟨g, h1, fun j hj => ⟨_, _, h3.cell (h5 j hj).1, (h5 j hj).2.sl⟩⟩
/-- How many numbers the first lists have. -/
def offF (f : Nat → List Int) : Nat → Nat
  | 0 => 0
  | j + 1 => offF f j + (f j).length
theorem offF_le {f : Nat → List Int} {n : Nat} (h : ∀ i, i < n → (f i).length ≤ 1000) : ∀ j, j ≤ n → offF f j ≤ j * 1000
  | 0, _ => Nat.le_refl _
  | j + 1, hj => by
    have h1 := offF_le h j (by omega)
    have h2 := h j (by omega)
    rw [offF]; omega
/-- The first j lists marked. -/
def mkF (f : Nat → List Int) (k : Int) (j : Nat) (i : Nat) : List Int := if i < j then marks (k + (offF f i : Nat)) (f i).length else f i
theorem mkF_len (f : Nat → List Int) (k : Int) (j i : Nat) : (mkF f k j i).length = (f i).length := by
  unfold mkF; split
  · exact marks_len _ _
  · rfl
theorem mkF_nil {f : Nat → List Int} {k : Int} {j i : Nat} : mkF f k j i ≠ [] ↔ f i ≠ [] := by
  rw [← List.length_pos_iff, ← List.length_pos_iff, mkF_len]
theorem mkF_at (f : Nat → List Int) (k : Int) (j : Nat) : mkF f k j j = f j := by unfold mkF; rw [if_neg (by omega)]
theorem mkF_next (f : Nat → List Int) (k : Int) (j : Nat) : mkF f k (j + 1) j = marks (k + (offF f j : Nat)) (f j).length := by unfold mkF; rw [if_pos (by omega)]
theorem mkF_other {f : Nat → List Int} {k : Int} {j i : Nat} (h : i ≠ j) : mkF f k (j + 1) i = mkF f k j i := by
  unfold mkF
  by_cases e : i < j
  · rw [if_pos e, if_pos (by omega)]
  · rw [if_neg e, if_neg (by omega)]
theorem mkF_zero (f : Nat → List Int) (k : Int) : mkF f k 0 = f := by funext i; unfold mkF; rw [if_neg (by omega)]
theorem own_blk2 {w : World} {B : Nat} {a : Option Addr} {zs : List Int} (h : OwnL w B a zs) (h0 : zs ≠ []) : ∀ p, a = some p → ∃ C, Blk w p.block C 2 := by
  rcases h with h | ⟨g, C, h1, h2, h3, _⟩
  · exact absurd h h0
  · intro p hp; rw [h2] at hp; cases hp; exact ⟨C, h3⟩
theorem blk_dif {W : World} {a b : Nat} {C D : Array Value} (h : Blk W a C 25) (k : Blk W b D 2) : a ≠ b := fun e => by
  subst e
  unfold Blk at h k
  rw [h] at k
  cases k
theorem mark_step {w w' : World} {B g : Nat} {A : Nat → Option Addr × Nat} {C : Array Value} {n : Nat} {f : Nat → List Int} {k : Int} {j : Nat} (h : LLf w B g A C n (mkF f k j)) (hj : j < n)
    (ho : OwnL w' B (A j).1 (marks (k + (offF f j : Nat)) (f j).length)) (hm : MkOnly (f j) (A j).1 w w') : LLf w' B g A C n (mkF f k (j + 1)) := by
  obtain ⟨h1, h2, h3, h4, h5⟩ := h
  have hoj := (h4 j hj).2
  rw [mkF_at] at hoj
  refine ⟨h1, hm.blk h2 (fun e p hp => ?_), h3, fun i hi => ?_, fun i i' hi hi' hne hn1 hn2 p q hp hq => h5 i i' hi hi' hne (mkF_nil.2 (mkF_nil.1 hn1)) (mkF_nil.2 (mkF_nil.1 hn2)) p q hp hq⟩
  · obtain ⟨D, hD⟩ := own_blk2 hoj e p hp
    exact blk_dif h2 hD
  · refine ⟨by rw [mkF_len, ← mkF_len f k j]; exact (h4 i hi).1, ?_⟩
    by_cases e : i = j
    · subst e; rw [mkF_next]; exact ho
    · rw [mkF_other e]
      exact hm.own (h4 i hi).2 (fun n1 n2 p q hp hq => fun e2 => h5 i j hi hj e n2 (by rw [mkF_at]; exact n1) q p hq hp e2)
set_option maxRecDepth 100000 in
set_option maxHeartbeats 1000000 in
theorem mark25 (n : Nat) (f : Nat → List Int) (a : Option Addr) (cap : Nat) (B : Nat) (k : Int) (w : World) (h : LLO w B a n f) (hB : B ≤ w.heap.size) (hn : n ≤ 1000) (hf : ∀ i, i < n → (f i).length ≤ 1000) (hk0 : 0 ≤ k) (hk1 : k ≤ 1000) :
    Calls Tryd.prog 27 #[.slice a n cap, .int .i64 k] w fun e w' => e = .returned (.int .i64 (k + (offF f n : Nat))) ∧ LLO w' B a n (mkF f k n) ∧ Below B w w' := by
  have HOF := hidd (offF_le hf)
  have HF := hidd hf
  clear hf
  rcases h with h | ⟨g, A, C, rfl, hL⟩
  · subst h
    go_enter Tryd.func27, Tryd.ntmps27
    go_wp2
    refine wp_loop_rounds 1 ?_
    rw [rounds_succ]
    go_wp2
    go_ret
    exact ⟨by simp [offF], .inl rfl, Below.refl _ _⟩
  · have HL := hidd hL
    clear hL
    go_enter Tryd.func27, Tryd.ntmps27
    go_wp2_with fail
    go_loopw [1, 5] (fun kk i wr => ∃ j : Nat, j ≤ n ∧ i = .int .i64 j ∧ kk = .int .i64 (k + (offF f j : Nat)) ∧ Hid (LLf wr B g A C n (mkF f k j) ∧ Below B w wr)) (fun _ i _ => n - (intOf i).toNat)
    case atStart => exact ⟨0, by omega, rfl, by simp [offF], by rw [mkF_zero]; exact HL.out, Below.refl _ _⟩
    case round =>
      obtain ⟨j, hj, rfl, rfl, HR⟩ := hrel
      by_cases hlt : j < n
      · have hc := (HR.out.1.2.2.2.1 j hlt).1
        have ho := (HR.out.1.2.2.2.1 j hlt).2
        have cj := HR.out.1.2.1.cell hc
        rw [mkF_at] at ho cj
        have HO := hidd ho
        have ho1 := HOF.out j hj
        have ho2 := HF.out j hlt
        obtain ⟨q, hq⟩ : ∃ q, q = k + (offF f j : Nat) := ⟨_, rfl⟩
        have hq0 : 0 ≤ q := by omega
        have hq1 : q ≤ 1048576 := by omega
        have HST := hidd (fun (w' : World) ho' hm => mark_step (w' := w') HR.out.1 hlt ho' hm)
        have hnx : k + (offF f (j + 1) : Nat) = q + (f j).length := by rw [offF, hq]; omega
        have HNX := hidd hnx
        rw [← hq] at HST ⊢
        have HMK := hidd (mark29o (f j).length (A j).1 (A j).2 B q (f j) wr rfl HO.out (by omega) hq0 hq1)
        have HOO := hidd (fun w' (h : MkOnly (f j) (A j).1 wr w') => h.below HO.out (Nat.le_trans hB HR.out.2.size))
        obtain ⟨aj, haj⟩ : ∃ x, x = (A j).1 := ⟨_, rfl⟩
        obtain ⟨cj', hcj⟩ : ∃ x, x = (A j).2 := ⟨_, rfl⟩
        obtain ⟨lj, hlj⟩ : ∃ x, x = (f j).length := ⟨_, rfl⟩
        rw [← haj, ← hcj, ← hlj] at cj HMK
        rw [← haj, ← hlj] at HST
        rw [← haj] at HOO
        rw [← hlj] at HNX
        clear hc ho hq hnx haj hcj hlj
        go_wp2_with fail
        refine HMK.out.mono ?_
        rintro e w1 ⟨rfl, ho', hm'⟩
        have K := hidd (And.intro (HST.out w1 ho' hm') (HR.out.2.trans (HOO.out w1 hm')))
        clear ho' hm'
        go_wp2_with fail
        go_roundw
        case rel => exact ⟨j + 1, by omega, by go_num, by rw [HNX.out], K.out⟩
        case measure => simp [intOf]; omega
      · have hje : j = n := by omega
        subst hje
        go_wp2_with fail
        go_ret
        exact ⟨rfl, .inr ⟨g, A, C, rfl, HR.out.1⟩, HR.out.2⟩
set_option maxRecDepth 100000 in
set_option maxHeartbeats 1000000 in
theorem held26 (n : Nat) (f : Nat → List Int) (a : Option Addr) (cap : Nat) (B : Nat) (k : Int) (w : World) (h : LLO w B a n (mkF f k n)) (hn : n ≤ 1000) (hf : ∀ i, i < n → (f i).length ≤ 1000) (hk0 : 0 ≤ k) (hk1 : k ≤ 1000) :
    Calls Tryd.prog 28 #[.slice a n cap, .int .i64 k] w fun e w' => e = .returned (.int .i64 (k + (offF f n : Nat))) ∧ w = w' := by
  have HOF := hidd (offF_le hf)
  have HF := hidd hf
  clear hf
  rcases h with h | ⟨g, A, C, rfl, hL⟩
  · subst h
    go_enter Tryd.func28, Tryd.ntmps28
    go_wp2
    refine wp_loop_rounds 1 ?_
    rw [rounds_succ]
    go_wp2
    go_ret
    exact ⟨by simp [offF], rfl⟩
  · have HL := hidd hL
    clear hL
    go_enter Tryd.func28, Tryd.ntmps28
    go_wp2_with fail
    go_loop [1, 5] (fun kk i => ∃ j : Nat, j ≤ n ∧ i = .int .i64 j ∧ kk = .int .i64 (k + (offF f j : Nat))) (fun _ i => n - (intOf i).toNat)
    case atStart => exact ⟨0, by omega, rfl, by simp [offF]⟩
    case round =>
      obtain ⟨j, hj, rfl, rfl⟩ := hrel
      by_cases hlt : j < n
      · have hc := (HL.out.2.2.2.1 j hlt).1
        have ho := (HL.out.2.2.2.1 j hlt).2
        have cj := HL.out.2.1.cell hc
        have ho1 := HOF.out j hj
        have ho2 := HF.out j hlt
        rw [mkF_len] at cj
        have hmk : mkF f k n j = marks (k + (offF f j : Nat)) (f j).length := by unfold mkF; rw [if_pos hlt]
        rw [hmk] at ho
        obtain ⟨q, hq⟩ : ∃ q, q = k + (offF f j : Nat) := ⟨_, rfl⟩
        have hq0 : 0 ≤ q := by omega
        have hq1 : q ≤ 1048576 := by omega
        have hnx : k + (offF f (j + 1) : Nat) = q + (f j).length := by rw [offF, hq]; omega
        have HNX := hidd hnx
        rw [← hq] at ho ⊢
        have HMK := hidd (held30 (f j).length (A j).1 (A j).2 B q w ho (by omega) hq0 hq1)
        obtain ⟨aj, haj⟩ : ∃ x, x = (A j).1 := ⟨_, rfl⟩
        obtain ⟨cj', hcj⟩ : ∃ x, x = (A j).2 := ⟨_, rfl⟩
        obtain ⟨lj, hlj⟩ : ∃ x, x = (f j).length := ⟨_, rfl⟩
        rw [← haj, ← hcj, ← hlj] at cj HMK
        rw [← hlj] at HNX
        clear hc ho hmk hq hnx haj hcj hlj
        go_wp2_with fail
        refine HMK.out.mono ?_
        rintro e w1 ⟨rfl, rfl⟩
        go_wp2_with fail
        go_round
        case rel => exact ⟨j + 1, by omega, by go_num, by rw [HNX.out]⟩
        case measure => simp [intOf]; omega
      · have hje : j = n := by omega
        subst hje
        go_wp2_with fail
        go_ret
        exact ⟨rfl, rfl⟩
open Go Go.RowKit Go.Shelf
/-- The outer cells. -/
def lcells (A : Nat → Option Addr × Nat) (L : List (List Int)) : List Value := (List.range L.length).map fun j => Value.slice (A j).1 (L.getD j []).length (A j).2
theorem lcells_len (A : Nat → Option Addr × Nat) (L : List (List Int)) : (lcells A L).length = L.length := by simp [lcells]
theorem lcells_get {A : Nat → Option Addr × Nat} {L : List (List Int)} {j : Nat} (h : j < L.length) : (lcells A L)[j]? = some (Value.slice (A j).1 (L.getD j []).length (A j).2) := by
  simp [lcells, h]
def LLW (w : World) (B : Nat) (v : Value) (L : List (List Int)) : Prop :=
  ∃ A : Nat → Option Addr × Nat, w.ownsRow B 25 1 v L.length (lcells A L) ∧ (∀ j, j < L.length → OwnL w B (A j).1 (L.getD j [])) ∧
    ∀ i j, i < L.length → j < L.length → i ≠ j → L.getD i [] ≠ [] → L.getD j [] ≠ [] → ∀ p q, (A i).1 = some p → (A j).1 = some q → p.block ≠ q.block
theorem LLW.nil (w : World) (B : Nat) : LLW w B (.slice none 0 0) [] := ⟨fun _ => (none, 0), ⟨rfl, .inl ⟨rfl, rfl⟩⟩, fun j hj => by simp at hj, fun i j hi => by simp at hi⟩
theorem LLW.below {w w' : World} {B : Nat} {v : Value} {L : List (List Int)} (h : LLW w B v L) {B' : Nat} (hb : Below B' w w') (hB : w.heap.size ≤ B') : LLW w' B v L := by
  obtain ⟨A, h1, h2, h3⟩ := h
  exact ⟨A, own_below h1 hb hB, fun j hj => (h2 j hj).below hb hB, h3⟩
theorem own_grow {B : Nat} {W W' : World} {e : TypeId} {size : Nat} {v : Value} {n : Nat} {xs : List Value} {row : Option Nat} (h : W.ownsRow B e size v n xs) (hg : W.grownBy W' row) (hr : ∀ r, row = some r → ∃ o : Obj, W.heap[r]? = some o ∧ o.isCells = false) : W'.ownsRow B e size v n xs := by
  refine ⟨h.1, ?_⟩
  rcases h.2 with h2 | ⟨g, cap, cur, hv, hB, hc, r⟩
  · exact .inl h2
  · refine .inr ⟨g, cap, cur, hv, hB, (hg.block g (Array.getElem?_eq_some_iff.1 hc).1 (fun e => ?_)).trans hc, r⟩
    obtain ⟨o, ho, hcl⟩ := hr g e.symm
    rw [hc] at ho
    cases ho; cases hcl
theorem ownL_grow {B : Nat} {W W' : World} {a : Option Addr} {zs : List Int} {row : Option Nat} (h : OwnL W B a zs) (hg : W.grownBy W' row) (hr : ∀ r, row = some r → ∃ o : Obj, W.heap[r]? = some o ∧ o.isCells = false) : OwnL W' B a zs := by
  rcases h with h | ⟨g, C, h1, h2, h3, h4⟩
  · exact .inl h
  · refine .inr ⟨g, C, h1, h2, (hg.block g h3.lt (fun e => ?_)).trans h3, h4⟩
    obtain ⟨o, ho, hcl⟩ := hr g e.symm
    rw [show W.heap[g]? = _ from h3] at ho
    cases ho; cases hcl
theorem LLW.grow {w w' : World} {B : Nat} {v : Value} {L : List (List Int)} {row : Option Nat} (h : LLW w B v L) (hg : w.grownBy w' row) (hr : ∀ r, row = some r → ∃ o : Obj, w.heap[r]? = some o ∧ o.isCells = false) : LLW w' B v L := by
  obtain ⟨A, h1, h2, h3⟩ := h
  exact ⟨A, own_grow h1 hg hr, fun j hj => ownL_grow (h2 j hj) hg hr, h3⟩
theorem LLW.shape {w : World} {B : Nat} {v : Value} {L : List (List Int)} (h : LLW w B v L) : ∃ a cap, v = .slice a L.length cap := by
  obtain ⟨A, ⟨_, h | ⟨g, cap, cur, hv, _⟩⟩, _⟩ := h
  · exact ⟨none, 0, by rw [h.1, h.2]⟩
  · exact ⟨_, _, hv⟩
theorem LLW.row {w : World} {B : Nat} {v : Value} {L : List (List Int)} (h : LLW w B v L) : ∀ r, v.ownBlock = some r → B ≤ r ∧ ∃ C, Blk w r C 25 := by
  obtain ⟨A, ⟨_, h | ⟨g, cap, cur, hv, hg, hc, _⟩⟩, _⟩ := h
  · intro r hr; rw [h.1] at hr; cases hr
  · intro r hr; rw [hv] at hr; cases hr; exact ⟨hg, cur, hc⟩
theorem LLW.out {w : World} {B : Nat} {v : Value} {L : List (List Int)} (h : LLW w B v L) : ∃ a cap, v = .slice a L.length cap ∧ LLO w B a L.length fun j => L.getD j [] := by
  obtain ⟨A, ⟨hl, h | ⟨g, cap, cur, hv, hg, hc, hn, hm, hs, ht⟩⟩, h2, h3⟩ := h
  · exact ⟨none, 0, by rw [h.1, h.2], .inl h.2⟩
  · refine ⟨_, _, hv, .inr ⟨g, A, cur, rfl, hg, hc, by omega, fun j hj => ⟨?_, h2 j hj⟩, h3⟩⟩
    have h4 := lcells_get (A := A) hj
    rw [← ht, List.getElem?_take, if_pos (by omega)] at h4
    simpa using h4
/-- One list more: laid in new memory, its slice put behind the others. -/
theorem LLW.push {W X Y : World} {B : Nat} {v v' : Value} {L : List (List Int)} {zs : List Int} {a : Option Addr} {c : Nat} {o : Obj} (h : LLW W B v L) (hB : B ≤ W.heap.size) (hb : Below W.heap.size W X) (ho : OwnL X W.heap.size a zs)
    (hg : (X.alloc o).grownBy Y v.ownBlock) {A : Nat → Option Addr × Nat} (hA : (∀ j, j < L.length → OwnL W B (A j).1 (L.getD j [])) ∧ ∀ i j, i < L.length → j < L.length → i ≠ j → L.getD i [] ≠ [] → L.getD j [] ≠ [] → ∀ p q, (A i).1 = some p → (A j).1 = some q → p.block ≠ q.block)
    (hown : Y.ownsRow B 25 1 v' (L.length + 1) (lcells A L ++ [.slice a zs.length c])) : LLW Y B v' (L ++ [zs]) := by
  have hrow : ∀ r, v.ownBlock = some r → ∃ C, Blk (X.alloc o) r C 25 := fun r hr => by
    obtain ⟨h1, C, h2⟩ := h.row r hr
    exact ⟨C, (h2.below hb h2.lt).alloc _⟩
  have hga : ∀ {a : Option Addr} {B' : Nat} {ys : List Int}, OwnL X B' a ys → OwnL Y B' a ys := fun h1 => by
    refine OwnL.grown (h1.below ((Below.refl X.heap.size X).alloc (Nat.le_refl _) o) (Nat.le_refl _)) hg hrow
  let A' : Nat → Option Addr × Nat := fun j => if j < L.length then A j else (a, c)
  have hlt : ∀ {j}, j < L.length → A' j = A j := fun h => if_pos h
  have hge : A' L.length = (a, c) := if_neg (Nat.lt_irrefl _)
  have gl : ∀ {j}, j < L.length → (L ++ [zs]).getD j [] = L.getD j [] := fun {j} h => by simp [List.getD, List.getElem?_append_left h]
  have ge : (L ++ [zs]).getD L.length [] = zs := by simp [List.getD]
  refine ⟨A', ?_, fun j hj => ?_, fun i j hi hj hne hi0 hj0 p q hp hq => ?_⟩
  · have e : lcells A' (L ++ [zs]) = lcells A L ++ [.slice a zs.length c] := by
      apply List.ext_getElem?
      intro j
      by_cases hj : j < L.length
      · rw [lcells_get (by simp; omega), List.getElem?_append_left (by rw [lcells_len]; exact hj), lcells_get hj, gl hj, hlt hj]
      · by_cases hj2 : j = L.length
        · subst hj2
          rw [lcells_get (by simp), ge, hge, List.getElem?_append_right (by rw [lcells_len]; exact Nat.le_refl _), lcells_len]; simp
        · rw [List.getElem?_eq_none (by rw [lcells_len]; simp; omega), List.getElem?_eq_none (by simp [lcells_len]; omega)]
    rw [e, List.length_append]; exact hown
  · by_cases hl : j < L.length
    · rw [gl hl, hlt hl]
      exact hga ((hA.1 j hl).below hb (Nat.le_refl _))
    · have hj2 : j = L.length := by simp at hj; omega
      subst hj2
      rw [ge, hge]
      exact hga (ownL_base ho hB)
  · by_cases hl : i < L.length
    · by_cases hl2 : j < L.length
      · rw [gl hl] at hi0
        rw [gl hl2] at hj0
        rw [hlt hl] at hp
        rw [hlt hl2] at hq
        exact hA.2 i j hl hl2 hne hi0 hj0 p q hp hq
      · have hj2 : j = L.length := by simp at hj; omega
        subst hj2
        rw [gl hl] at hi0
        rw [hlt hl] at hp
        rw [ge] at hj0
        rw [hge] at hq
        have h1 := (hA.1 i hl).lt hi0 p hp
        have h2 := ho.ge hj0 q hq
        omega
    · have hi2 : i = L.length := by simp at hi; omega
      subst hi2
      have hl2 : j < L.length := by simp at hj; omega
      rw [ge] at hi0
      rw [hge] at hp
      rw [gl hl2] at hj0
      rw [hlt hl2] at hq
      have h1 := (hA.1 j hl2).lt hj0 q hq
      have h2 := ho.ge hi0 p hp
      omega
/-- A list of lists of the call's own and a code. -/
def LLOut (w : World) (L : List (List Int)) (code : Int) (e : Ending) (w' : World) : Prop :=
  ∃ a cap, e = .returned (.tuple #[.slice a L.length cap, .int .i64 code]) ∧ (LLO w' w.heap.size a L.length fun j => L.getD j []) ∧ Below w.heap.size w w'
/-- .. that can be read. -/
def LLOut0 (w : World) (L : List (List Int)) (code : Int) (e : Ending) (w' : World) : Prop :=
  ∃ a cap, e = .returned (.tuple #[.slice a L.length cap, .int .i64 code]) ∧ LLr w' a L ∧ Below w.heap.size w w'
end Go.Proofs.YtckffliiidgilaaDoor
/- Regions inside a fence that draw their order: HeldIn and HeldTail, carried over from YtkiocedhibeieaaDoorHh. -/
/- Inside a fence, in a round too: a region that draws its order; what yields in every world that meets S is taken first. -/
namespace Go.Proofs.YtckffliiidgilaaDoor
set_option linter.unusedVariables false
set_option linter.unusedSimpArgs false
open Go
section
variable {F : Fence} {n : Nat} {P : Program} {md : Region.Mode} {ops : Array Oper} {Q : Exit → Act → World → Prop} {S : World → Prop}
theorem yieldsIf_wpOpIn (hL : Lets F n P) {i : Nat} {o : Oper} {v : Value} {a : Act} (hi : ops[i]? = some o) (hdf : ∀ c, o.op ≠ .defer c) (hy : YieldsIf P ops S o v a)
    {K : Act → World → Prop} {w : World} (hS : S w) (h : K (a.put o.dst v) w) : wpOpIn F n P ops Q i K a w := by
  unfold Go.wpOpIn
  simp only [hi]
  rcases hy with ⟨hw, hv⟩ | ⟨hw, rfl⟩
  · simp only [hw, if_true, Oper.wpIn]
    rw [Oper.semAt_eq _ _ _ hdf, hv w hS]
    exact ⟨fun f _ => hL.fn f, h⟩
  · simp only [hw, Bool.false_eq_true, if_false]; exact ⟨fun f _ => hL.fn f, h⟩
theorem wpOpIn_putIf (hL : Lets F n P) {j : Nat} {oi oj : Oper} {v : Value} (hj : ops[j]? = some oj) (hdj : ∀ c, oj.op ≠ .defer c) (hap : oi.apart ops oj = true)
    (hsi : ∀ cs b, oi.op ≠ .select cs b) (hsj : ∀ cs b, oj.op ≠ .select cs b)
    (hQ : ∀ c a w, Q (.panic c) (a.put oi.dst v) w → Q (.panic c) a w) {K : Act → World → Prop} {a : Act} {w : World}
    (hy : YieldsIf P ops S oi v a) (h : wpOpIn F n P ops Q j K (a.put oi.dst v) w) :
    wpOpIn F n P ops Q j (fun a' w' => YieldsIf P ops S oi v a' ∧ K (a'.put oi.dst v) w') a w := by
  obtain ⟨h1, h2, h3⟩ := Oper.apart_spec hap
  have keep : ∀ (a : Act), YieldsIf P ops S oi v a → ∀ u, YieldsIf P ops S oi v (a.put oj.dst u) := fun a hy u =>
    hy.of_same (execOp_put oi hsi a oj.dst u h3) (wanted_put oi a oj.dst u h3)
  have keepD : ∀ d, YieldsIf P ops S oi v { a with defers := d :: a.defers } := fun d => hy.of_same rfl rfl
  unfold wpOpIn at *
  simp only [hj] at *
  rw [wanted_put oj a oi.dst v h1, about_put oj w a oi.dst v h1] at h
  split
  · rename_i hw
    simp only [hw, if_true] at h
    unfold Oper.wpIn at *
    rw [about_put oj w a oi.dst v h1] at h
    refine ⟨h.1, ?_⟩
    have h := h.2
    rw [Oper.semAt_eq _ _ _ hdj, execOp_put oj hsj a oi.dst v h1] at h
    rw [Oper.semAt_eq _ _ _ hdj]
    generalize (execOp a.eval oj).run P w = r at *
    cases r with
    | ok x w' =>
      cases x <;> simp only [Oper.uponIn] at h ⊢
      case value u => exact ⟨keep a hy u, by rw [← Act.put_comm a v u h2]; exact h⟩
      case skip => exact ⟨keep a hy _, by rw [← Act.put_comm a v undef h2]; exact h⟩
      case defer d =>
        refine ⟨keep _ (keepD d) _, ?_⟩
        rw [← Act.put_comm _ v undef h2, ← Act.put_defers]
        exact h
      case enter f args =>
        refine ⟨h.1, CallsIn.mono h.2 fun e w'' he => ?_⟩
        cases e with
        | returned u => exact ⟨keep a hy u, by rw [← Act.put_comm a v u h2]; exact he⟩
        | panicked c => exact hQ _ _ _ he
        | outgrown => exact he
      case row row args => exact ⟨h.1, RowsIn.mono h.2 fun u w'' he => ⟨keep a hy u, by rw [← Act.put_comm a v u h2]; exact he⟩⟩
      case round l f tmps assign body =>
        refine ⟨h.1, RoundIn.mono h.2 fun e w'' he => ?_⟩
        cases e with
        | returned u => exact ⟨keep a hy u, by rw [← Act.put_comm a v u h2]; exact he⟩
        | panicked c => exact hQ _ _ _ he
        | outgrown => exact he
    | halt x w' =>
      cases x <;> simp only [Oper.uponIn] at h ⊢
      case panic u => exact hQ _ _ _ h
  · rename_i hw
    simp only [hw] at h
    exact ⟨h.1, keep a hy _, by rw [← Act.put_comm a v undef h2]; exact h.2⟩
def wpAnyHI (F : Fence) (n : Nat) (P : Program) (md : Region.Mode) (ops : Array Oper) (Q : Exit → Act → World → Prop) (S : World → Prop) : Nat → Array Bool → Act → World → Prop
  | 0, listed, a, w => Region.ready md ops listed = [] ∧ Q .normal a w
  | fuel + 1, listed, a, w =>
    (Region.ready md ops listed = [] → Q .normal a w) ∧
    ∀ i ∈ Region.ready md ops listed, wpOpIn F n P ops Q i (fun a' w' => S w' ∧ wpAnyHI F n P md ops Q S fuel (listed.setIfInBounds i true) a' w') a w
theorem wpAnyIn_of_held : ∀ (fuel : Nat) (listed : Array Bool) (a : Act) (w : World), wpAnyHI F n P md ops Q S fuel listed a w → wpAnyIn F n P md ops Q fuel listed a w
  | 0, _, _, _, h => h
  | fuel + 1, _, _, _, h => ⟨h.1, fun i hi => wpOpIn_mono (fun a' w' h' => wpAnyIn_of_held fuel _ a' w' h'.2) (h.2 i hi)⟩
theorem wpAnyHI_first (hL : Lets F n P) (hcm : calmB ops = true) {i : Nat} {oi : Oper} {v : Value} (hi : ops[i]? = some oi) (hsel : ∀ (j : Nat) (o : Oper) cs b, ops[j]? = some o → o.op ≠ .select cs b)
    (hQ : ∀ c a w, Q (.panic c) (a.put oi.dst v) w → Q (.panic c) a w) :
    ∀ (fuel : Nat) (listed : Array Bool) (a : Act) (w : World),
      (∀ j oj, ops[j]? = some oj → j ≠ i → listed.getD j true = false → (∀ e ∈ oj.after, Region.binds md e = true → e.on ≠ i) → oi.apart ops oj = true) →
      i ∈ Region.ready md ops listed → YieldsIf P ops S oi v a → S w →
      wpAnyHI F n P md ops Q S fuel (listed.setIfInBounds i true) (a.put oi.dst v) w → wpAnyHI F n P md ops Q S (fuel + 1) listed a w := by
  intro fuel
  induction fuel with
  | zero =>
    intro listed a w _ hr hy hS H
    refine ⟨fun h => (by rw [h] at hr; cases hr), fun j hj => ?_⟩
    by_cases hji : j = i
    · subst hji; exact yieldsIf_wpOpIn hL hi (calm_spec hcm hi) hy hS ⟨hS, H⟩
    · have := ready_mono hj hji
      rw [H.1] at this
      cases this
  | succ fuel ih =>
    intro listed a w hfree hr hy hS H
    refine ⟨fun h => (by rw [h] at hr; cases hr), fun j hj => ?_⟩
    by_cases hji : j = i
    · subst hji; exact yieldsIf_wpOpIn hL hi (calm_spec hcm hi) hy hS ⟨hS, H⟩
    · have h1 := H.2 j (ready_mono hj hji)
      obtain ⟨hjun, oj, hoj, hall⟩ := mem_ready.1 hj
      have hnot : ∀ e ∈ oj.after, Region.binds md e = true → e.on ≠ i := fun e he hb heq => by
        have h1 := hall e he hb
        have h0 := (mem_ready.1 hr).1
        rw [heq] at h1
        rcases Nat.lt_or_ge i listed.size with h' | h'
        · simp [h'] at h0 h1; rw [h0] at h1; cases h1
        · simp [Array.getElem?_eq_none h'] at h1
      have h2 := wpOpIn_putIf hL hoj (calm_spec hcm hoj) (hfree j oj hoj hji hjun hnot) (fun cs b => hsel i oi cs b hi) (fun cs b => hsel j oj cs b hoj) hQ hy h1
      have hfree' : ∀ k ok, ops[k]? = some ok → k ≠ i → (listed.setIfInBounds j true).getD k true = false →
          (∀ e ∈ ok.after, Region.binds md e = true → e.on ≠ i) → oi.apart ops ok = true := fun k ok hk hki hun hno => by
        refine hfree k ok hk hki ?_ hno
        by_cases hjk : j = k
        · subst hjk; exact hjun
        · rw [getD_set_ne true hjk] at hun; exact hun
      refine wpOpIn_mono (fun a' w' h3 => ⟨h3.2.1, ih (listed.setIfInBounds j true) a' w' hfree' (ready_mono hr (Ne.symm hji)) h3.1 h3.2.1 ?_⟩) h2
      rw [Array.setIfInBounds_comm _ _ hji]
      exact h3.2.2
theorem wpAnyHI_take (hL : Lets F n P) (hcm : calmB ops = true) {i : Nat} {oi : Oper} {v : Value} {fuel : Nat} {listed : Array Bool} {a : Act} {w : World} (hi : ops[i]? = some oi)
    (hs : Region.noSelect ops = true) (hf : Region.free md ops listed i = true) (hr : (Region.ready md ops listed).contains i = true)
    (hQ : ∀ c a w, Q (.panic c) (a.put oi.dst v) w → Q (.panic c) a w) (hy : YieldsIf P ops S oi v a) (hS : S w)
    (h : wpAnyHI F n P md ops Q S fuel (listed.setIfInBounds i true) (a.put oi.dst v) w) : wpAnyHI F n P md ops Q S (fuel + 1) listed a w :=
  wpAnyHI_first hL hcm hi (Region.noSelect_spec hs) hQ fuel listed a w (Region.free_spec hi hf) (by simpa using hr) hy hS h
def AllReadyHI (F : Fence) (n : Nat) (P : Program) (md : Region.Mode) (ops : Array Oper) (Q : Exit → Act → World → Prop) (S : World → Prop) (fuel : Nat) (listed : Array Bool) (a : Act) (w : World) (rs : List Nat) : Prop :=
  ∀ i ∈ rs, wpOpIn F n P ops Q i (fun a' w' => S w' ∧ wpAnyHI F n P md ops Q S fuel (listed.setIfInBounds i true) a' w') a w
theorem AllReadyHI.nil {fuel : Nat} {listed : Array Bool} {a : Act} {w : World} : AllReadyHI F n P md ops Q S fuel listed a w [] := fun _ h => by cases h
theorem AllReadyHI.cons {fuel : Nat} {listed : Array Bool} {a : Act} {w : World} {i : Nat} {o : Oper} {rs : List Nat} (ho : ops[i]? = some o)
    (h : ∀ K' : Act → World → Prop, Shut (∀ a w, S w → (S w → wpAnyHI F n P md ops Q S fuel (listed.setIfInBounds i true) a w) → K' a w) → if Region.wanted o (yielded ops a.tmps) = true then Oper.wpIn F n P o a w K' Q else (∀ f, o.about P w a.eval = some f → F.fn f) ∧ K' (a.put o.dst undef) w)
    (hs : AllReadyHI F n P md ops Q S fuel listed a w rs) : AllReadyHI F n P md ops Q S fuel listed a w (i :: rs) := fun j hj => by
  rcases List.mem_cons.1 hj with rfl | hj
  · exact wpOpIn_step ho (fun K' hK => h K' (fun a w hS hW => hK a w ⟨hS, hW hS⟩))
  · exact hs j hj
theorem wpAnyHI_ready {rs : List Nat} {fuel : Nat} {listed : Array Bool} {a : Act} {w : World} (hr : Region.ready md ops listed = rs) (hne : rs ≠ [])
    (h : AllReadyHI F n P md ops Q S fuel listed a w rs) : wpAnyHI F n P md ops Q S (fuel + 1) listed a w := ⟨fun h0 => absurd (hr ▸ h0) hne, hr ▸ h⟩
theorem wpAnyHI_done {listed : Array Bool} {a : Act} {w : World} (hr : Region.ready md ops listed = []) (h : Q .normal a w) :
    ∀ fuel, wpAnyHI F n P md ops Q S fuel listed a w
  | 0 => ⟨hr, h⟩
  | _ + 1 => ⟨fun _ => h, by rw [hr]; simp⟩
theorem wpIn_region_held_drew {id : Nat} {a : Act} {w : World} (hm : P.follows .mixedOrders = true) (hS : S w.drew)
    (h : S w.drew → wpAnyHI F n P .any ops Q S ops.size (Array.replicate ops.size false) a w.drew) : (Code.region id ops true).wpIn F n P Q a w :=
  wpIn_region_any hm (wpAnyIn_of_held _ _ _ _ (h hS))
end
end Go.Proofs.YtckffliiidgilaaDoor
/- Inside a fence, in a round too: a region that draws its order: a head whose reads are taken first (HeldIn), a tail that waits for it. -/
namespace Go.Proofs.YtckffliiidgilaaDoor
set_option linter.unusedVariables false
set_option linter.unusedSimpArgs false
open Go
section
variable {F : Fence} {n : Nat} {P : Program} {md : Region.Mode} {ops ops' : Array Oper} {S : World → Prop}
/-- What is asked behind the head; an end other than the normal one is as it was. -/
def endQ (Qt : Act → World → Prop) (Q : Exit → Act → World → Prop) (e : Exit) (a : Act) (w : World) : Prop :=
  match e with
  | .normal => Qt a w
  | e => Q e a w
theorem letsOut_endQ {Qt : Act → World → Prop} {Q : Exit → Act → World → Prop} (h : LetsOut (endQ Qt Q)) : LetsOut Q := h
theorem wpIn_endQ {o : Oper} {a : Act} {K K' : Act → World → Prop} {Qt : Act → World → Prop} {Q : Exit → Act → World → Prop} {w : World} (hK : ∀ a w, K a w → K' a w) (h : o.wpIn F n P a w K (endQ Qt Q)) : o.wpIn F n P a w K' Q := by
  unfold Oper.wpIn at *
  refine ⟨h.1, ?_⟩
  have hh := h.2
  generalize (o.semAt F.round a.eval).run P w = r at *
  cases r with
  | ok x w' =>
    cases x <;> simp only [Oper.uponIn] at hh ⊢
    case value u => exact hK _ _ hh
    case skip => exact hK _ _ hh
    case defer d => exact hK _ _ hh
    case enter f args =>
      refine ⟨hh.1, CallsIn.mono hh.2 fun e w'' he => ?_⟩
      cases e with
      | returned u => exact hK _ _ he
      | panicked c => exact he
      | outgrown => exact letsOut_endQ he
    case row row args => exact ⟨hh.1, RowsIn.mono hh.2 fun u w'' he => hK _ _ he⟩
    case round l f tmps assign body =>
      refine ⟨hh.1, RoundIn.mono hh.2 fun e w'' he => ?_⟩
      cases e with
      | returned u => exact hK _ _ he
      | panicked c => exact he
      | outgrown => exact letsOut_endQ he
  | halt x w' =>
    cases x <;> simp only [Oper.uponIn] at hh ⊢
    case panic u => exact hh
theorem qt_of_tail {m : Nat} {Qt : Act → World → Prop} {Q : Exit → Act → World → Prop} (hsz : ops'.size = ops.size) (hh : ∀ i, i < m → ops'[i]? = ops[i]?) (ht : ∀ i o, m ≤ i → ops[i]? = some o → ops'[i]? = some (idle o)) (hp : plainB md ops = true) :
    ∀ (fuel : Nat) (listed : Array Bool) (a : Act) (w : World), listed.size = ops.size → (∀ i, i < m → listed.getD i true = true) → wpAnyHI F n P md ops' (endQ Qt Q) S fuel listed a w → Qt a w
  | 0, _, _, _, _, _, h => h.2
  | fuel + 1, listed, a, w, hs, hd, h => by
    cases hr : Region.ready md ops' listed with
    | nil => exact h.1 hr
    | cons i r =>
      have hi : i ∈ Region.ready md ops' listed := by rw [hr]; exact List.mem_cons_self
      have hi2 := hi
      rw [ready_idles hsz hh ht] at hi2
      obtain ⟨hun, o, ho, _⟩ := mem_ready.1 hi2
      have him : m ≤ i := Nat.le_of_not_lt fun hlt => by rw [hd i hlt] at hun; cases hun
      have hq := h.2 i hi
      unfold wpOpIn at hq
      rw [ht i o him ho] at hq
      simp only [] at hq
      rw [if_pos (wanted_free (o := idle o) (plain_spec hp ho).1 _)] at hq
      have h2 := hq.2
      rw [Oper.semAt_eq _ _ _ (fun c e => by cases e)] at h2
      have h4 : wpAnyHI F n P md ops' (endQ Qt Q) S fuel (listed.setIfInBounds i true) a w := h2.2
      exact qt_of_tail hsz hh ht hp fuel _ a w (by rw [Array.size_setIfInBounds]; exact hs) (fun j hj => by rw [getD_set_ne true (by omega)]; exact hd j hj) h4
theorem wpAnyIn_of_idlesH {m : Nat} {Qt : Act → World → Prop} {Q' : Exit → Act → World → Prop} (hsz : ops'.size = ops.size) (hh : ∀ i, i < m → ops'[i]? = ops[i]?) (ht : ∀ i o, m ≤ i → ops[i]? = some o → ops'[i]? = some (idle o))
    (hmlt : m < ops.size) (hp : plainB md ops = true) (hk : (Region.sinkB md ops m && Region.chainB md ops m) = true)
    (hQ : ∀ a w g, Qt a w → wpAnyIn F n P md ops Q' (ops.size - m + g) (finAt m ops.size) a w) :
    ∀ (fuel : Nat) (listed : Array Bool) (a : Act) (w : World), HeadInv md ops m listed → unl listed ≤ fuel →
      wpAnyHI F n P md ops' (endQ Qt Q') S fuel listed a w → wpAnyIn F n P md ops Q' fuel listed a w := by
  have hkk := hk
  rw [Bool.and_eq_true] at hkk
  intro fuel
  induction fuel with
  | zero =>
    intro listed a w inv hu h
    have hs := inv.size
    have hun := inv.tail m (Nat.le_refl _) hmlt
    have := h.1
    rw [ready_idles hsz hh ht] at this
    exact absurd this (some_ready hp hs m hmlt hun)
  | succ fuel ih =>
    intro listed a w inv hu h
    have hs := inv.size
    have hun := inv.tail m (Nat.le_refl _) hmlt
    by_cases hmr : m ∈ Region.ready md ops listed
    · have hd : ∀ i, i < m → listed.getD i true = true := fun i hi => by
        cases hx : listed.getD i true with
        | true => rfl
        | false => exact absurd hmr (tail_waits hkk.1 hkk.2 hmlt inv _ i rfl hi hx m (Nat.le_refl _))
      have hqa := qt_of_tail hsz hh ht hp (fuel + 1) listed a w hs hd h
      have hf := fin_of (Nat.le_of_lt hmlt) inv hd
      rw [hf] at hu ⊢
      rw [unl_fin m ops.size (Nat.le_of_lt hmlt)] at hu
      have := hQ a w (fuel + 1 - (ops.size - m)) hqa
      rw [show ops.size - m + (fuel + 1 - (ops.size - m)) = fuel + 1 by omega] at this
      exact this
    · refine ⟨fun h0 => absurd h0 (some_ready hp hs m hmlt hun), fun i hi => ?_⟩
      have hq := h.2 i (by rw [ready_idles hsz hh ht]; exact hi)
      obtain ⟨hiun, oi, hoi, hall⟩ := mem_ready.1 hi
      have his : i < ops.size := (Array.getElem?_eq_some_iff.1 hoi).1
      have hlt : i < m := by
        refine Nat.lt_of_not_le fun him => ?_
        by_cases e : i = m
        · subst e; exact hmr hi
        · have h1 := List.all_eq_true.1 hkk.2 i (List.mem_range.2 his)
          simp only [Bool.or_eq_true, decide_eq_true_eq] at h1
          rcases h1 with h1 | h1
          · omega
          · obtain ⟨o', ho', e', he', hb', hon'⟩ := Region.waitsFor_spec h1
            have : o' = oi := Option.some.inj (ho'.symm.trans hoi)
            subst this
            have h2 := hall e' he' hb'
            rw [hon', getD_both (inv.tail (i - 1) (by omega) (by omega))] at h2
            cases h2
      unfold wpOpIn at hq ⊢
      rw [hh i hlt, hoi] at hq
      simp only [hoi] at hq ⊢
      rw [if_pos (wanted_free (plain_spec hp hoi).1 _)] at hq ⊢
      exact wpIn_endQ (fun a' w' hkq => ih (listed.setIfInBounds i true) a' w' (inv.set hi hlt) (by have := unl_set (listed := listed) (i := i) (by omega) hiun; omega) hkq.2) hq
/-- The head: m operations, S kept; then the tail, in the text's order. -/
theorem wpIn_region_heldtail {id : Nat} {Q : Exit → Act → World → Prop} {a : Act} {w : World} {L : List Oper} (m : Nat) (S : World → Prop) (hn : m < L.length) (hm : P.follows .mixedOrders = true)
    (hp : plainB .any L.toArray = true) (hk : (Region.sinkB .any L.toArray m && Region.chainB .any L.toArray m) = true) (hs : Region.seqB .any L.toArray (L.drop m).length m (finAt m L.toArray.size) = true)
    (hS : S w.drew)
    (h : S w.drew → wpAnyHI F n P .any (L.take m ++ (L.drop m).map idle).toArray (endQ (fun a' w' => wpListIn F n P L.toArray Q (L.drop m) a' w') Q) S L.toArray.size (Array.replicate L.toArray.size false) a w.drew) : (Code.region id L.toArray true).wpIn F n P Q a w := by
  have htl : (L.take m).length = m := by simp; omega
  have hsz : (L.take m ++ (L.drop m).map idle).toArray.size = L.toArray.size := by simp; omega
  have hh : ∀ i, i < m → (L.take m ++ (L.drop m).map idle).toArray[i]? = L.toArray[i]? := fun i hi => by
    rw [List.getElem?_toArray, List.getElem?_append_left (by omega), List.getElem?_toArray, List.getElem?_take, if_pos hi]
  have ht : ∀ i o, m ≤ i → L.toArray[i]? = some o → (L.take m ++ (L.drop m).map idle).toArray[i]? = some (idle o) := fun i o hi ho => by
    rw [List.getElem?_toArray] at ho
    rw [List.getElem?_toArray, List.getElem?_append_right (by omega), htl, List.getElem?_map, List.getElem?_drop, show m + (i - m) = i by omega, ho]; rfl
  have inv0 : HeadInv .any L.toArray m (Array.replicate L.toArray.size false) :=
    ⟨by simp, fun j oj _ hl => (by rw [getD_replicate_false] at hl; cases hl), fun t _ ht => getD_in (by simpa using ht) (getD_replicate_false _ _)⟩
  refine wpIn_region_any hm (wpAnyIn_of_idlesH (S := S) (m := m) (Qt := fun a' w' => wpListIn F n P L.toArray Q (L.drop m) a' w') hsz hh ht (by simpa using hn) hp hk (fun a w g hq => ?_) _ _ _ _ inv0 (unl_none _) (h hS))
  have e : L.toArray.size - m = (L.drop m).length := by simp
  rw [e]
  exact wpAnyIn_of_seq_more (L.drop m) m g _ a w (fun j => by rw [List.getElem?_toArray, List.getElem?_drop]) hs hq
end
end Go.Proofs.YtckffliiidgilaaDoor
namespace Go.Proofs.YtckffliiidgilaaDoor
set_option linter.unusedVariables false
set_option linter.unusedSimpArgs false
open Go Go.RowKit
theorem empty_own (w : World) : (w.alloc (.cells #[] 2)).ownsRow w.heap.size 2 1 (.slice (some ⟨w.heap.size, 0, none⟩) 0 0) 0 (icells []) :=
  ⟨rfl, .inr ⟨w.heap.size, 0, #[], rfl, Nat.le_refl _, Blk.new _ _ _ _ rfl, Nat.le_refl _, by simp [maxLen], rfl, rfl⟩⟩
set_option maxRecDepth 100000 in
set_option maxHeartbeats 1000000 in
theorem clone41 (b off cap : Nat) (zs : List Int) (w : World) (hs : SlI w (some ⟨b, off, none⟩) zs) (hl : zs.length ≤ 1048576) :
    Calls Tryd.prog 56 #[.slice (some ⟨b, off, none⟩) zs.length cap] w fun e w' => ∃ g c, e = .returned (.slice (some ⟨g, 0, none⟩) zs.length c) ∧ w'.ownsRow w.heap.size 2 1 (.slice (some ⟨g, 0, none⟩) zs.length c) zs.length (icells zs) ∧ Below w.heap.size w w' := by
  have hq : ∀ W : World, (binOp .eql 25 (.slice (some ⟨b, off, none⟩) zs.length cap) (.slice none 0 0)).run Tryd.prog W = .ok (.bool false) W := fun W => Lib.run_eql_slice_nil W 25 2 (some ⟨b, off, none⟩) zs.length cap 0 0 Tryd.underlying25
  obtain ⟨t0, hi2, hz0, hz1, hz3⟩ := info_parts info2
  have HIF := hidd (And.intro hi2 (And.intro hz0 (And.intro hz1 hz3)))
  have hown := empty_own w
  have HSL := hidd hs
  clear hi2 hz0 hz1 hz3 hs
  go_enter Tryd.func56, Tryd.ntmps56
  go_wp2_with (at_builtin; refine wpList_append_own _ rfl _ _ 25 rfl w.heap.size 2 t0 (.int .i64 0) 1 8 Tryd.underlying25 HIF.out.1 HIF.out.2.1 HIF.out.2.2.1 HIF.out.2.2.2 rfl (by decide) _ _ _ rfl hown ⟨b, off, none⟩ zs.length cap (icells zs) rfl ?c0 ?c1 ?c2 ?c3 ?c4 ?c5 ?_)
  case c0 => simp [icells]
  case c1 =>
    intro j u hu
    have hj : j < zs.length := by have := (List.getElem?_eq_some_iff.1 hu).1; simpa [icells] using this
    rcases HSL.out with hz | ⟨b', off', ha, hc⟩
    · subst hz; simp at hj
    · cases ha
      have h1 := hc j hj
      have h2 := (show (icells zs)[j]? = some (Value.int .i64 (zs.getD j 0)) by simpa using icells_get hj)
      rw [h2] at hu; cases hu
      have hlt := block_lt_of_cell h1
      rw [show (⟨b, off, none⟩ : Addr).add j = ⟨b, off + j, none⟩ from by simp [Addr.add]]
      rw [Below.cell ((Below.refl w.heap.size w).alloc (Nat.le_refl _) (.cells #[] 2)) (by exact hlt)]
      exact h1
  case c2 => intro u hu; simp only [icells, List.mem_map] at hu; obtain ⟨x, _, rfl⟩ := hu; rfl
  case c3 => unfold maxLen; omega
  case c4 => omega
  case c5 => simp
  intro v' w1 hown' hgrow hnn
  have hb1 := ((Below.refl w.heap.size w).alloc (Nat.le_refl _) (.cells #[] 2)).grown hgrow (by simp) (fun k hk => by cases hk; exact Nat.le_refl _)
  simp only [Nat.zero_add, icells, List.map_nil, List.nil_append] at hown'
  have R := hidd (And.intro hown' (And.intro hb1 hnn))
  clear hown' hgrow hnn hb1 hown
  go_wp2
  go_ret
  obtain ⟨r1, r2, r3⟩ := R.out
  rcases r1.2 with ⟨rfl, _⟩ | ⟨g, c, cur, rfl, hx⟩
  · exact (r3 rfl).elim
  · exact ⟨g, c, rfl, r1, r2⟩
end Go.Proofs.YtckffliiidgilaaDoor
/- ExtensionList: what it answers; the model. -/
namespace Go.Proofs.YtckffliiidgilaaDoor
set_option linter.unusedVariables false
set_option linter.unusedSimpArgs false
open Go Go.RowKit Go.Shelf
def elA (n k : Int) (bs : List Nat) (zs : List Int) : List (List Int) := exA bs n.toNat k.toNat zs
def elL (n k : Int) (bs : List Nat) (zs : List Int) : List (List Int) := if eaC 12 n k bs zs = 0 then (if 200 < (elA n k bs zs).length then [] else elA n k bs zs) else []
def elC (n k : Int) (bs : List Nat) (zs : List Int) : Int := if eaC 12 n k bs zs = 0 then (if 200 < (elA n k bs zs).length then 3 else 0) else eaC 12 n k bs zs
theorem el_bad {n k : Int} {bs : List Nat} {zs : List Int} (h : eaC 12 n k bs zs ≠ 0) : elL n k bs zs = [] ∧ elC n k bs zs = eaC 12 n k bs zs := by
  unfold elL elC; rw [if_neg h, if_neg h]; exact ⟨rfl, rfl⟩
theorem el_many {n k : Int} {bs : List Nat} {zs : List Int} (h : eaC 12 n k bs zs = 0) (h2 : 200 < (elA n k bs zs).length) : elL n k bs zs = [] ∧ elC n k bs zs = 3 := by
  unfold elL elC; rw [if_pos h, if_pos h, if_pos h2, if_pos h2]; exact ⟨rfl, rfl⟩
theorem el_few {n k : Int} {bs : List Nat} {zs : List Int} (h : eaC 12 n k bs zs = 0) (h2 : ¬ 200 < (elA n k bs zs).length) : elL n k bs zs = elA n k bs zs ∧ elC n k bs zs = 0 := by
  unfold elL elC; rw [if_pos h, if_pos h, if_neg h2, if_neg h2]; exact ⟨rfl, rfl⟩
theorem elA_row {n k : Int} {bs : List Nat} {zs : List Int} : ∀ x ∈ elA n k bs zs, x.length = n.toNat := fun x hx => by
  have := exL_len _ _ _ _ hx
  simpa using this
theorem elL_len {n k : Int} {bs : List Nat} {zs : List Int} : (elL n k bs zs).length ≤ 200 ∧ ∀ z ∈ elL n k bs zs, z.length ≤ 17 := by
  by_cases h : eaC 12 n k bs zs = 0
  · by_cases h2 : 200 < (elA n k bs zs).length
    · rw [(el_many h h2).1]; simp
    · rw [(el_few h h2).1]
      obtain ⟨_, _, h12⟩ := eaC_ok h
      exact ⟨by omega, fun z hz => by rw [elA_row z hz]; omega⟩
  · rw [(el_bad h).1]; simp
theorem LLb.reads {R : Nat} {w : World} {B : Nat} {v : Value} {L : List (List Int)} (h : LLb R w B v L) : ∃ a cap, v = .slice a L.length cap ∧ LLr w a L := by
  obtain ⟨g, cap, xs, hv, _, _, _, _, hc, hr⟩ := h.at
  refine ⟨_, cap, hv, .inr ⟨g, rfl, fun j hj => ?_⟩⟩
  obtain ⟨a, c, h3, h4⟩ := hr j (L.getD j []) (by simp [List.getD, hj])
  exact ⟨a, c, hc j _ h3, h4.sl⟩
theorem llout0_nil {w w' : World} {code : Int} {e : Ending} (he : e = .returned (.tuple #[.slice none 0 0, .int .i64 code])) (hb : Below w.heap.size w w') : LLOut0 w [] code e w' := ⟨none, 0, he, .inl rfl, hb⟩
set_option maxRecDepth 100000 in
set_option maxHeartbeats 4000000 in
theorem spec24 (n k : Int) (bs : List Nat) (hb : Bys bs) (zs : List Int) (a : Option Addr) (cap : Nat) (w : World) (hs : SlI w a zs) (hl : zs.length ≤ 1048576) :
    Calls Tryd.prog 24 #[.agg (ccells n k bs).toArray, .slice a zs.length cap] w fun e w' => LLOut0 w (elL n k bs zs) (elC n k bs zs) e w' := by
  have HS := hidd (size_c26 n k hb)
  have HSL := hidd hs
  have HCO := hidd (fun W h => small51 n k bs hb zs a cap W h hl)
  have HG := hidd (And.intro (Blk.new w (ccells n k bs).toArray 28 _ rfl) ((Below.refl w.heap.size w).alloc (Nat.le_refl _) (.cells (ccells n k bs).toArray 28)))
  obtain ⟨W0, hW0⟩ : ∃ W0, W0 = w.alloc (.cells (ccells n k bs).toArray 28) := ⟨_, rfl⟩
  rw [← hW0] at HG
  by_cases h0 : eaC 12 n k bs zs = 0
  · obtain ⟨hsz, hav, hn12⟩ := eaC_ok h0
    obtain ⟨hi, ho⟩ := szCode_ok hsz
    obtain ⟨n1, n2, k1, k2⟩ := isCol_bd hi
    obtain ⟨hlk, hsp⟩ := szOk_bd ho
    obtain ⟨N, rfl⟩ := Int.eq_ofNat_of_zero_le (show 0 ≤ n by omega)
    obtain ⟨K, rfl⟩ := Int.eq_ofNat_of_zero_le (show 0 ≤ k by omega)
    have hlK : zs.length = K := by omega
    rw [hlK] at hsp
    have HAL := hidd (fun W h => all54 N K 201 bs hb zs a cap hlK (by omega) (by omega) (by omega) (by omega) (no1_of_av (by omega) hsp hav) hsp (by omega) (by omega) W h)
    rw [show exA bs N K zs = elA (N : Int) (K : Int) bs zs from rfl] at HAL
    rw [h0, hlK] at HCO
    rw [hlK]
    obtain ⟨L, hL⟩ : ∃ L, L = (elA (N : Int) (K : Int) bs zs).take 201 := ⟨_, rfl⟩
    rw [← hL] at HAL
    obtain ⟨ln, hln⟩ : ∃ ln, ln = L.length := ⟨_, rfl⟩
    have HLN := hidd hln
    by_cases h2 : 200 < (elA (N : Int) (K : Int) bs zs).length
    · obtain ⟨hv, hc⟩ := el_many h0 h2
      rw [hv, hc]
      have hgt : decide ((ln : Int) > 200) = true := decide_eq_true (by rw [hln, hL, List.length_take]; omega)
      have hgt2 : decide (200 < (ln : Int)) = true := hgt
      have hgt3 : decide (200 < ln) = true := decide_eq_true (by have := of_decide_eq_true hgt; omega)
      clear hv hc hsz hav hi ho hlk hsp h0 hl hs h2 hL hln
      go_enter Tryd.func24, Tryd.ntmps24
      go_upto_region 1 with fail
      rw [← hW0]
      clear hW0
      go_wp2_with (refine wpList_load_row rfl 28 (.tmp 2) rfl w.heap.size rfl 28 _ (0,0) _ HG.out.1 Tryd.underlying28 rfl HS.out ?_)
      refine (HCO.out _ (HSL.out.below HG.out.2 (Nat.le_refl _))).mono ?_
      rintro e w1 ⟨rfl, hb1⟩
      have G1 := hidd (And.intro (HG.out.1.below hb1 HG.out.1.lt) (HG.out.2.trans (hb1.mono HG.out.2.size)))
      clear hb1
      go_wp2_with (refine wpList_load_row rfl 28 (.tmp 2) rfl w.heap.size rfl 28 _ (0,0) _ G1.out.1 Tryd.underlying28 rfl HS.out ?_)
      refine (HAL.out _ (HSL.out.below G1.out.2 (Nat.le_refl _))).mono ?_
      rintro r w2 ⟨v, rfl, hL, hb2⟩
      obtain ⟨a3, cap3, rfl, _⟩ := hL.reads
      rw [← HLN.out]
      have G2 := hidd (G1.out.2.trans (hb2.mono G1.out.2.size))
      clear hb2 hL
      go_wp2_with fail
      go_ret2
      exact llout0_nil rfl G2.out
    · obtain ⟨hv, hc⟩ := el_few h0 h2
      have hLe : L = elA (N : Int) (K : Int) bs zs := by rw [hL]; exact List.take_of_length_le (by omega)
      rw [hv, hc, ← hLe]
      have hgt : decide ((ln : Int) > 200) = false := decide_eq_false (by rw [hln, hLe]; omega)
      have hgt2 : decide (200 < (ln : Int)) = false := hgt
      have hgt3 : decide (200 < ln) = false := decide_eq_false (by have := of_decide_eq_false hgt; omega)
      clear hv hc hsz hav hi ho hlk hsp h0 hl hs h2 hL hln hLe
      go_enter Tryd.func24, Tryd.ntmps24
      go_upto_region 1 with fail
      rw [← hW0]
      clear hW0
      go_wp2_with (refine wpList_load_row rfl 28 (.tmp 2) rfl w.heap.size rfl 28 _ (0,0) _ HG.out.1 Tryd.underlying28 rfl HS.out ?_)
      refine (HCO.out _ (HSL.out.below HG.out.2 (Nat.le_refl _))).mono ?_
      rintro e w1 ⟨rfl, hb1⟩
      have G1 := hidd (And.intro (HG.out.1.below hb1 HG.out.1.lt) (HG.out.2.trans (hb1.mono HG.out.2.size)))
      clear hb1
      go_wp2_with (refine wpList_load_row rfl 28 (.tmp 2) rfl w.heap.size rfl 28 _ (0,0) _ G1.out.1 Tryd.underlying28 rfl HS.out ?_)
      refine (HAL.out _ (HSL.out.below G1.out.2 (Nat.le_refl _))).mono ?_
      rintro r w2 ⟨v, rfl, hL, hb2⟩
      obtain ⟨a3, cap3, rfl, hR⟩ := hL.reads
      rw [← HLN.out]
      have G2 := hidd (And.intro (G1.out.2.trans (hb2.mono G1.out.2.size)) hR)
      clear hb2 hL hR
      go_wp2_with fail
      go_ret2
      exact ⟨_, _, by rw [← HLN.out]; rfl, G2.out.2, G2.out.1⟩
  · obtain ⟨hv, hc⟩ := el_bad h0
    rw [hv, hc]
    obtain ⟨cd, hcd⟩ : ∃ cd, cd = eaC 12 n k bs zs := ⟨_, rfl⟩
    rw [← hcd] at HCO h0 ⊢
    have hz : (cd != 0) = true := by rw [bne_iff_ne]; exact h0
    clear hs hcd hl h0 hv hc
    go_enter Tryd.func24, Tryd.ntmps24
    go_upto_region 1 with fail
    rw [← hW0]
    clear hW0
    go_wp2_with (refine wpList_load_row rfl 28 (.tmp 2) rfl w.heap.size rfl 28 _ (0,0) _ HG.out.1 Tryd.underlying28 rfl HS.out ?_)
    refine (HCO.out _ (HSL.out.below HG.out.2 (Nat.le_refl _))).mono ?_
    rintro e w1 ⟨rfl, hb1⟩
    have G := hidd (HG.out.2.trans (hb1.mono HG.out.2.size))
    clear hb1
    go_wp2_with fail
    go_ret2
    exact llout0_nil rfl G.out
end Go.Proofs.YtckffliiidgilaaDoor
/- ExtensionList: the program, where it has an error. -/
namespace Go.Proofs.YtckffliiidgilaaDoor
set_option linter.unusedVariables false
set_option linter.unusedSimpArgs false
open Go Go.RowKit Go.Shelf Go.Extern.Stop Go.Stop Go.Extern
attribute [local go_sem] Oper.semAt_some
theorem llout_nil {w w' : World} {code : Int} {e : Ending} (he : e = .returned (.tuple #[.slice none 0 0, .int .i64 code])) (hb : Below w.heap.size w w') : LLOut w [] code e w' := ⟨none, 0, he, .inl rfl, hb⟩
theorem ownL_set {w : World} {B : Nat} {a : Option Addr} {zs : List Int} (h : OwnL w B a zs) (p : Addr) (u : Value) (hp : p.block < B) : OwnL (w.setCell p u) B a zs := by
  rcases h with h | ⟨g, C, h1, h2, h3, h4⟩
  · exact .inl h
  · exact .inr ⟨g, C, h1, h2, h3.other p u (by omega), h4⟩
theorem LLW.set {W : World} {B : Nat} {v : Value} {L : List (List Int)} (h : LLW W B v L) (p : Addr) (u : Value) (hp : p.block < B) : LLW (W.setCell p u) B v L := by
  obtain ⟨A, ⟨hl, h1⟩, h2, h3⟩ := h
  refine ⟨A, ⟨hl, ?_⟩, fun j hj => ownL_set (h2 j hj) p u hp, h3⟩
  rcases h1 with h1 | ⟨g, cap, cur, hv, hg, hc, r⟩
  · exact .inl h1
  · exact .inr ⟨g, cap, cur, hv, hg, (heap_setCell_other W p g u (by omega)).trans hc, r⟩
theorem ownL_away {C D : Nat} {A A' : World} {a : Option Addr} {zs : List Int} (h : OwnL A D a zs) (k : Away C D A A') : OwnL A' D a zs := by
  rcases h with h | ⟨g, C', h1, h2, h3, h4⟩
  · exact .inl h
  · exact .inr ⟨g, C', h1, h2, k.blk h3 (.inr h1), h4⟩
theorem LLW.away {C D : Nat} {A A' : World} {v : Value} {L : List (List Int)} (h : LLW A D v L) (k : Away C D A A') : LLW A' D v L := by
  obtain ⟨X, ⟨hl, h1⟩, h2, h3⟩ := h
  refine ⟨X, ⟨hl, ?_⟩, fun j hj => ownL_away (h2 j hj) k, h3⟩
  rcases h1 with h1 | ⟨g, cap, cur, hv, hg, hc, r⟩
  · exact .inl h1
  · exact .inr ⟨g, cap, cur, hv, hg, k.blk hc (.inr hg), r⟩
/-- The two results in their cells, what was there before, and the extensions' own memory. -/
def RelHx (w : World) (v : Value) (c : Int) (W : World) : Prop := Blk W (w.heap.size + 1) #[v] 39 ∧ Blk W (w.heap.size + 1 + 1) #[.int .i64 c] 2 ∧ Below w.heap.size w W
theorem RelHx.put {w W : World} {v : Value} {c : Int} (h : RelHx w v c W) (v' : Value) (c' : Int) : RelHx w v' c' ((W.setCell ⟨w.heap.size + 1, 0, none⟩ v').setCell ⟨w.heap.size + 1 + 1, 0, none⟩ (.int .i64 c')) := by
  have h1 := (h.1.same 0 v').other ⟨w.heap.size + 1 + 1, 0, none⟩ (.int .i64 c') (by show w.heap.size + 1 ≠ w.heap.size + 1 + 1; omega)
  have h2 := (h.2.1.other ⟨w.heap.size + 1, 0, none⟩ v' (by show w.heap.size + 1 + 1 ≠ w.heap.size + 1; omega)).same 0 (.int .i64 c')
  exact ⟨h1, h2, (h.2.2.setCell (by show w.heap.size ≤ w.heap.size + 1; omega) _).setCell (by show w.heap.size ≤ w.heap.size + 1 + 1; omega) _⟩
set_option maxRecDepth 100000 in
set_option maxHeartbeats 4000000 in
theorem impl25_bad (n k : Int) (bs : List Nat) (hb : Bys bs) (zs : List Int) (a : Option Addr) (cap : Nat) (e0 : Addr) (w : World) (hs : SlI w a zs) (hl : zs.length ≤ 1048576) (hE : Er w e0) (h0 : eaC 12 n k bs zs ≠ 0) :
    Calls Tryd.prog 25 #[.agg (ccells n k bs).toArray, .slice a zs.length cap] w fun e w' => LLOut w [] (eaC 12 n k bs zs) e w' := by
  have Hz := zero56
  have HS := hidd (size_c26 n k hb)
  have HSL := hidd hs
  have HE := hidd hE
  have HEN := hidd (fun W h hE => ea47 12 n k bs hb zs a cap e0 W h hl hE)
  have HG := hidd (And.intro (Blk.new w (ccells n k bs).toArray 28 _ rfl) ((Below.refl w.heap.size w).alloc (Nat.le_refl _) (.cells (ccells n k bs).toArray 28)))
  have HG2 := hidd (show Blk (((w.alloc (.cells (ccells n k bs).toArray 28)).alloc (.cells #[.slice none 0 0] 39)).alloc (.cells #[.int .i64 0] 2)) w.heap.size (ccells n k bs).toArray 28 ∧ RelHx w (.slice none 0 0) 0 (((w.alloc (.cells (ccells n k bs).toArray 28)).alloc (.cells #[.slice none 0 0] 39)).alloc (.cells #[.int .i64 0] 2)) from
    ⟨(HG.out.1.alloc _).alloc _, (Blk.new _ _ _ _ (by simp)).alloc _, Blk.new _ _ _ _ (by simp), (HG.out.2.alloc (by simp) _).alloc (by simp; omega) _⟩)
  obtain ⟨W0, hW0⟩ : ∃ W0, W0 = ((w.alloc (.cells (ccells n k bs).toArray 28)).alloc (.cells #[.slice none 0 0] 39)).alloc (.cells #[.int .i64 0] 2) := ⟨_, rfl⟩
  rw [← hW0] at HG2
  obtain ⟨D, hD⟩ : ∃ D, D = (eaS 12 n k bs zs a cap).toArray := ⟨_, rfl⟩
  obtain ⟨cd, hcd⟩ : ∃ cd, cd = eaC 12 n k bs zs := ⟨_, rfl⟩
  have hDs : (Tryd.prog.info? 56).map (·.size) = some D.size ∧ (scl 0 0 zbl none 0 0).toArray.size = D.size ∧ D.all (·.oneCell') = true := by
    rw [hD]; unfold eaS
    split
    · exact ⟨size_s56 hb _ _ _, by simp [scl_len zbl_bys, scl_len hb], scl_one⟩
    · exact ⟨size_s56 zbl_bys _ _ _, rfl, scl_one⟩
  have HD := hidd hDs
  rw [← hD, ← hcd] at HEN
  rw [← hcd] at h0 ⊢
  have hne : (cd != 0) = true := by rw [bne_iff_ne]; exact h0
  have HJ := hidd (fun (W1 : World) (hb1 : Below W0.heap.size W0 W1) =>
    (show RelHx w (.slice none 0 0) 0 ((W1.alloc (.cells (scl 0 0 zbl none 0 0).toArray 56)).setRow W1.heap.size D) from by
      have k1 := HG2.out.2.1.below hb1 HG2.out.2.1.lt
      have k2 := HG2.out.2.2.1.below hb1 HG2.out.2.2.1.lt
      have h1 := k1.lt
      have h2 := k2.lt
      have k3 := HG2.out.2.2.2.trans (hb1.mono HG2.out.2.2.2.size)
      exact ⟨(k1.alloc _).rowOther _ _ (by omega), (k2.alloc _).rowOther _ _ (by omega), below_setRow (k3.alloc (by omega) _) (by omega) _⟩))
  clear hDs hs hE hD hcd h0 HG
  go_enter Tryd.func25, Tryd.ntmps25
  go_upto_region 1 with fail
  rw [← hW0]
  clear hW0
  go_wp2_with (refine wpList_load_row rfl 28 (.tmp 2) rfl w.heap.size rfl 28 _ (0,0) _ HG2.out.1 Tryd.underlying28 rfl HS.out ?_)
  refine (HEN.out _ (HSL.out.below HG2.out.2.2.2 (Nat.le_refl _)) (HE.out.below HG2.out.2.2.2 HE.out.lt)).mono ?_
  rintro e w1 ⟨rfl, hb1⟩
  have J := hidd (HJ.out w1 hb1)
  clear hb1
  obtain ⟨W4, hW4⟩ : ∃ W4, W4 = (w1.alloc (.cells (scl 0 0 zbl none 0 0).toArray 56)).setRow w1.heap.size D := ⟨_, rfl⟩
  rw [← hW4] at J
  go_upto_region 2 with (refine wpList_store_row rfl 56 (.tmp 6) (.tmp 14) rfl w1.heap.size _ rfl rfl 56 _ (Blk.new _ _ _ _ rfl) HD.out.1 HD.out.2.1 HD.out.2.2 ?_)
  rw [← hW4]
  clear hW4
  have c4 := J.out.1.cell (j := 0) (show _ = some (Value.slice none 0 0) from rfl)
  have f4 := J.out.1.fro 0
  have c5 := J.out.2.1.cell (j := 0) (show _ = some (Value.int .i64 0) from rfl)
  have f5 := J.out.2.1.fro 0
  go_wp2_with fail
  have K := hidd (J.out.put (.slice none 0 0) cd)
  have e4 := K.out.1.cell (j := 0) (show _ = some (Value.slice none 0 0) from rfl)
  have e5 := K.out.2.1.cell (j := 0) (show _ = some (Value.int .i64 cd) from rfl)
  refine bodyPost_ret (v := .tuple #[.slice none 0 0, .int .i64 cd]) (by simp [results, Tryd.results25, go_sem, e4, e5]) rfl ?_
  exact llout_nil rfl K.out.2.2
theorem RelHx.away {w A A' : World} {v : Value} {c : Int} {C D : Nat} (h : RelHx w v c A) (k : Away C D A A') (hC : w.heap.size + 3 ≤ C) : RelHx w v c A' :=
  ⟨k.blk h.1 (.inl (by omega)), k.blk h.2.1 (.inl (by omega)), below_away h.2.2 k (by omega) (Nat.le_refl _)⟩
theorem RelHx.below {w A A' : World} {v : Value} {c : Int} {C : Nat} (h : RelHx w v c A) (k : Below C A A') (hC : w.heap.size + 3 ≤ C) : RelHx w v c A' :=
  ⟨h.1.below k (by omega), h.2.1.below k (by omega), h.2.2.trans (k.mono (by omega))⟩
theorem RelHx.other {w A : World} {v : Value} {c : Int} (h : RelHx w v c A) (p : Addr) (u : Value) (hp : w.heap.size + 3 ≤ p.block) : RelHx w v c (A.setCell p u) :=
  ⟨h.1.other p u (by omega), h.2.1.other p u (by omega), h.2.2.setCell (by omega) u⟩
end Go.Proofs.YtckffliiidgilaaDoor
/- ExtensionList: the program, where the sizes are avoided. -/
namespace Go.Proofs.YtckffliiidgilaaDoor
set_option linter.unusedVariables false
set_option linter.unusedSimpArgs false
open Go Go.RowKit Go.Shelf Go.Extern.Stop Go.Stop Go.Extern
attribute [local go_sem] Oper.semAt_some
/-- The results' cells, and the list that grows, in memory behind the iterator's. -/
def RelEl (w : World) (b8 D : Nat) (pre : List (List Int)) (W : World) : Prop := RelHx w (.slice none 0 0) 0 W ∧ (∃ v, Blk W b8 #[v] 39 ∧ LLW W D v pre) ∧ pre.length ≤ 200
set_option maxRecDepth 100000 in
set_option maxHeartbeats 4000000 in
theorem impl25_good (N K : Nat) (bs : List Nat) (hb : Bys bs) (zs : List Int) (bl off cap : Nat) (e0 : Addr) (w : World) (hs : SlI w (some ⟨bl, off, none⟩) zs) (hl : zs.length ≤ 1048576) (hE : Er w e0) (h0 : eaC 12 (N : Int) (K : Int) bs zs = 0) (hlK : zs.length = K) (n1 : 1 ≤ N) (n12 : N ≤ 12) (k1 : 1 ≤ K) (k4 : K ≤ 4) (h2 : no1 zs K) (hsp : szP zs K = true) (hbl : bl < w.heap.size) :
    Calls Tryd.prog 25 #[.agg (ccells (N : Int) (K : Int) bs).toArray, .slice (some ⟨bl, off, none⟩) K cap] w fun e w' => LLOut w (elL (N : Int) (K : Int) bs zs) (elC (N : Int) (K : Int) bs zs) e w' := by
  have Hz := zero56
  have HS := hidd (size_c26 (N : Int) (K : Int) hb)
  have HSL := hidd hs
  have HE := hidd hE
  have HEN := hidd (fun W h hE => ea47 12 (N : Int) (K : Int) bs hb zs (some ⟨bl, off, none⟩) cap e0 W h hl hE)
  rw [h0, hlK] at HEN
  have HG := hidd (And.intro (Blk.new w (ccells (N : Int) (K : Int) bs).toArray 28 _ rfl) ((Below.refl w.heap.size w).alloc (Nat.le_refl _) (.cells (ccells (N : Int) (K : Int) bs).toArray 28)))
  have HG2 := hidd (show Blk (((w.alloc (.cells (ccells (N : Int) (K : Int) bs).toArray 28)).alloc (.cells #[.slice none 0 0] 39)).alloc (.cells #[.int .i64 0] 2)) w.heap.size (ccells (N : Int) (K : Int) bs).toArray 28 ∧ RelHx w (.slice none 0 0) 0 (((w.alloc (.cells (ccells (N : Int) (K : Int) bs).toArray 28)).alloc (.cells #[.slice none 0 0] 39)).alloc (.cells #[.int .i64 0] 2)) ∧ w.heap.size + 3 ≤ (((w.alloc (.cells (ccells (N : Int) (K : Int) bs).toArray 28)).alloc (.cells #[.slice none 0 0] 39)).alloc (.cells #[.int .i64 0] 2)).heap.size from
    ⟨(HG.out.1.alloc _).alloc _, ⟨(Blk.new _ _ _ _ (by simp)).alloc _, Blk.new _ _ _ _ (by simp), (HG.out.2.alloc (by simp) _).alloc (by simp; omega) _⟩, by simp⟩)
  obtain ⟨D, hD⟩ : ∃ D, D = (scl (N : Int) (K : Int) bs (some ⟨bl, off, none⟩) K cap).toArray := ⟨_, rfl⟩
  have hDe : eaS 12 (N : Int) (K : Int) bs zs (some ⟨bl, off, none⟩) cap = scl (N : Int) (K : Int) bs (some ⟨bl, off, none⟩) K cap := by unfold eaS; rw [if_pos h0, hlK]
  rw [hDe, ← hD] at HEN
  have HD := hidd (show (Tryd.prog.info? 56).map (·.size) = some D.size ∧ (scl 0 0 zbl none 0 0).toArray.size = D.size ∧ D.all (·.oneCell') = true from by
    rw [hD]; exact ⟨size_s56 hb _ _ _, by simp [scl_len zbl_bys, scl_len hb], scl_one⟩)
  have H55 := hidd (fun W => at55 (N : Int) (K : Int) bs hb (some ⟨bl, off, none⟩) K cap D hD W)
  have HIT := hidd (fun bx W (hX : Blk W bx D 56) hs hbl => iter84 0 N K bs hb zs bl off cap bx W hlK n1 n12 k1 k4 h2 hsp (by rw [← hD]; exact hX) hs hbl)
  have HJ := hidd (fun (W0 W1 : World) (h : RelHx w (.slice none 0 0) 0 W0) (h3 : w.heap.size + 3 ≤ W0.heap.size) (hb1 : Below W0.heap.size W0 W1) =>
    (show RelHx w (.slice none 0 0) 0 ((W1.alloc (.cells (scl 0 0 zbl none 0 0).toArray 56)).setRow W1.heap.size D) ∧ Blk ((W1.alloc (.cells (scl 0 0 zbl none 0 0).toArray 56)).setRow W1.heap.size D) W1.heap.size D 56 ∧ w.heap.size + 3 ≤ ((W1.alloc (.cells (scl 0 0 zbl none 0 0).toArray 56)).setRow W1.heap.size D).heap.size from by
      have k1 := h.1.below hb1 h.1.lt
      have k2 := h.2.1.below hb1 h.2.1.lt
      have h1 := k1.lt
      have h2 := k2.lt
      have k3 := h.2.2.trans (hb1.mono h.2.2.size)
      have hsz := hb1.size
      exact ⟨⟨(k1.alloc _).rowOther _ _ (by omega), (k2.alloc _).rowOther _ _ (by omega), below_setRow (k3.alloc (by omega) _) (by omega) _⟩, (Blk.new _ _ _ _ rfl).rowSame _, by
        have := (below_setRow (B := W1.heap.size) ((Below.refl W1.heap.size W1).alloc (Nat.le_refl _) (.cells (scl 0 0 zbl none 0 0).toArray 56)) (Nat.le_refl W1.heap.size) D).size
        omega⟩))
  obtain ⟨L, hL⟩ : ∃ L, L = exA bs N K zs := ⟨_, rfl⟩
  rw [← hL] at HIT
  have HXL := hidd (fun x (hx : x ∈ L) => (show x.length = N from by rw [hL] at hx; have := exL_len _ _ _ _ hx; simpa using this))
  have HV := hidd (show (200 < L.length → elL (N : Int) (K : Int) bs zs = [] ∧ elC (N : Int) (K : Int) bs zs = 3) ∧ (¬ 200 < L.length → elL (N : Int) (K : Int) bs zs = L ∧ elC (N : Int) (K : Int) bs zs = 0) from
    ⟨fun h => el_many h0 (by rw [hL] at h; exact h), fun h => by rw [hL] at h ⊢; exact el_few h0 h⟩)
  obtain ⟨fv, hfv⟩ : ∃ fv, fv = elL (N : Int) (K : Int) bs zs := ⟨_, rfl⟩
  obtain ⟨fc, hfc⟩ : ∃ fc, fc = elC (N : Int) (K : Int) bs zs := ⟨_, rfl⟩
  rw [← hfv, ← hfc] at HV ⊢
  obtain ⟨t0, hi2, hz0, hz1, hz3⟩ := info_parts info25
  have HIF := hidd (And.intro hi2 (And.intro hz0 (And.intro hz1 hz3)))
  clear hs hE h0 HG hDe hD hL hfv hfc hsp h2 hb hi2 hz0 hz1 hz3
  refine (callsIn_wide (n := 2)).1 (callsIn_of_wp_marks Tryd.func25 rfl trivial ?_ rfl)
  simp only [Tryd.ntmps25, List.size_toArray, List.length_cons, List.length_nil, Nat.reduceAdd, Nat.reduceSub, Array.replicate_succ, Array.replicate_zero, List.push_toArray, List.append_toArray, List.nil_append, List.cons_append]
  gi_wp2_with (refine inLoadRow rfl 28 (.tmp 2) rfl w.heap.size rfl 28 _ _ HG2.out.1 Tryd.underlying28 rfl HS.out ?_)
  refine ⟨trivial, (callsIn_wide.2 (HEN.out _ (HSL.out.below HG2.out.2.1.2.2 (Nat.le_refl _)) (HE.out.below HG2.out.2.1.2.2 HE.out.lt))).mono ?_⟩
  rintro e w1 ⟨rfl, hb1⟩
  have J := hidd (HJ.out _ w1 HG2.out.2.1 HG2.out.2.2 hb1)
  clear hb1
  obtain ⟨W4, hW4⟩ : ∃ W4, W4 = (w1.alloc (.cells (scl 0 0 zbl none 0 0).toArray 56)).setRow w1.heap.size D := ⟨_, rfl⟩
  rw [← hW4] at J
  obtain ⟨W6, hW6⟩ : ∃ W6, W6 = W4.alloc (.cells #[.slice none 0 0] 39) := ⟨_, rfl⟩
  have J6 := hidd (show RelHx w (.slice none 0 0) 0 W6 ∧ Blk W6 w1.heap.size D 56 ∧ Blk W6 W4.heap.size #[.slice none 0 0] 39 ∧ w.heap.size + 3 ≤ W4.heap.size ∧ W6.heap.size = W4.heap.size + 1 from by
    rw [hW6]
    exact ⟨J.out.1.below ((Below.refl W4.heap.size W4).alloc (Nat.le_refl _) _) J.out.2.2, J.out.2.1.alloc _, Blk.new _ _ _ _ rfl, J.out.2.2, by simp⟩)
  gi_wp2_with (first
    | (refine inStoreRow rfl 56 (.tmp 6) (.tmp 14) rfl w1.heap.size _ rfl rfl 56 _ (Blk.new _ _ _ _ rfl) HD.out.1 HD.out.2.1 HD.out.2.2 ?_; rw [← hW4]; clear hW4)
    | (rw [← hW6]; clear hW6; refine inLoadRow rfl 56 (.tmp 6) rfl w1.heap.size rfl 56 _ _ J6.out.2.1 Tryd.underlying56 rfl HD.out.1 ?_))
  refine ⟨trivial, (callsIn_wide.2 (H55.out _)).mono ?_⟩
  rintro e w5 ⟨rfl, kB, hb5⟩
  have HR5 := hidd (J6.out.1.below hb5 (by have := J6.out; omega))
  have H5 := hidd (show Blk w5 W6.heap.size D 56 ∧ w.heap.size + 3 ≤ W4.heap.size ∧ W6.heap.size = W4.heap.size + 1 ∧ W6.heap.size < w5.heap.size ∧ Blk w5 W4.heap.size #[.slice none 0 0] 39 from ⟨kB, J6.out.2.2.2.1, J6.out.2.2.2.2, kB.lt, J6.out.2.2.1.below hb5 J6.out.2.2.1.lt⟩)
  have HIT5 := hidd (HIT.out _ w5 kB (HSL.out.below HR5.out.2.2 (Nat.le_refl _)) (Nat.lt_of_lt_of_le hbl HR5.out.2.2.size))
  have HBS := hidd (show ∀ b, b ∈ [W6.heap.size, bl] → b < w5.heap.size ∧ b ≠ W4.heap.size from fun b hb => by
    have := H5.out
    have h2 := HR5.out.2.2.size
    simp only [List.mem_cons, List.not_mem_nil, or_false] at hb
    rcases hb with rfl | rfl
    · exact ⟨H5.out.2.2.2.1, by omega⟩
    · exact ⟨by omega, by omega⟩)
  clear kB hb5
  gi_wp2_with fail
  have HI := hidd (show ∀ Dx, StabD w5.heap.size Dx (RelEl w W4.heap.size Dx) from
    fun Dx pre A A' h hk => ⟨h.1.away hk (by have := H5.out; omega), by
      obtain ⟨v, h1, h2⟩ := h.2.1
      exact ⟨v, hk.blk h1 (.inl (by have := H5.out; omega)), h2.away hk⟩, h.2.2⟩)
  have HIX := hidd (show ∀ (Dx : Nat) (xs : List (List Int)) (A : World) (l : Nat) (o o' : Obj), (RelHx w (.slice none 0 0) 3 A ∧ 200 < L.length) → w5.heap.size ≤ l → l < Dx → A.heap[l]? = some o → o.isCells = false → (RelHx w (.slice none 0 0) 3 (A.putObj l o') ∧ 200 < L.length) from
    fun Dx xs A l o o' ⟨h2, h4⟩ hl1 hl2 ho hc => ⟨⟨blk_put h2.1 ho hc o', blk_put h2.2.1 ho hc o', h2.2.2.trans (below_put _ (by have := H5.out; omega))⟩, h4⟩)
  refine range_givesD rfl (enters_of Tryd.func84 (by kernel_rfl) rfl) HIT5.out (fun b hb => (HBS.out b hb).1) (fun x B D W args h => by obtain ⟨g, h1, _⟩ := h; rw [h1]; rfl)
    (fun Dx => RelEl w W4.heap.size Dx) (fun _ _ Wx => RelHx w (.slice none 0 0) 3 Wx ∧ 200 < L.length)
    HI.out HIX.out (fun Dx => ⟨HR5.out, ⟨_, H5.out.2.2.2.2, LLW.nil _ _⟩, by simp⟩)
    (fun x Dx a' Wx => ∃ g, a' = { tmps := #[.agg (ccells (N : Int) (K : Int) bs).toArray, .slice (some ⟨bl, off, none⟩) K cap, .pointer (some ⟨w.heap.size, 0, none⟩), undef, .pointer (some ⟨w.heap.size + 1, 0, none⟩), .pointer (some ⟨w.heap.size + 1 + 1, 0, none⟩), .pointer (some ⟨w1.heap.size, 0, none⟩), .int .i64 0, .pointer (some ⟨W4.heap.size, 0, none⟩), .slice (some ⟨g, 0, none⟩) N N, .tuple #[.agg D, .int .i64 0], .agg (ccells (N : Int) (K : Int) bs).toArray, .slice (some ⟨bl, off, none⟩) K cap, .tuple #[.agg D, .int .i64 0], .agg D, .int .i64 0, .int .i64 0, .bool false, undef, .agg D, .func (.func 84) #[] #[.pointer (some ⟨W6.heap.size, 0, none⟩)], .slice (some ⟨g, 0, none⟩) N N, undef, undef, undef, undef, undef, undef, undef, undef, undef], defers := [] } ∧ w5.heap.size ≤ g ∧ g < Dx ∧ Blk Wx g (icells x).toArray 2)
    (fun x Dx a' A l o o' ⟨g, h1, h2, h3, h4⟩ ho hc => ⟨g, h1, h2, h3, blk_put h4 ho hc o'⟩) ?assign ?body ?done ?stop
  case assign =>
    rintro l' Dx B pre x rest args Wx Kx' hall hI hB1 hB2 hB3 ⟨g, rfl, hg1, hg2, hg3⟩ hK
    have HK := hidd hK
    have HGG := hidd (show w5.heap.size ≤ g ∧ g < Dx ∧ Blk Wx g (icells x).toArray 2 from ⟨by omega, hg2, hg3⟩)
    clear hK hI hg1 hg2 hg3 hall
    gi_wp2
    exact HK.out _ _ (Below.refl _ _) ⟨g, by first | (simp; done) | kernel_rfl, HGG.out⟩
  case body =>
    rintro l Dx pre x rest a' Wx hall hD1 hD2 ⟨hI1, ⟨v, hv1, hv2⟩, hI3⟩ ⟨g, rfl, hg1, hg2, hg3⟩
    obtain ⟨a8, c8, rfl⟩ := hv2.shape
    have HXN := hidd (HXL.out x (by rw [hall]; simp))
    obtain ⟨l8, hl8⟩ : ∃ l8, l8 = pre.length := ⟨_, rfl⟩
    rw [← hl8] at hv1 hv2
    have HL8 := hidd hl8
    have HLL := hidd hall
    have HG := hidd (show RelHx w (.slice none 0 0) 0 Wx ∧ Blk Wx W4.heap.size #[.slice a8 l8 c8] 39 ∧ LLW Wx Dx (.slice a8 l8 c8) pre ∧ Blk Wx g (icells x).toArray 2 from ⟨hI1, hv1, hv2, hg3⟩)
    have HDD := hidd (And.intro hD1 hD2)
    have HGL := hidd (And.intro hg1 hg2)
    have c0 := hv1.cell (j := 0) (show _ = some (Value.slice a8 l8 c8) from rfl)
    cases hq : ((l8 : Int) == 200) with
    | true =>
      have c4 := hI1.1.cell (j := 0) (show _ = some (Value.slice none 0 0) from rfl)
      have f4 := hI1.1.fro 0
      have c5 := hI1.2.1.cell (j := 0) (show _ = some (Value.int .i64 0) from rfl)
      have f5 := hI1.2.1.fro 0
      have KP := hidd (hI1.put (.slice none 0 0) 3)
      have KK := hidd (show KxD [W6.heap.size, bl] w5.heap.size Dx Wx ((Wx.setCell ⟨w.heap.size + 1, 0, none⟩ (.slice none 0 0)).setCell ⟨w.heap.size + 1 + 1, 0, none⟩ (.int .i64 3)) from by
        refine ⟨by simp [World.setCell], fun k hk hb => ?_⟩
        have hne : k ≠ w.heap.size + 1 ∧ k ≠ w.heap.size + 1 + 1 := by
          have := H5.out
          rcases hb with hb | hb
          · omega
          · simp only [List.mem_cons, List.not_mem_nil, or_false] at hb
            omega
        rw [heap_setCell_other _ _ _ _ (by exact hne.2), heap_setCell_other _ _ _ _ (by exact hne.1)])
      have hmany : 200 < L.length := by rw [hall, List.length_append, List.length_cons, ← hl8]; have := beq_iff_eq.1 hq; omega
      clear hI1 hv1 hv2 hI3 hall hl8 hg3
      gi_wp2_with fail
      exact ⟨KK.out, KP.out, hmany⟩
    | false =>
      have hlt : l8 < 200 := by
        have : (l8 : Int) ≠ 200 := beq_eq_false_iff_ne.1 hq
        omega
      have HCL := hidd (fun W (h : Blk W g (icells x).toArray 2) => clone41 g 0 N x W (.inr ⟨g, 0, rfl, fun j hj => by rw [Nat.zero_add]; exact h.cell (icells_get hj)⟩) (by rw [HXN.out]; omega))
      rw [HXN.out] at HCL
      clear hI1 hv1 hv2 hI3 hall hl8 hg3 hg1 hg2 hD1 hD2 hq
      gi_wp2_with fail
      refine wpIn_region_heldtail 4 (fun W' => W'.cell? ⟨W4.heap.size, 0, none⟩ = some (.slice a8 l8 c8)) (by decide) (by kernel_rfl) (by kernel_rfl) (by kernel_rfl) (by kernel_rfl) ?_ (fun hHeld => ?_)
      · exact c0
      simp only [List.take_succ_cons, List.take_zero, List.drop_succ_cons, List.drop_zero, List.map_cons, List.map_nil, List.cons_append, List.nil_append, idle]
      refine wpAnyHI_take (lets_round l _) (by kernel_rfl) (i := 0) (oi := _) (v := ?_) rfl (by kernel_rfl) (by kernel_rfl) (by kernel_rfl) (fun _ _ _ h => h) (Or.inl ⟨by rfl, ?_⟩) (by assumption) ?_
      rotate_left
      · intro wX hSw; (try dsimp only at hSw); go_simp; first | done | with_reducible rfl
      simp only [List.getElem_toArray, List.getElem_cons_succ, List.getElem_cons_zero, Act.put, List.setIfInBounds_toArray, List.set_cons_zero, List.set_cons_succ]
      refine wpAnyHI_take (lets_round l _) (by kernel_rfl) (i := 1) (oi := _) (v := ?_) rfl (by kernel_rfl) (by kernel_rfl) (by kernel_rfl) (fun _ _ _ h => h) (Or.inl ⟨by rfl, ?_⟩) (by assumption) ?_
      rotate_left
      · intro wX hSw; (try dsimp only at hSw); go_simp; first | done | with_reducible rfl
      simp only [List.getElem_toArray, List.getElem_cons_succ, List.getElem_cons_zero, Act.put, List.setIfInBounds_toArray, List.set_cons_zero, List.set_cons_succ]
      refine wpAnyHI_ready (rs := [2]) (by kernel_rfl) (by simp) (AllReadyHI.cons (o := _) rfl (fun KQ hKQ => ?_) AllReadyHI.nil)
      go_simp
      have hbD : Below Wx.heap.size Wx Wx.drew := (Below.refl _ _).drew
      refine ⟨trivial, rfl, (CallsIn.inRound _ (callsIn_wide.2 (HCL.out Wx.drew HG.out.2.2.2.drew))).mono ?_⟩
      rintro e X1 ⟨gz, cz, rfl, ho, hbX0⟩
      have hbX : Below Wx.heap.size Wx X1 := hbD.trans hbX0
      have hoX : OwnL X1 Wx.heap.size (some ⟨gz, 0, none⟩) x := by
        have h3 : X1.ownsRow Wx.heap.size 2 1 (.slice (some ⟨gz, 0, none⟩) N cz) x.length (icells x) := by rw [HXN.out]; exact ho
        obtain ⟨a', c', hv', ho'⟩ := own_list h3
        cases hv'
        exact ho'
      have HX := hidd (And.intro hbX hoX)
      have B8X := hidd (HG.out.2.1.below hbX HG.out.2.1.lt)
      clear hbD hbX0 hbX ho hoX
      refine hKQ.out _ _ ?_ (fun hNext => ?_)
      · exact B8X.out.cell rfl
      clear hKQ KQ hHeld
      have hHeld := hNext
      clear hNext
      refine wpAnyHI_ready (rs := [3]) (by kernel_rfl) (by simp) (AllReadyHI.cons (o := _) rfl (fun KQ hKQ => ?_) AllReadyHI.nil)
      go_simp
      refine hKQ.out _ _ ?_ (fun hNext => ?_)
      · exact (B8X.out.alloc _).cell rfl
      clear hKQ KQ hHeld
      have hHeld := hNext
      clear hNext
      refine wpAnyHI_take (lets_round l _) (by kernel_rfl) (i := 4) (oi := _) (v := ?_) rfl (by kernel_rfl) (by kernel_rfl) (by kernel_rfl) (fun _ _ _ h => h) (Or.inl ⟨by rfl, ?_⟩) (by assumption) ?_
      rotate_left
      · intro wX hSw; (try dsimp only at hSw); go_simp; first | done | with_reducible rfl
      simp only [List.getElem_toArray, List.getElem_cons_succ, List.getElem_cons_zero, Act.put, List.setIfInBounds_toArray, List.set_cons_zero, List.set_cons_succ]
      refine wpAnyHI_take (lets_round l _) (by kernel_rfl) (i := 5) (oi := _) (v := ?_) rfl (by kernel_rfl) (by kernel_rfl) (by kernel_rfl) (fun _ _ _ h => h) (Or.inl ⟨by rfl, ?_⟩) (by assumption) ?_
      rotate_left
      · intro wX hSw; (try dsimp only at hSw); go_simp; first | done | with_reducible rfl
      simp only [List.getElem_toArray, List.getElem_cons_succ, List.getElem_cons_zero, Act.put, List.setIfInBounds_toArray, List.set_cons_zero, List.set_cons_succ]
      refine wpAnyHI_done (by kernel_rfl) ?_ _
      simp only [endQ]
      obtain ⟨A, hA1, hA2, hA3⟩ := HG.out.2.2.1
      have hown0 := own_below (own_below hA1 HX.out.1 (Nat.le_refl _)) ((Below.refl X1.heap.size X1).alloc (Nat.le_refl _) (.cells #[.slice (some ⟨gz, 0, none⟩) N cz] 25)) (Nat.le_refl _)
      have HA := hidd (And.intro hA2 hA3)
      have HO := hidd hown0
      have hsX := HX.out.1.size
      have hDX := HDD.out
      have hl200 : pre.length < 200 := by rw [← HL8.out]; exact hlt
      clear hA1 hA2 hA3 hown0 c0 hHeld
      refine wpListIn_append_own _ rfl _ _ 39 rfl Dx 25 t0 (.slice none 0 0) 1 24 Tryd.underlying39 HIF.out.1 HIF.out.2.1 HIF.out.2.2.1 HIF.out.2.2.2 rfl (by decide) _ _ _ rfl HO.out ⟨X1.heap.size, 0, none⟩ 1 1 [.slice (some ⟨gz, 0, none⟩) N cz] rfl rfl ?c1 ?c2 ?c3 ?c4 ?c5 ?_
      case c1 => exact one_new _ _ _
      case c2 => intro u hu; simp at hu; subst hu; rfl
      case c3 => unfold maxLen; omega
      case c4 => omega
      case c5 => simp; omega
      intro v' Y hown' hgrow _
      have hbXa : Below Wx.heap.size Wx (X1.alloc (.cells #[.slice (some ⟨gz, 0, none⟩) N cz] 25)) := HX.out.1.alloc HX.out.1.size _
      have hbY : Below Dx (X1.alloc (.cells #[.slice (some ⟨gz, 0, none⟩) N cz] 25)) Y := grown_plain HO.out hgrow (by simp; omega)
      have hlt0 : W4.heap.size < Dx := by have := H5.out; omega
      have hB39 : Blk Y W4.heap.size #[.slice a8 l8 c8] 39 := (HG.out.2.1.below hbXa HG.out.2.1.lt).below hbY hlt0
      have hLY : LLW Y Dx v' (pre ++ [x]) := LLW.push HG.out.2.2.1 hDX.2 HX.out.1 HX.out.2 hgrow HA.out (by rw [HXN.out]; exact hown')
      obtain ⟨a9, c9, rfl⟩ := hLY.shape
      obtain ⟨l9, hl9⟩ : ∃ l9, l9 = (pre ++ [x]).length := ⟨_, rfl⟩
      rw [← hl9] at hLY ⊢
      have hRY : RelHx w (.slice none 0 0) 0 Y := (HG.out.1.below hbXa (by have := H5.out; omega)).below hbY (by have := H5.out; omega)
      have K1 := hidd (show RelEl w W4.heap.size Dx (pre ++ [x]) (Y.setCell ⟨W4.heap.size, 0, none⟩ (.slice a9 l9 c9)) from
        ⟨hRY.other _ _ (by have := H5.out; show w.heap.size + 3 ≤ W4.heap.size; omega), ⟨.slice a9 l9 c9, hB39.same 0 _, hLY.set _ _ hlt0⟩, by simp; omega⟩)
      have KK := hidd (show KxD [W6.heap.size, bl] w5.heap.size Dx Wx (Y.setCell ⟨W4.heap.size, 0, none⟩ (.slice a9 l9 c9)) from by
        have hsY := hbY.size
        simp at hsY
        refine ⟨by simp [World.setCell]; omega, fun k hk hb => ?_⟩
        have hne : k ≠ W4.heap.size ∧ k < Dx := by
          have := H5.out
          rcases hb with hb | hb
          · omega
          · have := HBS.out k hb; omega
        rw [heap_setCell_other _ _ _ _ (by exact hne.1), hbY.block k hne.2, hbXa.block k hk])
      have e8 := hB39.cell (j := 0) (show _ = some (Value.slice a8 l8 c8) from rfl)
      have f8 := hB39.fro 0
      clear hbXa hbY hB39 hLY hRY hown' hgrow hl9
      gi_wp2_with fail
      exact ⟨KK.out, K1.out⟩
  case done =>
    rintro Dd Dx Wx hD0 hD1 hD2 ⟨hI1, ⟨v, hv1, hv2⟩, hI3⟩ hdef
    obtain ⟨aL, cL, rfl⟩ := hv2.shape
    have HE := hidd (HV.out.2 (by omega))
    obtain ⟨lL, hlL⟩ : ∃ lL, lL = L.length := ⟨_, rfl⟩
    rw [← hlL] at hv1 hv2
    have HLL := hidd hlL
    have c8 := hv1.cell (j := 0) (show _ = some (Value.slice aL lL cL) from rfl)
    have c4 := hI1.1.cell (j := 0) (show _ = some (Value.slice none 0 0) from rfl)
    have f4 := hI1.1.fro 0
    have c5 := hI1.2.1.cell (j := 0) (show _ = some (Value.int .i64 0) from rfl)
    have f5 := hI1.2.1.fro 0
    have KP := hidd (hI1.put (.slice aL lL cL) 0)
    have KL := hidd ((hv2.set ⟨w.heap.size + 1, 0, none⟩ (.slice aL lL cL) (by have := H5.out; show w.heap.size + 1 < Dx; omega)).set ⟨w.heap.size + 1 + 1, 0, none⟩ (.int .i64 0) (by have := H5.out; show w.heap.size + 1 + 1 < Dx; omega))
    have hM := hidd (show ((Wx.setCell ⟨w.heap.size + 1, 0, none⟩ (.slice aL lL cL)).setCell ⟨w.heap.size + 1 + 1, 0, none⟩ (.int .i64 0)).heap[Dd]? = some (.deferred (some [])) from by
        have := H5.out
        rw [heap_setCell_other _ _ _ _ (by show Dd ≠ w.heap.size + 1 + 1; omega), heap_setCell_other _ _ _ _ (by show Dd ≠ w.heap.size + 1; omega)]; exact hdef)
    clear hI1 hv1 hv2 hI3 hdef hlL
    gi_wp2_with fail
    refine leave_marks (B := w5.heap.size) (v := .tuple #[.slice aL lL cL, .int .i64 0]) [Dd] _ ((Mks.nil _ _).cons hD0 (by simp) hM.out) (fun W' hb hck => ?_)
    have KB := KP.out.below hb (by have := H5.out; omega)
    have e4 := KB.1.cell (j := 0) (show _ = some (Value.slice aL lL cL) from rfl)
    have e5 := KB.2.1.cell (j := 0) (show _ = some (Value.int .i64 0) from rfl)
    refine ⟨by simp [results, Tryd.results25, go_sem, e4, e5], ?_⟩
    rw [HE.out.1, HE.out.2]
    have hLK : LLW W' Dx (.slice aL lL cL) L := by
      obtain ⟨X, ⟨hl, h1⟩, h2, h3⟩ := KL.out
      refine ⟨X, ⟨hl, ?_⟩, fun j hj => ?_, h3⟩
      · rcases h1 with h1 | ⟨g, cap, cur, hv, hg, hc, r⟩
        · exact .inl h1
        · exact .inr ⟨g, cap, cur, hv, hg, hck g _ _ _ hc, r⟩
      · rcases h2 j hj with h | ⟨g, C', k1, k2, k3, k4⟩
        · exact .inl h
        · exact .inr ⟨g, C', k1, k2, hck g _ _ _ k3, k4⟩
    obtain ⟨a, cap', hv, hO⟩ := hLK.out
    rw [← HLL.out] at hv
    cases hv
    exact ⟨aL, cL, by rw [← HLL.out], hO.base (show w.heap.size ≤ Dx by have := H5.out; omega), KB.2.2⟩
  case stop =>
    intro Dd Dx pre x rest Wx hD0 hD1 hD2 hall ⟨hI, hmany⟩ hdef
    have hM := hidd (show Mks w5.heap.size [Dd] Wx from (Mks.nil _ _).cons hD0 (by simp) hdef)
    have HE := hidd (HV.out.1 hmany)
    have HR := hidd hI
    clear hI hdef hall
    gi_wp2_with fail
    refine leave_marks (B := w5.heap.size) (v := .tuple #[.slice none 0 0, .int .i64 3]) [Dd] _ hM.out (fun W' hb hck => ?_)
    have KB := HR.out.below hb (by have := H5.out; omega)
    have e4 := KB.1.cell (j := 0) (show _ = some (Value.slice none 0 0) from rfl)
    have e5 := KB.2.1.cell (j := 0) (show _ = some (Value.int .i64 3) from rfl)
    refine ⟨by simp [results, Tryd.results25, go_sem, e4, e5], ?_⟩
    rw [HE.out.1, HE.out.2]
    exact llout_nil rfl KB.2.2
end Go.Proofs.YtckffliiidgilaaDoor
/- ExtensionList: the program, at every argument. -/
namespace Go.Proofs.YtckffliiidgilaaDoor
set_option linter.unusedVariables false
set_option linter.unusedSimpArgs false
open Go Go.RowKit Go.Shelf Go.Extern.Stop Go.Stop Go.Extern
theorem impl25 (n k : Int) (bs : List Nat) (hb : Bys bs) (zs : List Int) (a : Option Addr) (cap : Nat) (e0 : Addr) (w : World) (hs : SlI w a zs) (hl : zs.length ≤ 1048576) (hE : Er w e0) :
    Calls Tryd.prog 25 #[.agg (ccells n k bs).toArray, .slice a zs.length cap] w fun e w' => LLOut w (elL n k bs zs) (elC n k bs zs) e w' := by
  by_cases h0 : eaC 12 n k bs zs = 0
  · obtain ⟨hsz, hav, hn12⟩ := eaC_ok h0
    obtain ⟨hi, ho⟩ := szCode_ok hsz
    obtain ⟨n1, n2, k1, k2⟩ := isCol_bd hi
    obtain ⟨hlk, hsp⟩ := szOk_bd ho
    obtain ⟨N, rfl⟩ := Int.eq_ofNat_of_zero_le (show 0 ≤ n by omega)
    obtain ⟨K, rfl⟩ := Int.eq_ofNat_of_zero_le (show 0 ≤ k by omega)
    have hlK : zs.length = K := by omega
    rw [hlK] at hsp
    obtain ⟨bl, off, rfl, hbl⟩ := sl_some hs (by omega)
    have := impl25_good N K bs hb zs bl off cap e0 w hs hl hE h0 hlK (by omega) (by omega) (by omega) (by omega) (no1_of_av (by omega) hsp hav) hsp hbl
    rw [hlK]
    exact this
  · obtain ⟨hv, hc⟩ := el_bad h0
    rw [hv, hc]
    exact impl25_bad n k bs hb zs a cap e0 w hs hl hE h0
end Go.Proofs.YtckffliiidgilaaDoor
/- IsClosed: what it answers; the program and its model. -/
namespace Go.Proofs.YtckffliiidgilaaDoor
set_option linter.unusedVariables false
set_option linter.unusedSimpArgs false
open Go Go.RowKit Go.Extern.Stop Go.Stop Go.Extern
def iclC (n k : Int) (bs : List Nat) (zs : List Int) : Int := if szCode n k bs zs = 0 then (if 12 < n then 3 else 0) else szCode n k bs zs
def iclV (n k : Int) (bs : List Nat) (zs : List Int) : Bool := decide (iclC n k bs zs = 0) && (avP n.toNat bs zs k.toNat && decide (cnS bs n.toNat k.toNat zs (n.toNat + 1) = 0))
theorem iclC_bad {n k : Int} {bs : List Nat} {zs : List Int} (h : szCode n k bs zs ≠ 0) : iclC n k bs zs = szCode n k bs zs := by unfold iclC; rw [if_neg h]
theorem iclC_3 {n k : Int} {bs : List Nat} {zs : List Int} (h : szCode n k bs zs = 0) (h3 : 12 < n) : iclC n k bs zs = 3 := by unfold iclC; rw [if_pos h, if_pos h3]
theorem iclC_0 {n k : Int} {bs : List Nat} {zs : List Int} (h : szCode n k bs zs = 0) (h3 : ¬ 12 < n) : iclC n k bs zs = 0 := by unfold iclC; rw [if_pos h, if_neg h3]
theorem iclV_bad {n k : Int} {bs : List Nat} {zs : List Int} (h : iclC n k bs zs ≠ 0) : iclV n k bs zs = false := by unfold iclV; rw [decide_eq_false h]; rfl
theorem one_zero {L : List (List Int)} : (((L.take 1).length : Int) == 0) = decide (L.length = 0) := by
  cases L with
  | nil => rfl
  | cons x L => simp
set_option maxRecDepth 100000 in
set_option maxHeartbeats 4000000 in
theorem spec31 (n k : Int) (bs : List Nat) (hb : Bys bs) (zs : List Int) (a : Option Addr) (cap : Nat) (w : World) (hs : SlI w a zs) (hl : zs.length ≤ 1048576) :
    Calls Tryd.prog 31 #[.agg (ccells n k bs).toArray, .slice a zs.length cap] w fun e w' => e = .returned (.tuple #[.bool (iclV n k bs zs), .int .i64 (iclC n k bs zs)]) ∧ Below w.heap.size w w' := by
  have HS := hidd (size_c26 n k hb)
  have HSL := hidd hs
  have HC0 := hidd (show (ccells n k bs).toArray[0]? = some (.int .i64 n) from rfl)
  have HCO := hidd (fun W h => code42 n k bs hb zs a cap W h hl)
  have HG := hidd (And.intro (Blk.new w (ccells n k bs).toArray 28 _ rfl) ((Below.refl w.heap.size w).alloc (Nat.le_refl _) (.cells (ccells n k bs).toArray 28)))
  obtain ⟨W0, hW0⟩ : ∃ W0, W0 = w.alloc (.cells (ccells n k bs).toArray 28) := ⟨_, rfl⟩
  rw [← hW0] at HG
  by_cases hc0 : szCode n k bs zs = 0
  · rw [hc0] at HCO
    by_cases h12 : (12 : Int) < n
    · rw [iclV_bad (by rw [iclC_3 hc0 h12]; omega), iclC_3 hc0 h12]
      have hgt : decide (n > 12) = true := decide_eq_true h12
      have hgt2 : decide (12 < n) = true := decide_eq_true h12
      clear hs hl hc0
      go_enter Tryd.func31, Tryd.ntmps31
      go_upto_region 1 with fail
      rw [← hW0]
      clear hW0
      go_wp2_with (refine wpList_load_row rfl 28 (.tmp 2) rfl w.heap.size rfl 28 _ (0,0) _ HG.out.1 Tryd.underlying28 rfl HS.out ?_)
      refine (HCO.out _ (HSL.out.below HG.out.2 (Nat.le_refl _))).mono ?_
      rintro e w1 ⟨rfl, hb1⟩
      have c0 := (HG.out.1.below hb1 HG.out.1.lt).cell HC0.out
      have G := hidd (HG.out.2.trans (hb1.mono HG.out.2.size))
      clear hb1
      go_wp2_with fail
      go_ret2
      exact ⟨rfl, G.out⟩
    · obtain ⟨hi, ho⟩ := szCode_ok hc0
      obtain ⟨n1, n2, k1, k2⟩ := isCol_bd hi
      obtain ⟨hlk, hsp⟩ := szOk_bd ho
      obtain ⟨N, rfl⟩ := Int.eq_ofNat_of_zero_le (show 0 ≤ n by omega)
      obtain ⟨K, rfl⟩ := Int.eq_ofNat_of_zero_le (show 0 ≤ k by omega)
      have hlK : zs.length = K := by omega
      rw [hlK] at hsp
      have hcode : iclC (N : Int) (K : Int) bs zs = 0 := iclC_0 hc0 h12
      have hv : iclV (N : Int) (K : Int) bs zs = (avP N bs zs K && decide (cnS bs N K zs (N + 1) = 0)) := by unfold iclV; rw [hcode]; rfl
      have HAV := hidd (fun W h => avoids44 N K bs hb zs a cap W h hlK (by omega) (by omega) (by omega) hsp)
      have hgt : decide ((N : Int) > 12) = false := decide_eq_false h12
      have hgt2 : decide (12 < (N : Int)) = false := decide_eq_false h12
      have hgt3 : decide (12 < N) = false := decide_eq_false (by omega)
      rw [hv, hcode, hlK]
      rw [hlK] at HCO
      cases hav : avP N bs zs K with
      | false =>
        rw [hav] at HAV
        clear hs hl hc0 hi ho hlk hsp hcode hv hav
        go_enter Tryd.func31, Tryd.ntmps31
        go_upto_region 1 with fail
        rw [← hW0]
        clear hW0
        go_wp2_with (refine wpList_load_row rfl 28 (.tmp 2) rfl w.heap.size rfl 28 _ (0,0) _ HG.out.1 Tryd.underlying28 rfl HS.out ?_)
        refine (HCO.out _ (HSL.out.below HG.out.2 (Nat.le_refl _))).mono ?_
        rintro e w1 ⟨rfl, hb1⟩
        have g1 := HG.out.1.below hb1 HG.out.1.lt
        have c0 := g1.cell HC0.out
        have G := hidd (And.intro (HG.out.2.trans (hb1.mono HG.out.2.size)) g1)
        clear hb1 g1
        go_wp2_with (first
          | (refine wpList_load_row rfl 28 (.tmp 2) rfl w.heap.size rfl 28 _ (0,0) _ G.out.2 Tryd.underlying28 rfl HS.out ?_)
          | (go_at_call 44; refine (HAV.out _ (HSL.out.below G.out.1 (Nat.le_refl _))).mono ?_; rintro e w2 ⟨rfl, hb2⟩; have G2 := hidd (G.out.1.trans (hb2.mono G.out.1.size)); clear hb2))
        go_ret2
        exact ⟨rfl, G2.out⟩
      | true =>
        rw [hav] at HAV
        have h2 := no1_of_av (by omega) hsp hav
        have HAL := hidd (fun W h => all54 N K 1 bs hb zs a cap hlK (by omega) (by omega) (by omega) (by omega) h2 hsp (by omega) (by omega) W h)
        have hz := one_zero (L := exA bs N K zs)
        rw [exA_len (by omega) (by omega) h2] at hz
        obtain ⟨L, hL⟩ : ∃ L, L = (exA bs N K zs).take 1 := ⟨_, rfl⟩
        rw [← hL] at HAL hz
        obtain ⟨x, hx⟩ : ∃ x, x = decide (cnS bs N K zs (N + 1) = 0) := ⟨_, rfl⟩
        rw [← hx] at hz ⊢
        obtain ⟨ln, hln⟩ : ∃ ln, ln = L.length := ⟨_, rfl⟩
        rw [← hln] at hz
        have HLN := hidd hln
        clear hs hl hc0 hi ho hlk hsp hcode hv hav h2 hL hx hln
        go_enter Tryd.func31, Tryd.ntmps31
        go_upto_region 1 with fail
        rw [← hW0]
        clear hW0
        go_wp2_with (refine wpList_load_row rfl 28 (.tmp 2) rfl w.heap.size rfl 28 _ (0,0) _ HG.out.1 Tryd.underlying28 rfl HS.out ?_)
        refine (HCO.out _ (HSL.out.below HG.out.2 (Nat.le_refl _))).mono ?_
        rintro e w1 ⟨rfl, hb1⟩
        have g1 := HG.out.1.below hb1 HG.out.1.lt
        have c0 := g1.cell HC0.out
        have G := hidd (And.intro (HG.out.2.trans (hb1.mono HG.out.2.size)) g1)
        clear hb1 g1
        go_wp2_with (first
          | (refine wpList_load_row rfl 28 (.tmp 2) rfl w.heap.size rfl 28 _ (0,0) _ G.out.2 Tryd.underlying28 rfl HS.out ?_)
          | (go_at_call 44; refine (HAV.out _ (HSL.out.below G.out.1 (Nat.le_refl _))).mono ?_; rintro e w2 ⟨rfl, hb2⟩; have G2 := hidd (And.intro (G.out.1.trans (hb2.mono G.out.1.size)) (G.out.2.below hb2 G.out.2.lt)); clear hb2)
          | (refine wpList_load_if rfl 28 (.tmp 2) rfl w.heap.size rfl 28 _ _ G2.out.2 Tryd.underlying28 rfl HS.out ?_)
          | (go_at_call 54; refine (HAL.out _ (HSL.out.below G2.out.1 (Nat.le_refl _))).mono ?_; rintro e w3 ⟨v3, rfl, hL3, hb3⟩; obtain ⟨g3, cap3, _, rfl, _⟩ := hL3.at; rw [← HLN.out]; have G3 := hidd (G2.out.1.trans (hb3.mono G2.out.1.size)); clear hb3 hL3))
        go_ret2
        exact ⟨rfl, G3.out⟩
  · rw [iclV_bad (by rw [iclC_bad hc0]; exact hc0), iclC_bad hc0]
    obtain ⟨cd, hcd⟩ : ∃ cd, cd = szCode n k bs zs := ⟨_, rfl⟩
    rw [← hcd] at HCO hc0 ⊢
    have hz : (cd == 0) = false := by rw [beq_eq_false_iff_ne]; exact hc0
    have hz2 : (cd != 0) = true := by rw [bne_iff_ne]; exact hc0
    clear hs hcd hc0
    go_enter Tryd.func31, Tryd.ntmps31
    go_upto_region 1 with fail
    rw [← hW0]
    clear hW0
    go_wp2_with (refine wpList_load_row rfl 28 (.tmp 2) rfl w.heap.size rfl 28 _ (0,0) _ HG.out.1 Tryd.underlying28 rfl HS.out ?_)
    refine (HCO.out _ (HSL.out.below HG.out.2 (Nat.le_refl _))).mono ?_
    rintro e w1 ⟨rfl, hb1⟩
    have G := hidd (HG.out.2.trans (hb1.mono HG.out.2.size))
    clear hb1
    go_wp2_with fail
    go_ret2
    exact ⟨rfl, G.out⟩
set_option maxRecDepth 100000 in
set_option maxHeartbeats 4000000 in
theorem impl32 (n k : Int) (bs : List Nat) (hb : Bys bs) (zs : List Int) (a : Option Addr) (cap : Nat) (e0 : Addr) (w : World) (hs : SlI w a zs) (hl : zs.length ≤ 1048576) (hE : Er w e0) :
    Calls Tryd.prog 32 #[.agg (ccells n k bs).toArray, .slice a zs.length cap] w fun e w' => e = .returned (.tuple #[.bool (iclV n k bs zs), .int .i64 (iclC n k bs zs)]) ∧ Below w.heap.size w w' := by
  have Hz := zero56
  have HS := hidd (size_c26 n k hb)
  have HSL := hidd hs
  have HE := hidd hE
  have HEN := hidd (fun W h hE => enter58 n k bs hb zs a cap e0 W h hl hE)
  have HC0 := hidd (show (ccells n k bs).toArray[0]? = some (.int .i64 n) from rfl)
  have HG := hidd (And.intro (Blk.new w (ccells n k bs).toArray 28 _ rfl) ((Below.refl w.heap.size w).alloc (Nat.le_refl _) (.cells (ccells n k bs).toArray 28)))
  obtain ⟨W0, hW0⟩ : ∃ W0, W0 = w.alloc (.cells (ccells n k bs).toArray 28) := ⟨_, rfl⟩
  rw [← hW0] at HG
  obtain ⟨D, hD⟩ : ∃ D, D = (enS n k bs zs a cap).toArray := ⟨_, rfl⟩
  obtain ⟨cd, hcd⟩ : ∃ cd, cd = szCode n k bs zs := ⟨_, rfl⟩
  have hDs : (Tryd.prog.info? 56).map (·.size) = some D.size ∧ (scl 0 0 zbl none 0 0).toArray.size = D.size ∧ D.all (·.oneCell') = true := by
    rw [hD]; unfold enS
    split
    · exact ⟨size_s56 hb _ _ _, by simp [scl_len zbl_bys, scl_len hb], scl_one⟩
    · exact ⟨size_s56 zbl_bys _ _ _, rfl, scl_one⟩
  have HD := hidd hDs
  rw [← hD, ← hcd] at HEN
  have HJ := hidd (fun (W1 : World) (hb1 : Below W0.heap.size W0 W1) =>
    (show Blk ((W1.alloc (.cells (scl 0 0 zbl none 0 0).toArray 56)).setRow W1.heap.size D) W1.heap.size D 56 ∧
        Blk ((W1.alloc (.cells (scl 0 0 zbl none 0 0).toArray 56)).setRow W1.heap.size D) w.heap.size (ccells n k bs).toArray 28 ∧
        Below w.heap.size w ((W1.alloc (.cells (scl 0 0 zbl none 0 0).toArray 56)).setRow W1.heap.size D) from by
      have k1 := HG.out.1.below hb1 HG.out.1.lt
      have hlt := k1.lt
      have k3 := HG.out.2.trans (hb1.mono HG.out.2.size)
      have k4 : Blk (W1.alloc (.cells (scl 0 0 zbl none 0 0).toArray 56)) W1.heap.size (scl 0 0 zbl none 0 0).toArray 56 := Blk.new _ _ _ _ rfl
      exact ⟨k4.rowSame _, (k1.alloc _).rowOther _ _ (by omega), below_setRow (k3.alloc (by omega) _) (by omega) _⟩))
  clear hDs hs hE
  by_cases h0 : cd = 0
  · have hc0 := hcd.symm.trans h0
    by_cases h12 : (12 : Int) < n
    · rw [iclV_bad (by rw [iclC_3 hc0 h12]; omega), iclC_3 hc0 h12]
      have hgt : decide (n > 12) = true := decide_eq_true h12
      have hgt2 : decide (12 < n) = true := decide_eq_true h12
      clear hl hc0 hD hcd
      subst h0
      go_enter Tryd.func32, Tryd.ntmps32
      go_upto_region 1 with fail
      rw [← hW0]
      clear hW0
      go_wp2_with (refine wpList_load_row rfl 28 (.tmp 2) rfl w.heap.size rfl 28 _ (0,0) _ HG.out.1 Tryd.underlying28 rfl HS.out ?_)
      refine (HEN.out _ (HSL.out.below HG.out.2 (Nat.le_refl _)) (HE.out.below HG.out.2 HE.out.lt)).mono ?_
      rintro e w1 ⟨rfl, hb1⟩
      have J3 := hidd (HJ.out w1 hb1)
      clear hb1
      obtain ⟨W4, hW4⟩ : ∃ W4, W4 = (w1.alloc (.cells (scl 0 0 zbl none 0 0).toArray 56)).setRow w1.heap.size D := ⟨_, rfl⟩
      rw [← hW4] at J3
      have c0 := J3.out.2.1.cell HC0.out
      go_upto_region 2 with (refine wpList_store_row rfl 56 (.tmp 6) (.tmp 12) rfl w1.heap.size _ rfl rfl 56 _ (Blk.new _ _ _ _ rfl) HD.out.1 HD.out.2.1 HD.out.2.2 ?_)
      rw [← hW4]
      clear hW4
      clear HEN
      go_wp2_with fail
      go_ret2
      exact ⟨rfl, J3.out.2.2⟩
    · obtain ⟨hi, ho⟩ := szCode_ok hc0
      obtain ⟨n1, n2, k1, k2⟩ := isCol_bd hi
      obtain ⟨hlk, hsp⟩ := szOk_bd ho
      obtain ⟨N, rfl⟩ := Int.eq_ofNat_of_zero_le (show 0 ≤ n by omega)
      obtain ⟨K, rfl⟩ := Int.eq_ofNat_of_zero_le (show 0 ≤ k by omega)
      have hlK : zs.length = K := by omega
      rw [hlK] at hsp
      have hcode : iclC (N : Int) (K : Int) bs zs = 0 := iclC_0 hc0 h12
      have hv : iclV (N : Int) (K : Int) bs zs = (avP N bs zs K && decide (cnS bs N K zs (N + 1) = 0)) := by unfold iclV; rw [hcode]; rfl
      have HAV := hidd (fun W h => avoids50 N K bs hb zs a cap W h hlK (by omega) (by omega) (by omega) hsp)
      have hDe : D = (scl (N : Int) (K : Int) bs a K cap).toArray := by rw [hD]; unfold enS; rw [if_pos hc0, hlK]
      have hgt : decide ((N : Int) > 12) = false := decide_eq_false h12
      have hgt2 : decide (12 < (N : Int)) = false := decide_eq_false h12
      have hgt3 : decide (12 < N) = false := decide_eq_false (by omega)
      rw [hv, hcode, hlK]
      rw [hlK] at HEN
      rw [← hDe] at HAV
      cases hav : avP N bs zs K with
      | false =>
        rw [hav] at HAV
        clear hl hc0 hi ho hlk hsp hcode hv hav hD hcd hDe
        subst h0
        go_enter Tryd.func32, Tryd.ntmps32
        go_upto_region 1 with fail
        rw [← hW0]
        clear hW0
        go_wp2_with (refine wpList_load_row rfl 28 (.tmp 2) rfl w.heap.size rfl 28 _ (0,0) _ HG.out.1 Tryd.underlying28 rfl HS.out ?_)
        refine (HEN.out _ (HSL.out.below HG.out.2 (Nat.le_refl _)) (HE.out.below HG.out.2 HE.out.lt)).mono ?_
        rintro e w1 ⟨rfl, hb1⟩
        have J3 := hidd (HJ.out w1 hb1)
        clear hb1
        obtain ⟨W4, hW4⟩ : ∃ W4, W4 = (w1.alloc (.cells (scl 0 0 zbl none 0 0).toArray 56)).setRow w1.heap.size D := ⟨_, rfl⟩
        rw [← hW4] at J3
        have c0 := J3.out.2.1.cell HC0.out
        go_upto_region 2 with (refine wpList_store_row rfl 56 (.tmp 6) (.tmp 12) rfl w1.heap.size _ rfl rfl 56 _ (Blk.new _ _ _ _ rfl) HD.out.1 HD.out.2.1 HD.out.2.2 ?_)
        rw [← hW4]
        clear hW4
        clear HEN
        go_wp2_with (first
          | (refine wpList_load_row rfl 56 (.tmp 6) rfl w1.heap.size rfl 56 _ (0,0) _ J3.out.1 Tryd.underlying56 rfl HD.out.1 ?_)
          | (go_at_call 50; refine (HAV.out _ (HSL.out.below J3.out.2.2 (Nat.le_refl _))).mono ?_; rintro e w2 ⟨rfl, hb2⟩; have G2 := hidd (J3.out.2.2.trans (hb2.mono J3.out.2.2.size)); clear hb2))
        go_ret2
        exact ⟨rfl, G2.out⟩
      | true =>
        rw [hav] at HAV
        have HCN := hidd (fun W h => count53 N K bs hb zs a cap hlK (by omega) (by omega) (by omega) (by omega) (no1_of_av (by omega) hsp hav) hsp W h)
        rw [← hDe] at HCN
        have hz : ((cnS bs N K zs (N + 1) : Int) == 0) = decide (cnS bs N K zs (N + 1) = 0) := by
          by_cases e : cnS bs N K zs (N + 1) = 0
          · rw [e]; rfl
          · rw [decide_eq_false e, beq_eq_false_iff_ne]; omega
        obtain ⟨x, hx⟩ : ∃ x, x = decide (cnS bs N K zs (N + 1) = 0) := ⟨_, rfl⟩
        obtain ⟨V, hV⟩ : ∃ V, V = cnS bs N K zs (N + 1) := ⟨_, rfl⟩
        rw [← hx] at hz ⊢
        rw [← hV] at HCN hz
        clear hl hc0 hi ho hlk hsp hcode hv hav hx hV hD hcd hDe
        subst h0
        go_enter Tryd.func32, Tryd.ntmps32
        go_upto_region 1 with fail
        rw [← hW0]
        clear hW0
        go_wp2_with (refine wpList_load_row rfl 28 (.tmp 2) rfl w.heap.size rfl 28 _ (0,0) _ HG.out.1 Tryd.underlying28 rfl HS.out ?_)
        refine (HEN.out _ (HSL.out.below HG.out.2 (Nat.le_refl _)) (HE.out.below HG.out.2 HE.out.lt)).mono ?_
        rintro e w1 ⟨rfl, hb1⟩
        have J3 := hidd (HJ.out w1 hb1)
        clear hb1
        obtain ⟨W4, hW4⟩ : ∃ W4, W4 = (w1.alloc (.cells (scl 0 0 zbl none 0 0).toArray 56)).setRow w1.heap.size D := ⟨_, rfl⟩
        rw [← hW4] at J3
        have c0 := J3.out.2.1.cell HC0.out
        go_upto_region 2 with (refine wpList_store_row rfl 56 (.tmp 6) (.tmp 12) rfl w1.heap.size _ rfl rfl 56 _ (Blk.new _ _ _ _ rfl) HD.out.1 HD.out.2.1 HD.out.2.2 ?_)
        rw [← hW4]
        clear hW4
        clear HEN
        go_wp2_with (first
          | (refine wpList_load_row rfl 56 (.tmp 6) rfl w1.heap.size rfl 56 _ (0,0) _ J3.out.1 Tryd.underlying56 rfl HD.out.1 ?_)
          | (go_at_call 50; refine (HAV.out _ (HSL.out.below J3.out.2.2 (Nat.le_refl _))).mono ?_; rintro e w2 ⟨rfl, hb2⟩; have G2 := hidd (And.intro (J3.out.2.2.trans (hb2.mono J3.out.2.2.size)) (J3.out.1.below hb2 J3.out.1.lt)); clear hb2)
          | (refine wpList_load_if rfl 56 (.tmp 6) rfl w1.heap.size rfl 56 _ _ G2.out.2 Tryd.underlying56 rfl HD.out.1 ?_)
          | (go_at_call 53; refine (HCN.out _ (HSL.out.below G2.out.1 (Nat.le_refl _))).mono ?_; rintro e w3 ⟨rfl, hb3⟩; have G3 := hidd (G2.out.1.trans (hb3.mono G2.out.1.size)); clear hb3))
        go_ret2
        exact ⟨rfl, G3.out⟩
  · have hne : (cd != 0) = true := by rw [bne_iff_ne]; exact h0
    rw [iclV_bad (by rw [iclC_bad (by rw [← hcd]; exact h0), ← hcd]; exact h0), iclC_bad (by rw [← hcd]; exact h0), ← hcd]
    clear hD hcd
    go_enter Tryd.func32, Tryd.ntmps32
    go_upto_region 1 with fail
    rw [← hW0]
    clear hW0
    go_wp2_with (refine wpList_load_row rfl 28 (.tmp 2) rfl w.heap.size rfl 28 _ (0,0) _ HG.out.1 Tryd.underlying28 rfl HS.out ?_)
    refine (HEN.out _ (HSL.out.below HG.out.2 (Nat.le_refl _)) (HE.out.below HG.out.2 HE.out.lt)).mono ?_
    rintro e w1 ⟨rfl, hb1⟩
    have J := hidd (HJ.out w1 hb1)
    clear hb1
    go_wp2_with (refine wpList_store_row rfl 56 (.tmp 6) (.tmp 12) rfl w1.heap.size _ rfl rfl 56 _ (Blk.new _ _ _ _ rfl) HD.out.1 HD.out.2.1 HD.out.2.2 ?_)
    go_ret2
    exact ⟨rfl, J.out.2.2⟩
end Go.Proofs.YtckffliiidgilaaDoor
/- IsExtension: the model. -/
namespace Go.Proofs.YtckffliiidgilaaDoor
set_option linter.unusedVariables false
set_option linter.unusedSimpArgs false
open Go Go.RowKit Go.Shelf
set_option maxRecDepth 100000 in
set_option maxHeartbeats 4000000 in
theorem spec13 (n k : Int) (bs : List Nat) (hb : Bys bs) (zs : List Int) (a : Option Addr) (cap : Nat) (cs : List Int) (b : Option Addr) (capb : Nat) (w : World) (hs : SlI w a zs) (hl : zs.length ≤ 1048576) (hs2 : SlI w b cs) (hl2 : cs.length ≤ 1048576) :
    Calls Tryd.prog 13 #[.agg (ccells n k bs).toArray, .slice a zs.length cap, .slice b cs.length capb] w fun e w' => e = .returned (.tuple #[.bool (ieV n k bs zs cs), .int .i64 (ieC n k bs zs cs)]) ∧ Below w.heap.size w w' := by
  have HS := hidd (size_c26 n k hb)
  have HSL := hidd hs
  have HSL2 := hidd hs2
  have HCO := hidd (fun W h => code42 n k bs hb zs a cap W h hl)
  have HC0 := hidd (show (ccells n k bs).toArray[0]? = some (.int .i64 n) from rfl)
  have HC1 := hidd (show (ccells n k bs).toArray[1]? = some (.int .i64 k) from rfl)
  have hwl : IntKind.i64.wrap (cs.length : Int) = cs.length := IntWalk.i64_in _ (by omega)
  have HG := hidd (And.intro (Blk.new w (ccells n k bs).toArray 28 _ rfl) ((Below.refl w.heap.size w).alloc (Nat.le_refl _) (.cells (ccells n k bs).toArray 28)))
  obtain ⟨W0, hW0⟩ : ∃ W0, W0 = w.alloc (.cells (ccells n k bs).toArray 28) := ⟨_, rfl⟩
  rw [← hW0] at HG
  clear hs hs2
  by_cases hc0 : szCode n k bs zs = 0
  · obtain ⟨hi, ho⟩ := szCode_ok hc0
    obtain ⟨n1, n2, k1, k2⟩ := isCol_bd hi
    obtain ⟨hlk, hsp⟩ := szOk_bd ho
    rw [hc0] at HCO
    have HAL := hidd (fun W h => all50 cs b capb k W h (by omega) (by omega) (by omega))
    by_cases hln : (cs.length : Int) = n
    · have hne : ((cs.length : Int) != n) = false := by rw [bne_eq_false_iff_eq]; exact hln
      cases ha : allB cs k with
      | false =>
        have hL : isListB cs n k = false := by unfold isListB; rw [ha]; simp
        have hc : ieC n k bs zs cs = 2 := by
          unfold ieC
          rw [if_neg, hL]
          · rfl
          · cases h2 : avP n.toNat bs zs k.toNat with
            | false => rw [eaC_5 hc0 h2]; omega
            | true =>
              by_cases h3 : (16 : Int) < n
              · rw [eaC_3 hc0 h2 h3]; omega
              · rw [eaC_0 hc0 h2 h3]; omega
        rw [ieV_bad hc (by omega), hc]
        have HA := hidd ha
        clear hc hL ha hc0 hi ho hlk hsp
        go_enter Tryd.func13, Tryd.ntmps13
        go_upto_region 1 with fail
        rw [← hW0]
        clear hW0
        go_wp2_with (refine wpList_load_row rfl 28 (.tmp 3) rfl w.heap.size rfl 28 _ (0,0) _ HG.out.1 Tryd.underlying28 rfl HS.out ?_)
        refine (HCO.out _ (HSL.out.below HG.out.2 (Nat.le_refl _))).mono ?_
        rintro e w1 ⟨rfl, hb1⟩
        have g1 := HG.out.1.below hb1 HG.out.1.lt
        have c0 := g1.cell HC0.out
        have c1 := g1.cell HC1.out
        have G := hidd (HG.out.2.trans (hb1.mono HG.out.2.size))
        clear hb1 g1
        go_wp2_with (go_at_call 43; refine (HAL.out _ (HSL2.out.below G.out (Nat.le_refl _))).mono ?_; rintro e w' ⟨rfl, rfl⟩; rw [HA.out])
        go_ret2
        exact ⟨rfl, G.out⟩
      | true =>
        have HA := hidd ha
        have hL : isListB cs n k = true := by unfold isListB; rw [ha, decide_eq_true hln]; rfl
        obtain ⟨N, rfl⟩ := Int.eq_ofNat_of_zero_le (show 0 ≤ n by omega)
        obtain ⟨K, rfl⟩ := Int.eq_ofNat_of_zero_le (show 0 ≤ k by omega)
        have hlK : zs.length = K := by omega
        have HAV := hidd (fun W h => avoids44 N K bs hb zs a cap W h hlK (by omega) (by omega) (by omega) (by rw [← hlK]; exact hsp))
        cases hav : avP N bs zs K with
        | false =>
          have hea : eaC 16 (N : Int) (K : Int) bs zs = 5 := eaC_5 hc0 hav
          have hc : ieC (N : Int) (K : Int) bs zs cs = 5 := by unfold ieC; rw [hea, if_neg (by omega), hL, if_pos rfl]
          rw [ieV_bad hc (by omega), hc]
          have HV := hidd hav
          rw [hlK] at HCO ⊢
          clear hc hL ha hc0 hi ho hlk hsp hea hav hlK hl
          go_enter Tryd.func13, Tryd.ntmps13
          go_upto_region 1 with fail
          rw [← hW0]
          clear hW0
          go_wp2_with (refine wpList_load_row rfl 28 (.tmp 3) rfl w.heap.size rfl 28 _ (0,0) _ HG.out.1 Tryd.underlying28 rfl HS.out ?_)
          refine (HCO.out _ (HSL.out.below HG.out.2 (Nat.le_refl _))).mono ?_
          rintro e w1 ⟨rfl, hb1⟩
          have g1 := HG.out.1.below hb1 HG.out.1.lt
          have c0 := g1.cell HC0.out
          have c1 := g1.cell HC1.out
          have G := hidd (And.intro (HG.out.2.trans (hb1.mono HG.out.2.size)) g1)
          clear hb1 g1
          go_wp2_with (first
            | (go_at_call 43; refine (HAL.out _ (HSL2.out.below G.out.1 (Nat.le_refl _))).mono ?_; rintro e w' ⟨rfl, rfl⟩; rw [HA.out])
            | (refine wpList_load_if rfl 28 (.tmp 3) rfl w.heap.size rfl 28 _ _ G.out.2 Tryd.underlying28 rfl HS.out ?_)
            | (go_at_call 44; refine (HAV.out _ (HSL.out.below G.out.1 (Nat.le_refl _))).mono ?_; rintro e w2 ⟨rfl, hb2⟩; rw [HV.out]))
          go_ret2
          exact ⟨rfl, G.out.1.trans (hb2.mono G.out.1.size)⟩
        | true =>
          have HV := hidd hav
          by_cases h17 : N = 17
          · have H17 := hidd (show ((N : Int) == 17) = true by rw [beq_iff_eq]; omega)
            have hea : eaC 16 (N : Int) (K : Int) bs zs = 3 := eaC_3 hc0 hav (by omega)
            have hc : ieC (N : Int) (K : Int) bs zs cs = 3 := by unfold ieC; rw [hea, if_neg (by omega), hL, if_pos rfl]
            rw [ieV_bad hc (by omega), hc]
            rw [hlK] at HCO ⊢
            clear hc hL ha hc0 hi ho hlk hsp hea hav hlK hl h17
            go_enter Tryd.func13, Tryd.ntmps13
            go_upto_region 1 with fail
            rw [← hW0]
            clear hW0
            go_wp2_with (refine wpList_load_row rfl 28 (.tmp 3) rfl w.heap.size rfl 28 _ (0,0) _ HG.out.1 Tryd.underlying28 rfl HS.out ?_)
            refine (HCO.out _ (HSL.out.below HG.out.2 (Nat.le_refl _))).mono ?_
            rintro e w1 ⟨rfl, hb1⟩
            have g1 := HG.out.1.below hb1 HG.out.1.lt
            have c0 := g1.cell HC0.out
            have c1 := g1.cell HC1.out
            have G := hidd (And.intro (HG.out.2.trans (hb1.mono HG.out.2.size)) g1)
            clear hb1 g1
            have h17I := H17.out
            go_wp2_with (first
              | (go_at_call 43; refine (HAL.out _ (HSL2.out.below G.out.1 (Nat.le_refl _))).mono ?_; rintro e w' ⟨rfl, rfl⟩; rw [HA.out])
              | (refine wpList_load_if rfl 28 (.tmp 3) rfl w.heap.size rfl 28 _ _ G.out.2 Tryd.underlying28 rfl HS.out ?_)
              | (go_at_call 44; refine (HAV.out _ (HSL.out.below G.out.1 (Nat.le_refl _))).mono ?_; rintro e w2 ⟨rfl, hb2⟩; rw [HV.out]; have c0' := (G.out.2.below hb2 G.out.2.lt).cell HC0.out))
            go_ret2
            exact ⟨rfl, G.out.1.trans (hb2.mono G.out.1.size)⟩
          · have hea : eaC 16 (N : Int) (K : Int) bs zs = 0 := eaC_0 hc0 hav (by omega)
            have hc : ieC (N : Int) (K : Int) bs zs cs = 0 := by unfold ieC; rw [hea, if_neg (by omega), hL, if_pos rfl]
            have hcp : codeP (N : Int) (K : Int) bs cs = 0 := codeP_0 hi hln ha (by omega)
            have hv : ieV (N : Int) (K : Int) bs zs cs = avP (N + 1) (putK bs (edg (N : Int)).toNat cs cs.length) zs K := by unfold ieV; rw [hc]; rfl
            rw [hv, hc]
            have h17I : ((N : Int) == 17) = false := by rw [beq_eq_false_iff_ne]; omega
            have hpb := put_col hb hcp
            have HPU := hidd (fun W h => put71 (N : Int) (K : Int) bs hb cs b capb W h (by omega) (by omega) hln (fun j hj => by
              have h1 := allB_get ha hj
              omega))
            obtain ⟨pb, hpe⟩ : ∃ pb, pb = putK bs (edg (N : Int)).toNat cs cs.length := ⟨_, rfl⟩
            rw [← hpe] at HPU hpb ⊢
            have HA2 := hidd (fun W h => avoids44 (N + 1) K pb hpb zs a cap W h hlK (by omega) (by omega) (by omega) (by rw [← hlK]; exact hsp))
            rw [show ((N + 1 : Nat) : Int) = (N : Int) + 1 by omega] at HA2
            obtain ⟨v, hve⟩ : ∃ v, v = avP (N + 1) pb zs K := ⟨_, rfl⟩
            rw [← hve] at HA2 ⊢
            obtain ⟨D2, hD2⟩ : ∃ D2, D2 = (ccells ((N : Int) + 1) (K : Int) pb).toArray := ⟨_, rfl⟩
            rw [← hD2] at HPU HA2
            rw [hlK] at HCO ⊢
            clear hc hL ha hc0 hi ho hlk hsp hea hav hlK hl hcp hv hpe hve hD2 hpb
            go_enter Tryd.func13, Tryd.ntmps13
            go_upto_region 1 with fail
            rw [← hW0]
            clear hW0
            go_wp2_with (refine wpList_load_row rfl 28 (.tmp 3) rfl w.heap.size rfl 28 _ (0,0) _ HG.out.1 Tryd.underlying28 rfl HS.out ?_)
            refine (HCO.out _ (HSL.out.below HG.out.2 (Nat.le_refl _))).mono ?_
            rintro e w1 ⟨rfl, hb1⟩
            have g1 := HG.out.1.below hb1 HG.out.1.lt
            have c0 := g1.cell HC0.out
            have c1 := g1.cell HC1.out
            have G := hidd (And.intro (HG.out.2.trans (hb1.mono HG.out.2.size)) g1)
            clear hb1 g1
            go_wp2_with (first
              | (go_at_call 43; refine (HAL.out _ (HSL2.out.below G.out.1 (Nat.le_refl _))).mono ?_; rintro e w' ⟨rfl, rfl⟩; rw [HA.out])
              | (refine wpList_load_if rfl 28 (.tmp 3) rfl w.heap.size rfl 28 _ _ G.out.2 Tryd.underlying28 rfl HS.out ?_)
              | (go_at_call 44; refine (HAV.out _ (HSL.out.below G.out.1 (Nat.le_refl _))).mono ?_; rintro e w2 ⟨rfl, hb2⟩; rw [HV.out]; have c0' := (G.out.2.below hb2 G.out.2.lt).cell HC0.out)
              | (refine wpList_load_row rfl 28 (.tmp 3) rfl w.heap.size rfl 28 _ (0,0) _ (G.out.2.below hb2 G.out.2.lt) Tryd.underlying28 rfl HS.out ?_))
            have L := hidd (And.intro (G.out.2.below hb2 G.out.2.lt) (G.out.1.trans (hb2.mono G.out.1.size)))
            clear hb2
            refine (HPU.out _ (HSL2.out.below L.out.2 (Nat.le_refl _))).mono ?_
            rintro e w3 ⟨rfl, hb3⟩
            have L2 := hidd (L.out.2.trans (hb3.mono L.out.2.size))
            clear hb3
            go_wp2_with fail
            refine (HA2.out _ (HSL.out.below L2.out (Nat.le_refl _))).mono ?_
            rintro e w4 ⟨rfl, hb4⟩
            have L3 := hidd (L2.out.trans (hb4.mono L2.out.size))
            clear hb4
            go_wp2_with fail
            go_ret2
            exact ⟨rfl, L3.out⟩
    · have hne : ((cs.length : Int) != n) = true := by rw [bne_iff_ne]; exact hln
      have hL : isListB cs n k = false := by unfold isListB; rw [decide_eq_false hln]; rfl
      have hc : ieC n k bs zs cs = 2 := by
        unfold ieC
        rw [if_neg, hL]
        · rfl
        · cases h2 : avP n.toNat bs zs k.toNat with
          | false => rw [eaC_5 hc0 h2]; omega
          | true =>
            by_cases h3 : (16 : Int) < n
            · rw [eaC_3 hc0 h2 h3]; omega
            · rw [eaC_0 hc0 h2 h3]; omega
      rw [ieV_bad hc (by omega), hc]
      clear hc hL hc0 hi ho hlk hsp
      go_enter Tryd.func13, Tryd.ntmps13
      go_upto_region 1 with fail
      rw [← hW0]
      clear hW0
      go_wp2_with (refine wpList_load_row rfl 28 (.tmp 3) rfl w.heap.size rfl 28 _ (0,0) _ HG.out.1 Tryd.underlying28 rfl HS.out ?_)
      refine (HCO.out _ (HSL.out.below HG.out.2 (Nat.le_refl _))).mono ?_
      rintro e w1 ⟨rfl, hb1⟩
      have g1 := HG.out.1.below hb1 HG.out.1.lt
      have c0 := g1.cell HC0.out
      have c1 := g1.cell HC1.out
      have G := hidd (And.intro (HG.out.2.trans (hb1.mono HG.out.2.size)) g1)
      clear hb1 g1
      go_wp2_with fail
      go_ret2
      exact ⟨rfl, G.out.1⟩
  · have hea := eaC_bad (lim := 16) hc0
    have hc : ieC n k bs zs cs = szCode n k bs zs := by
      unfold ieC
      rw [hea]
      by_cases h1 : szCode n k bs zs = 1
      · rw [if_pos h1, h1]
      · rw [if_neg h1]
        split
        · rfl
        · have : isCol n k bs = true := by
            cases hi : isCol n k bs with
            | true => rfl
            | false => exact absurd (szCode_1 hi) h1
          cases ho : szOk k zs with
          | true => exact absurd (szCode_0 this ho) hc0
          | false => rw [szCode_2 this ho]
    rw [ieV_bad hc hc0, hc]
    obtain ⟨cd, hcd⟩ : ∃ cd, cd = szCode n k bs zs := ⟨_, rfl⟩
    rw [← hcd] at HCO hc0 ⊢
    have hz : (cd == 0) = false := by rw [beq_eq_false_iff_ne]; exact hc0
    have hz2 : (cd != 0) = true := by rw [bne_iff_ne]; exact hc0
    clear hc hea hcd hc0
    go_enter Tryd.func13, Tryd.ntmps13
    go_upto_region 1 with fail
    rw [← hW0]
    clear hW0
    go_wp2_with (refine wpList_load_row rfl 28 (.tmp 3) rfl w.heap.size rfl 28 _ (0,0) _ HG.out.1 Tryd.underlying28 rfl HS.out ?_)
    refine (HCO.out _ (HSL.out.below HG.out.2 (Nat.le_refl _))).mono ?_
    rintro e w1 ⟨rfl, hb1⟩
    have g1 := HG.out.1.below hb1 HG.out.1.lt
    have c0 := g1.cell HC0.out
    have c1 := g1.cell HC1.out
    have G := hidd (And.intro (HG.out.2.trans (hb1.mono HG.out.2.size)) g1)
    clear hb1 g1
    go_wp2_with fail
    go_ret2
    exact ⟨rfl, G.out.1⟩
end Go.Proofs.YtckffliiidgilaaDoor
/- LongestBeginning: the program. -/
namespace Go.Proofs.YtckffliiidgilaaDoor
set_option linter.unusedVariables false
set_option linter.unusedSimpArgs false
open Go Go.RowKit Go.Shelf
set_option maxRecDepth 100000 in
set_option maxHeartbeats 4000000 in
theorem impl41 (n k : Int) (bs : List Nat) (hb : Bys bs) (zs : List Int) (a : Option Addr) (cap : Nat) (e0 : Addr) (w : World) (hs : SlI w a zs) (hl : zs.length ≤ 1048576) (hE : Er w e0) :
    Calls Tryd.prog 41 #[.agg (ccells n k bs).toArray, .slice a zs.length cap] w fun e w' => e = .returned (.tuple #[.int .i64 (lgV n k bs zs), .int .i64 (szCode n k bs zs)]) ∧ Below w.heap.size w w' := by
  have Hz := zero56
  have HS := hidd (size_c26 n k hb)
  have HSL := hidd hs
  have HE := hidd hE
  have HEN := hidd (fun W h hE => enter58 n k bs hb zs a cap e0 W h hl hE)
  have HC0 := hidd (show (ccells n k bs).toArray[0]? = some (.int .i64 n) from rfl)
  have HG := hidd (And.intro (Blk.new w (ccells n k bs).toArray 28 _ rfl) ((Below.refl w.heap.size w).alloc (Nat.le_refl _) (.cells (ccells n k bs).toArray 28)))
  obtain ⟨W0, hW0⟩ : ∃ W0, W0 = w.alloc (.cells (ccells n k bs).toArray 28) := ⟨_, rfl⟩
  rw [← hW0] at HG
  obtain ⟨D, hD⟩ : ∃ D, D = (enS n k bs zs a cap).toArray := ⟨_, rfl⟩
  obtain ⟨cd, hcd⟩ : ∃ cd, cd = szCode n k bs zs := ⟨_, rfl⟩
  have hDs : (Tryd.prog.info? 56).map (·.size) = some D.size ∧ (scl 0 0 zbl none 0 0).toArray.size = D.size ∧ D.all (·.oneCell') = true := by
    rw [hD]; unfold enS
    split
    · exact ⟨size_s56 hb _ _ _, by simp [scl_len zbl_bys, scl_len hb], scl_one⟩
    · exact ⟨size_s56 zbl_bys _ _ _, rfl, scl_one⟩
  have HD := hidd hDs
  rw [← hD, ← hcd] at HEN
  have HJ := hidd (fun (W1 : World) (hb1 : Below W0.heap.size W0 W1) =>
    (show Blk ((W1.alloc (.cells (scl 0 0 zbl none 0 0).toArray 56)).setRow W1.heap.size D) w.heap.size (ccells n k bs).toArray 28 ∧
        Below w.heap.size w ((W1.alloc (.cells (scl 0 0 zbl none 0 0).toArray 56)).setRow W1.heap.size D) from by
      have k1 := HG.out.1.below hb1 HG.out.1.lt
      have hlt := k1.lt
      have k3 := HG.out.2.trans (hb1.mono HG.out.2.size)
      exact ⟨(k1.alloc _).rowOther _ _ (by omega), below_setRow (k3.alloc (by omega) _) (by omega) _⟩))
  rw [← hcd]
  clear hDs hs hE
  by_cases h0 : cd = 0
  · have hc0 := hcd.symm.trans h0
    obtain ⟨hi, ho⟩ := szCode_ok hc0
    obtain ⟨n1, n2, k1, k2⟩ := isCol_bd hi
    obtain ⟨hlk, hsp⟩ := szOk_bd ho
    obtain ⟨N, rfl⟩ := Int.eq_ofNat_of_zero_le (show 0 ≤ n by omega)
    obtain ⟨K, rfl⟩ := Int.eq_ofNat_of_zero_le (show 0 ≤ k by omega)
    have hlK : zs.length = K := by omega
    have hv : lgV (N : Int) (K : Int) bs zs = (lbN N bs zs K : Int) := by unfold lgV; rw [if_pos hc0]; rfl
    rw [hv, hlK]
    rw [hlK] at HEN hsp
    have HSP := hidd hsp
    have HLK := hidd hlK
    have hN17 : N ≤ 17 := by omega
    have hK4 : K ≤ 4 := by omega
    have hN1 : 1 ≤ N := by omega
    clear hv hD hcd hc0 hi ho hlk hsp hlK hl
    subst h0
    go_enter Tryd.func41, Tryd.ntmps41
    go_upto_region 1 with fail
    rw [← hW0]
    clear hW0
    go_wp2_with (refine wpList_load_row rfl 28 (.tmp 2) rfl w.heap.size rfl 28 _ (0,0) _ HG.out.1 Tryd.underlying28 rfl HS.out ?_)
    refine (HEN.out _ (HSL.out.below HG.out.2 (Nat.le_refl _)) (HE.out.below HG.out.2 HE.out.lt)).mono ?_
    rintro e w1 ⟨rfl, hb1⟩
    have J := hidd (HJ.out w1 hb1)
    clear hb1
    obtain ⟨W4, hW4⟩ : ∃ W4, W4 = (w1.alloc (.cells (scl 0 0 zbl none 0 0).toArray 56)).setRow w1.heap.size D := ⟨_, rfl⟩
    rw [← hW4] at J
    have c0 := J.out.1.cell HC0.out
    go_upto_region 2 with (refine wpList_store_row rfl 56 (.tmp 6) (.tmp 17) rfl w1.heap.size _ rfl rfl 56 _ (Blk.new _ _ _ _ rfl) HD.out.1 HD.out.2.1 HD.out.2.2 ?_)
    rw [← hW4]
    clear hW4
    go_wp2_with fail
    go_loopw [8, 26] (fun g e wr => ∃ d lg : Nat, d ≤ K ∧ g = .int .i64 (lg : Int) ∧ e = .int .i64 (d : Int) ∧ Hid (LgI N K bs zs d [] 0 lg ∧ Blk wr w.heap.size (ccells (N : Int) (K : Int) bs).toArray 28 ∧ Below w.heap.size w wr)) (fun _ e _ => K - (intOf e).toNat)
    case atStart => exact ⟨0, N, Nat.zero_le _, rfl, rfl, LgI.start N K bs zs, J.out⟩
    case round =>
      obtain ⟨d, lg, hd, rfl, rfl, HK⟩ := hrel
      by_cases hlt : d < K
      · have hltI : decide ((d : Int) < (K : Int)) = true := by simp; omega
        rcases HSL.out with hz | ⟨bl, off, ha, hc⟩
        · have := HLK.out; rw [hz] at this; simp at this; omega
        · subst ha
          have cj := cell_below (hc d (by have := HLK.out; omega)) HK.out.2.2
          obtain ⟨z, hzz⟩ : ∃ z, z = zs.getD d 0 := ⟨_, rfl⟩
          rw [← hzz] at cj
          have HCO := hidd (fun W => cos75 N (K : Int) (d : Int) z bs hb W hN1 hN17)
          obtain ⟨L, hL⟩ : ∃ L, L = csL (nsF bs (d : Int) (eseq N)) N z := ⟨_, rfl⟩
          rw [← hL] at HCO
          have HL := hidd (show L = csL (nsF bs (d : Int) (eseq N)) N (zs.getD d 0) by rw [hL, hzz])
          have HI0 := hidd (HK.out.1.inner L)
          have hLM : L.length ≤ 131072 := by rw [hL]; unfold csL; exact Nat.le_trans (List.length_filter_le _ _) (cqR_many _ hN17)
          clear hc hzz hL
          go_wp2_with (refine wpList_load_row rfl 28 (.tmp 2) rfl w.heap.size rfl 28 _ (0,0) _ HK.out.2.1 Tryd.underlying28 rfl HS.out ?_)
          refine (HCO.out _).mono ?_
          rintro e w5 ⟨aL, cL, rfl, hSU, hb5⟩
          have G5 := hidd (And.intro (HK.out.2.1.below hb5 HK.out.2.1.lt) (HK.out.2.2.trans (hb5.mono HK.out.2.2.size)))
          have HSU := hidd hSU
          obtain ⟨wo, rfl⟩ : ∃ wo, wo = wr := ⟨_, rfl⟩
          clear hb5 hSU cj
          go_wp2_with fail
          go_loopw [8, 36] (fun g e wr => ∃ j lg : Nat, j ≤ L.length ∧ g = .int .i64 (lg : Int) ∧ e = .int .i64 (j : Int) ∧ Hid (LgI N K bs zs d L j lg ∧ w5 = wr)) (fun _ e _ => L.length - (intOf e).toNat)
          case atStart => exact ⟨0, lg, Nat.zero_le _, rfl, rfl, HI0.out, rfl⟩
          case round =>
            obtain ⟨j, lh, hj, rfl, rfl, HI, hww⟩ := hrel
            obtain rfl : w5 = wr := hww
            have HI' := hidd HI
            clear HI
            by_cases hjl : j < L.length
            · have hjI : decide ((j : Int) < (L.length : Int)) = true := by simp; omega
              have hmem : L[j] ∈ csL (nsF bs (d : Int) (eseq N)) N (zs.getD d 0) := by rw [← HL.out]; exact List.getElem_mem hjl
              obtain ⟨q, r, hqr, hqN, hrq⟩ := cs_shape hN17 hmem
              have hget : L[j]? = some (q :: r) := by rw [List.getElem?_eq_getElem hjl, hqr]
              have hst := HI'.out
              rw [HL.out] at hst
              have hst2 := hst.step (q := q) (r := r) hN17 hlt (by rw [← HL.out]; exact hget)
              rw [← HL.out] at hst2
              have HLA := hidd (fun W => last60 (q := q) (s := r) hrq (by omega) W)
              obtain ⟨X, hX⟩ : ∃ X, X = bitS (q :: r) := ⟨_, rfl⟩
              rw [← hX] at HLA
              rcases HSU.out with hz | ⟨g, hg, hgl, hcell⟩
              · rw [hz] at hjl; simp at hjl
              · subst hg
                have ce := hcell j _ hget
                rw [← hX] at ce
                clear hcell hst hmem hqr hget hX
                by_cases hq : q < lh
                · rw [if_pos hq] at hst2
                  have HST := hidd hst2
                  have hqI : decide ((q : Int) < (lh : Int)) = true := by simp; omega
                  have hqJ : (q : Int) < (lh : Int) := by omega
                  clear hst2
                  go_wp2_with (go_at_call 76; refine (HLA.out _).mono ?_; rintro e w' ⟨rfl, rfl⟩)
                  go_roundw
                  case rel => exact ⟨j + 1, q, by omega, rfl, by go_num, HST.out, trivial⟩
                  case measure => simp [intOf]; omega
                · rw [if_neg hq] at hst2
                  have HST := hidd hst2
                  have hqI : decide ((q : Int) < (lh : Int)) = false := by simp; omega
                  have hqJ : ¬ (q : Int) < (lh : Int) := by omega
                  clear hst2
                  go_wp2_with (go_at_call 76; refine (HLA.out _).mono ?_; rintro e w' ⟨rfl, rfl⟩)
                  go_roundw
                  case rel => exact ⟨j + 1, lh, by omega, rfl, by go_num, HST.out, trivial⟩
                  case measure => simp [intOf]; omega
            · have hjI : decide ((j : Int) < (L.length : Int)) = false := by simp; omega
              have hje : j = L.length := by omega
              subst hje
              have hst := HI'.out
              rw [HL.out] at hst
              have HST := hidd (hst.next hN17)
              clear hst
              go_wp2_with fail
              go_roundw
              case rel => exact ⟨d + 1, lh, by omega, rfl, by go_num, HST.out, G5.out⟩
              case measure => simp [intOf]; omega
      · have hltI : decide ((d : Int) < (K : Int)) = false := by simp; omega
        have hde : d = K := by omega
        subst hde
        have HE := hidd (HK.out.1.done hN17 HSP.out)
        go_wp2_with fail
        go_ret2
        exact ⟨by rw [HE.out]; rfl, HK.out.2.2⟩
  · have hv : lgV n k bs zs = 0 := by unfold lgV; rw [if_neg (by rw [← hcd]; exact h0)]
    have hnz : (cd != 0) = true := by rw [bne_iff_ne]; exact h0
    rw [hv]
    clear hv hD hcd
    go_enter Tryd.func41, Tryd.ntmps41
    go_upto_region 1 with fail
    rw [← hW0]
    clear hW0
    go_wp2_with (refine wpList_load_row rfl 28 (.tmp 2) rfl w.heap.size rfl 28 _ (0,0) _ HG.out.1 Tryd.underlying28 rfl HS.out ?_)
    refine (HEN.out _ (HSL.out.below HG.out.2 (Nat.le_refl _)) (HE.out.below HG.out.2 HE.out.lt)).mono ?_
    rintro e w1 ⟨rfl, hb1⟩
    have J := hidd (HJ.out w1 hb1)
    clear hb1
    go_wp2_with (refine wpList_store_row rfl 56 (.tmp 6) (.tmp 17) rfl w1.heap.size _ rfl rfl 56 _ (Blk.new _ _ _ _ rfl) HD.out.1 HD.out.2.1 HD.out.2.2 ?_)
    go_ret2
    exact ⟨rfl, J.out.2⟩
end Go.Proofs.YtckffliiidgilaaDoor
