/- FirstAvoiding: the program. -/
import Derived.Test.YtckffliiidgilaaDoorFis
namespace Go.Proofs.YtckffliiidgilaaDoor
set_option linter.unusedVariables false
set_option linter.unusedSimpArgs false
open Go Go.RowKit Go.Shelf Go.Extern.Stop Go.Stop Go.Extern
attribute [local go_sem] Oper.semAt_some
theorem inZero28 {F : Fence} {m : Nat} {ops : Array Oper} {rest : List Oper} {o : Oper} {a : Act} {w : World} {Q : Exit → Act → World → Prop} (hgd : o.guard = none) (ho : o.op = .build 28 #[])
    (C : Array Value) (hC : C = (ccells 0 0 zbl).toArray) (h : wpListIn F m Tryd.prog ops Q rest (a.put o.dst (.agg C)) w) : wpListIn F m Tryd.prog ops Q (o :: rest) a w := by
  have hbu : Tryd.prog.built 28 [] = some C := by rw [hC]; exact built26
  have e : ((#[] : Array (Nat × Operand)).map fun (i, x) => (i, a.eval x)).toList = [] := by simp
  clear hC
  exact inBuild hgd 28 _ ho C (by rw [e]; exact hbu) h
/-- The two cells of the answer. -/
def RelFj (w : World) (F : Array Value) (c : Int) (A : World) : Prop := Blk A w.heap.size F 28 ∧ Blk A (w.heap.size + 1) #[.int .i64 c] 2 ∧ Below w.heap.size w A
theorem RelFj.below {w A A' : World} {F : Array Value} {c : Int} {C : Nat} (h : RelFj w F c A) (k : Below C A A') (hC : w.heap.size + 2 ≤ C) : RelFj w F c A' :=
  ⟨h.1.below k (by omega), h.2.1.below k (by omega), h.2.2.trans (k.mono (by omega))⟩
theorem RelFj.put {w A : World} {F : Array Value} {c : Int} (h : RelFj w F c A) (F' : Array Value) (c' : Int) :
    RelFj w F' c' ((A.setRow w.heap.size F').setCell ⟨w.heap.size + 1, 0, none⟩ (.int .i64 c')) :=
  ⟨(h.1.rowSame F').other _ _ (by simp), (h.2.1.rowOther w.heap.size F' (by omega)).same 0 (.int .i64 c'), (below_setRow h.2.2 (Nat.le_refl _) F').setCell (p := ⟨w.heap.size + 1, 0, none⟩) (by show w.heap.size ≤ w.heap.size + 1; omega) _⟩
theorem RelFj.new (w : World) (Z : Array Value) : RelFj w Z 0 ((w.alloc (.cells Z 28)).alloc (.cells #[.int .i64 0] 2)) :=
  ⟨(Blk.new _ _ _ _ rfl).alloc _, Blk.new _ _ _ _ (by simp), ((Below.refl _ _).alloc (Nat.le_refl _) _).alloc (by simp) _⟩
theorem fi_code {zs : List Int} : szCode 1 2 zbl zs = if szOk 2 zs = true then 0 else 2 := by
  cases h : szOk 2 zs with
  | true => exact szCode_0 (isCol_one (by omega) (by omega)) h
  | false => exact szCode_2 (isCol_one (by omega) (by omega)) h
set_option maxRecDepth 100000 in
set_option maxHeartbeats 4000000 in
theorem impl36_bad (n : Int) (zs : List Int) (a : Option Addr) (cap : Nat) (e0 : Addr) (w : World) (hs : SlI w a zs) (hl : zs.length ≤ 1048576) (hE : Er w e0) (h : fiOk n zs = false) :
    Calls Tryd.prog 36 #[.int .i64 n, .slice a zs.length cap] w fun e w' => e = .returned (.tuple #[.agg (ccells 0 0 zbl).toArray, .int .i64 2]) ∧ Below w.heap.size w w' := by
  have HSL := hidd hs
  have HE := hidd hE
  have Hz28 := zero26
  have Hz := zero56
  have HZ := hidd (show (Tryd.prog.info? 28).map (·.size) = some (ccells 0 0 zbl).toArray.size ∧ (ccells 0 0 zbl).toArray.all (·.oneCell') = true from ⟨size_z26, ccells_one _ _ _⟩)
  have R0 := hidd (RelFj.new w (ccells 0 0 zbl).toArray)
  cases hx : inB n 1 8 with
  | false =>
    have HX := hidd hx
    have c5 := (R0.out.2.1.rowOther w.heap.size (ccells 0 0 zbl).toArray (by omega)).cell (j := 0) (show _ = some (Value.int .i64 0) from rfl)
    have f5 := (R0.out.2.1.rowOther w.heap.size (ccells 0 0 zbl).toArray (by omega)).fro 0
    have K := hidd (R0.out.put (ccells 0 0 zbl).toArray 2)
    have k5 := hidd (K.out.2.1.cell (j := 0) (show _ = some (Value.int .i64 2) from rfl))
    clear hs hE hx
    go_enter Tryd.func36, Tryd.ntmps36
    go_wp2_with (first
      | (go_at_call 62; refine (within45 _ _ _ _).mono ?_; rintro e w' ⟨rfl, rfl⟩; rw [HX.out])
      | (refine wpList_zero26 rfl rfl ?_)
      | (refine wpList_store_row rfl 28 (.tmp 4) (.tmp 12) rfl w.heap.size _ rfl rfl 28 _ R0.out.1 HZ.out.1 rfl HZ.out.2 ?_))
    exact bodyPost_ret (results_row_cell (p := 4) (u := 5) rfl _ _ w.heap.size (w.heap.size + 1) 28 _ _ (.int .i64 2) rfl rfl K.out.1 Tryd.underlying28 rfl HZ.out.1 (load_num k5.out)) rfl ⟨rfl, K.out.2.2⟩
  | true =>
    have HX := hidd hx
    have hsz : szOk 2 zs = false := by
      unfold fiOk at h; rw [hx] at h; exact h
    have hc := fi_code (zs := zs)
    rw [hsz] at hc
    have hc2 : szCode 1 2 zbl zs = 2 := hc
    have HEN := hidd (fun W h hE => enter58 1 2 zbl zbl_bys zs a cap e0 W h hl hE)
    rw [hc2] at HEN
    have hen : enS 1 2 zbl zs a cap = scl 0 0 zbl none 0 0 := by unfold enS; rw [if_neg (by rw [hc2]; decide)]
    rw [hen] at HEN
    obtain ⟨D, hD⟩ : ∃ D, D = (scl 0 0 zbl none 0 0).toArray := ⟨_, rfl⟩
    have HD := hidd (show (Tryd.prog.info? 56).map (·.size) = some D.size ∧ (scl 0 0 zbl none 0 0).toArray.size = D.size ∧ D.all (·.oneCell') = true from by
      rw [hD]; exact ⟨size_s56 zbl_bys _ _ _, rfl, scl_one⟩)
    obtain ⟨C, hC⟩ : ∃ C, C = (ccells 1 2 zbl).toArray := ⟨_, rfl⟩
    have HC := hidd hC
    rw [← hD, ← hC] at HEN
    have HJ := hidd (fun (W0 W1 : World) (h0 : RelFj w (ccells 0 0 zbl).toArray 0 W0) (h2 : w.heap.size + 2 ≤ W0.heap.size) (hb1 : Below W0.heap.size W0 W1) =>
      (show RelFj w (ccells 0 0 zbl).toArray 0 ((W1.alloc (.cells (scl 0 0 zbl none 0 0).toArray 56)).setRow W1.heap.size D) from by
        have k := h0.below hb1 h2
        have hs1 := hb1.size
        exact k.below (below_setRow ((Below.refl W1.heap.size W1).alloc (Nat.le_refl _) _) (Nat.le_refl _) D) (by omega)))
    obtain ⟨W0, hW0⟩ : ∃ W0, W0 = (w.alloc (.cells (ccells 0 0 zbl).toArray 28)).alloc (.cells #[.int .i64 0] 2) := ⟨_, rfl⟩
    have hs2 : w.heap.size + 2 ≤ W0.heap.size := by rw [hW0]; simp
    rw [← hW0] at R0
    have H2 := hidd hs2
    clear hs hE hx hsz hc hc2 hen hD hC hs2
    go_enter Tryd.func36, Tryd.ntmps36
    go_upto_region 1 with fail
    rw [← hW0]
    clear hW0
    go_wp2_with (first
      | (go_at_call 62; refine (within45 _ _ _ _).mono ?_; rintro e w' ⟨rfl, rfl⟩; rw [HX.out])
      | (refine wpList_nk rfl _ _ rfl rfl rfl ?_; rw [← HC.out]))
    refine (HEN.out _ (HSL.out.below R0.out.2.2 (Nat.le_refl _)) (HE.out.below R0.out.2.2 HE.out.lt)).mono ?_
    rintro e w1 ⟨rfl, hb1⟩
    have J := hidd (HJ.out _ w1 R0.out H2.out hb1)
    clear hb1
    obtain ⟨W4, hW4⟩ : ∃ W4, W4 = (w1.alloc (.cells (scl 0 0 zbl none 0 0).toArray 56)).setRow w1.heap.size D := ⟨_, rfl⟩
    rw [← hW4] at J
    have c5 := (J.out.2.1.rowOther w.heap.size (ccells 0 0 zbl).toArray (by omega)).cell (j := 0) (show _ = some (Value.int .i64 0) from rfl)
    have f5 := (J.out.2.1.rowOther w.heap.size (ccells 0 0 zbl).toArray (by omega)).fro 0
    have K := hidd (J.out.put (ccells 0 0 zbl).toArray 2)
    have k5 := hidd (K.out.2.1.cell (j := 0) (show _ = some (Value.int .i64 2) from rfl))
    go_wp2_with (first
      | (refine wpList_store_row rfl 56 (.tmp 6) (.tmp 17) rfl w1.heap.size _ rfl rfl 56 _ (Blk.new _ _ _ _ rfl) HD.out.1 HD.out.2.1 HD.out.2.2 ?_; rw [← hW4]; clear hW4)
      | (refine wpList_zero26 rfl rfl ?_)
      | (refine wpList_store_row rfl 28 (.tmp 4) (.tmp 21) rfl w.heap.size _ rfl rfl 28 _ J.out.1 HZ.out.1 rfl HZ.out.2 ?_))
    exact bodyPost_ret (results_row_cell (p := 4) (u := 5) rfl _ _ w.heap.size (w.heap.size + 1) 28 _ _ (.int .i64 2) rfl rfl K.out.1 Tryd.underlying28 rfl HZ.out.1 (load_num k5.out)) rfl ⟨rfl, K.out.2.2⟩
set_option maxRecDepth 100000 in
set_option maxHeartbeats 4000000 in
theorem impl36_good (N : Nat) (zs : List Int) (bl off cap : Nat) (e0 : Addr) (w : World) (hs : SlI w (some ⟨bl, off, none⟩) zs) (hl : zs.length ≤ 1048576) (hE : Er w e0) (hok : fiOk (N : Int) zs = true) (hbl : bl < w.heap.size) :
    Calls Tryd.prog 36 #[.int .i64 (N : Int), .slice (some ⟨bl, off, none⟩) 2 cap] w fun e w' => e = .returned (.tuple #[.agg (fiV (N : Int) zs).toArray, .int .i64 (fiC (N : Int) zs)]) ∧ Below w.heap.size w w' := by
  have Hz28 := zero26
  have Hz := zero56
  obtain ⟨q1, q2, hlK, hsp⟩ := fi_bd hok
  have n1 : 1 ≤ N := by omega
  have n8 : N ≤ 8 := by omega
  have HX := hidd (show inB (N : Int) 1 8 = true from inB_yes q1 q2)
  have HSL := hidd hs
  have HE := hidd hE
  have HZ := hidd (show (Tryd.prog.info? 28).map (·.size) = some (ccells 0 0 zbl).toArray.size ∧ (ccells 0 0 zbl).toArray.all (·.oneCell') = true from ⟨size_z26, ccells_one _ _ _⟩)
  have R0 := hidd (RelFj.new w (ccells 0 0 zbl).toArray)
  have hso : szOk 2 zs = true := by unfold szOk; rw [hlK, hsp]; rfl
  have hc := fi_code (zs := zs)
  rw [hso] at hc
  have hc2 : szCode 1 2 zbl zs = 0 := hc
  have HEN := hidd (fun W h hE => enter58 1 2 zbl zbl_bys zs (some ⟨bl, off, none⟩) cap e0 W h hl hE)
  have hen : enS 1 2 zbl zs (some ⟨bl, off, none⟩) cap = scl 1 2 zbl (some ⟨bl, off, none⟩) 2 cap := by unfold enS; rw [if_pos hc2, hlK]
  rw [hen, hc2, hlK] at HEN
  obtain ⟨D, hD⟩ : ∃ D, D = (scl 1 2 zbl (some ⟨bl, off, none⟩) 2 cap).toArray := ⟨_, rfl⟩
  have HD := hidd (show (Tryd.prog.info? 56).map (·.size) = some D.size ∧ (scl 0 0 zbl none 0 0).toArray.size = D.size ∧ D.all (·.oneCell') = true from by
    rw [hD]; exact ⟨size_s56 zbl_bys _ _ _, by simp [scl_len zbl_bys], scl_one⟩)
  have H64 := hidd (fun W => at64 1 2 zbl zbl_bys (some ⟨bl, off, none⟩) 2 cap D hD (N : Int) W)
  have HIT := hidd (fun b1 b2 W (hX1 : Blk W b1 D 56) hX2 hs hbl => grown92 zs 2 bl off cap N 1 b1 b2 zbl W hlK (by omega) (by omega) hsp (by omega) (by omega) n1 zbl_bys (isCol_one (by decide) (by decide)) hs hbl (by rw [hD] at hX1; exact hX1) hX2)
  have hbys := fiA_bys (n := (N : Int)) (zs := zs)
  have hno := fi_none hok
  have hso2 := fun b r => fi_some (b := b) (r := r) hok
  obtain ⟨L, hL⟩ : ∃ L, L = gwL zs 2 N 1 zbl := ⟨_, rfl⟩
  rw [show fiA (N : Int) zs = L from by rw [hL]; rfl] at hbys hno
  obtain ⟨R, hR⟩ : ∃ R : List Nat → Array Value, R = fun x => (ccells (N : Int) ((2 : Nat) : Int) x).toArray := ⟨_, rfl⟩
  have HER := hidd (show ∀ x, encG N 2 x = #[.agg (R x)] from fun x => by rw [hR]; rfl)
  have HRS := hidd (show ∀ x ∈ L, (Tryd.prog.info? 28).map (·.size) = some (R x).size ∧ (ccells 0 0 zbl).toArray.size = (R x).size ∧ (R x).all (·.oneCell') = true from fun x hx => by
    rw [hR]; exact ⟨size_c26 _ _ (hbys x hx), size_cc _ _ _ _ zbl_bys (hbys x hx), ccells_one _ _ _⟩)
  have HV := hidd (show (L = [] → (fiV (N : Int) zs).toArray = (ccells 0 0 zbl).toArray ∧ fiC (N : Int) zs = 4) ∧ (∀ x r, L = x :: r → (fiV (N : Int) zs).toArray = R x ∧ fiC (N : Int) zs = 0) from
    ⟨fun h => ⟨by rw [(hno h).1], (hno h).2⟩, fun x r h => by
      have := hso2 x r (show fiA (N : Int) zs = x :: r from by rw [← h, hL]; rfl)
      exact ⟨by rw [this.1, hR]; rfl, this.2⟩⟩)
  obtain ⟨fv, hfv⟩ : ∃ fv, fv = (fiV (N : Int) zs).toArray := ⟨_, rfl⟩
  obtain ⟨fc, hfc⟩ : ∃ fc, fc = fiC (N : Int) zs := ⟨_, rfl⟩
  rw [← hfv, ← hfc] at HV ⊢
  rw [← hL] at HIT
  obtain ⟨C, hC⟩ : ∃ C, C = (ccells 1 2 zbl).toArray := ⟨_, rfl⟩
  have HC := hidd hC
  rw [← hD, ← hC] at HEN
  have HJ := hidd (fun (W0 W1 : World) (h0 : RelFj w (ccells 0 0 zbl).toArray 0 W0) (h2 : w.heap.size + 2 ≤ W0.heap.size) (hb1 : Below W0.heap.size W0 W1) =>
    (show RelFj w (ccells 0 0 zbl).toArray 0 ((W1.alloc (.cells (scl 0 0 zbl none 0 0).toArray 56)).setRow W1.heap.size D) ∧ Blk ((W1.alloc (.cells (scl 0 0 zbl none 0 0).toArray 56)).setRow W1.heap.size D) W1.heap.size D 56 ∧ w.heap.size + 2 ≤ ((W1.alloc (.cells (scl 0 0 zbl none 0 0).toArray 56)).setRow W1.heap.size D).heap.size from by
      have k := h0.below hb1 h2
      have hs1 := hb1.size
      have k2 := below_setRow ((Below.refl W1.heap.size W1).alloc (Nat.le_refl _) (.cells (scl 0 0 zbl none 0 0).toArray 56)) (Nat.le_refl _) D
      exact ⟨k.below k2 (by omega), (Blk.new _ _ _ _ rfl).rowSame _, Nat.le_trans (by omega) k2.size⟩))
  have HR0 := hidd (show w.heap.size + 2 ≤ ((w.alloc (.cells (ccells 0 0 zbl).toArray 28)).alloc (.cells #[.int .i64 0] 2)).heap.size from by simp)
  clear hs hE hc hc2 hen hD hC hL hl hR hfv hfc hbys hno hso2 hso hsp hlK q1 q2 hok
  refine (callsIn_wide (n := 2)).1 (callsIn_of_wp_marks Tryd.func36 rfl trivial ?_ rfl)
  simp only [Tryd.ntmps36, List.size_toArray, List.length_cons, List.length_nil, Nat.reduceAdd, Nat.reduceSub, Array.replicate_succ, Array.replicate_zero, List.push_toArray, List.append_toArray, List.nil_append, List.cons_append]
  gi_wp2_with fail
  refine ⟨trivial, (callsIn_wide.2 (within45 _ _ _ _)).mono ?_⟩
  rintro e w' ⟨rfl, rfl⟩
  rw [HX.out]
  gi_wp2_with (refine inBuildNk rfl _ _ rfl rfl rfl C HC.out ?_)
  refine ⟨trivial, (callsIn_wide.2 (HEN.out _ (HSL.out.below R0.out.2.2 (Nat.le_refl _)) (HE.out.below R0.out.2.2 HE.out.lt))).mono ?_⟩
  rintro e w1 ⟨rfl, hb1⟩
  have J := hidd (HJ.out _ w1 R0.out HR0.out hb1)
  clear hb1
  obtain ⟨W4, hW4⟩ : ∃ W4, W4 = (w1.alloc (.cells (scl 0 0 zbl none 0 0).toArray 56)).setRow w1.heap.size D := ⟨_, rfl⟩
  rw [← hW4] at J
  gi_wp2_with (first
    | (refine inStoreRow rfl 56 (.tmp 6) (.tmp 17) rfl w1.heap.size _ rfl rfl 56 _ (Blk.new _ _ _ _ rfl) HD.out.1 HD.out.2.1 HD.out.2.2 ?_; rw [← hW4]; clear hW4)
    | (refine inLoadRow rfl 56 (.tmp 6) rfl w1.heap.size rfl 56 _ _ J.out.2.1 Tryd.underlying56 rfl HD.out.1 ?_))
  refine ⟨trivial, (callsIn_wide.2 (H64.out _)).mono ?_⟩
  rintro e w5 ⟨rfl, kB1, kB2, hb5⟩
  have H5 := hidd (show w.heap.size + 2 ≤ W4.heap.size ∧ W4.heap.size + 1 < w5.heap.size from ⟨J.out.2.2, kB2.lt⟩)
  have HR5 := hidd (J.out.1.below hb5 J.out.2.2)
  have HIT5 := hidd (HIT.out _ _ w5 kB1 kB2 (HSL.out.below HR5.out.2.2 (Nat.le_refl _)) (Nat.lt_of_lt_of_le hbl HR5.out.2.2.size))
  clear kB1 kB2 hb5
  gi_wp2_with fail
  have HST := hidd (show Stab w5.heap.size (fun (pre : List (List Nat)) Wx => pre = [] ∧ RelFj w (ccells 0 0 zbl).toArray 0 Wx) from
    fun pre A A' h hb => ⟨h.1, h.2.below hb (by have := H5.out; omega)⟩)
  have HSX := hidd (show StabX w5.heap.size (fun (xs : List (List Nat)) Wx => ∃ x, xs = [x] ∧ RelFj w (R x) 0 Wx) from
    fun pre A A' ⟨x, h1, h2⟩ hb _ => ⟨x, h1, h2.below hb (by have := H5.out; omega)⟩)
  refine range_gives rfl (enters_of Tryd.func92 (by kernel_rfl) rfl) HIT5.out (fun b hb => by
      have := H5.out
      have h2 := HR5.out.2.2.size
      simp only [List.mem_cons, List.not_mem_nil, or_false] at hb
      rcases hb with rfl | rfl | rfl <;> omega) (fun _ => rfl)
    (fun (pre : List (List Nat)) Wx => pre = [] ∧ RelFj w (ccells 0 0 zbl).toArray 0 Wx) (fun (xs : List (List Nat)) Wx => ∃ x, xs = [x] ∧ RelFj w (R x) 0 Wx) HST.out HSX.out ⟨rfl, HR5.out⟩
    (fun x a' Wx => ∃ b, a' = { tmps := #[.int .i64 (N : Int), .slice (some ⟨bl, off, none⟩) 2 cap, undef, undef, .pointer (some ⟨w.heap.size, 0, none⟩), .pointer (some ⟨w.heap.size + 1, 0, none⟩), .pointer (some ⟨w1.heap.size, 0, none⟩), .int .i64 0, .pointer (some ⟨b, 0, none⟩), .int .i64 (N : Int), .bool true, .bool false, undef, .tuple #[.agg D, .int .i64 0], .agg C, .slice (some ⟨bl, off, none⟩) 2 cap, .tuple #[.agg D, .int .i64 0], .agg D, .int .i64 0, .int .i64 0, .bool false, undef, undef, .agg D, .int .i64 (N : Int), .func (.func 92) #[] #[.pointer (some ⟨W4.heap.size, 0, none⟩), .pointer (some ⟨W4.heap.size + 1, 0, none⟩)], .agg (R x), undef, undef], defers := [] } ∧ w5.heap.size ≤ b ∧ Blk Wx b (R x) 28)
    (fun x a' A l o o' ⟨b, h1, h2, h3⟩ ho hc => ⟨b, h1, h2, blk_put h3 ho hc o'⟩) ?assign ?body ?done ?stop
  case assign =>
    intro l' pre x rest Wx Kx' hall hI hs hK
    have HK := hidd hK
    have HSS := hidd hs
    have HXS := hidd (HRS.out x (by rw [hall]; simp))
    clear hK hI hall
    rw [HER.out]
    have HB := hidd (Blk.new Wx (ccells 0 0 zbl).toArray 28 _ rfl)
    gi_wp2_with (refine inStoreRow rfl 28 (.tmp 8) (.tmp 26) rfl Wx.heap.size _ rfl rfl 28 _ HB.out HXS.out.1 HXS.out.2.1 HXS.out.2.2 ?_)
    exact HK.out _ _ (below_setRow ((Below.refl _ _).alloc (Nat.le_refl _) _) (Nat.le_refl _) _) ⟨Wx.heap.size, by first | (simp; done) | kernel_rfl, HSS.out, HB.out.rowSame _⟩
  case body =>
    rintro l' pre x rest a' Wx hall hsz ⟨hI1, hI2⟩ ⟨b, rfl, hb1, hb2⟩
    have HXS := hidd (HRS.out x (by rw [hall]; simp))
    have c5 := (hI2.2.1.rowOther w.heap.size (R x) (by omega)).cell (j := 0) (show _ = some (Value.int .i64 0) from rfl)
    have f5 := (hI2.2.1.rowOther w.heap.size (R x) (by omega)).fro 0
    have KP := hidd (hI2.put (R x) 0)
    have HI := hidd (And.intro hI2.1 hb2)
    have HPR := hidd hI1
    have KK := hidd (show Kx [W4.heap.size, W4.heap.size + 1, bl] w5.heap.size Wx ((Wx.setRow w.heap.size (R x)).setCell ⟨w.heap.size + 1, 0, none⟩ (.int .i64 0)) from by
      have h5 := H5.out
      refine ⟨by simp [World.setCell], fun k hk hb => ?_⟩
      have hne : k ≠ w.heap.size ∧ k ≠ w.heap.size + 1 := by
        rcases hb with hb | hb
        · omega
        · simp only [List.mem_cons, List.not_mem_nil, or_false] at hb
          rcases hb with rfl | rfl | rfl <;> omega
      rw [heap_setCell_other _ _ _ _ (by exact hne.2), setRow_other _ _ _ _ hne.1])
    clear hI1 hI2 hall hb2
    gi_wp2_with (first
      | (refine inLoadRow rfl 28 (.tmp 8) rfl b rfl 28 _ _ HI.out.2 Tryd.underlying28 rfl HXS.out.1 ?_)
      | (refine inStoreRow rfl 28 (.tmp 4) (.tmp 27) rfl w.heap.size _ rfl rfl 28 _ HI.out.1 HXS.out.1 HXS.out.2.1 HXS.out.2.2 ?_))
    exact ⟨KK.out, x, by rw [HPR.out]; rfl, KP.out⟩
  case done =>
    rintro Dd Wx hD ⟨hI1, hI2⟩ hdef
    have HE2 := hidd (HV.out.1 hI1)
    have c5 := (hI2.2.1.rowOther w.heap.size (ccells 0 0 zbl).toArray (by omega)).cell (j := 0) (show _ = some (Value.int .i64 0) from rfl)
    have f5 := (hI2.2.1.rowOther w.heap.size (ccells 0 0 zbl).toArray (by omega)).fro 0
    have KP := hidd (hI2.put (ccells 0 0 zbl).toArray 4)
    have hM := hidd (show Mks w5.heap.size [Dd] ((Wx.setRow w.heap.size (ccells 0 0 zbl).toArray).setCell ⟨w.heap.size + 1, 0, none⟩ (.int .i64 4)) from
      (Mks.nil _ _).cons hD (by simp) (by
        have := H5.out
        rw [heap_setCell_other _ _ _ _ (by show Dd ≠ w.heap.size + 1; omega), setRow_other _ _ _ _ (by omega)]; exact hdef))
    have HI := hidd hI2.1
    clear hI1 hI2 hdef
    gi_wp2_with (first
      | (refine inZero28 rfl rfl _ rfl ?_)
      | (refine inStoreRow rfl 28 (.tmp 4) (.tmp 28) rfl w.heap.size _ rfl rfl 28 _ HI.out HZ.out.1 rfl HZ.out.2 ?_))
    refine leave_marks (B := w5.heap.size) (v := .tuple #[.agg (ccells 0 0 zbl).toArray, .int .i64 4]) [Dd] _ hM.out (fun W' hb _ => ?_)
    have KB := KP.out.below hb (by have := H5.out; omega)
    have e5 := KB.2.1.cell (j := 0) (show _ = some (Value.int .i64 4) from rfl)
    exact ⟨results_row_cell (p := 4) (u := 5) rfl _ _ w.heap.size (w.heap.size + 1) 28 _ _ (.int .i64 4) rfl rfl KB.1 Tryd.underlying28 rfl HZ.out.1 (load_num e5), by rw [HE2.out.1, HE2.out.2], KB.2.2⟩
  case stop =>
    rintro Dd pre x rest Wx hD hall ⟨x', hx', hI⟩ hdef
    have hp : pre = [] ∧ x = x' := by
      cases pre with
      | nil => simpa using hx'
      | cons p ps => simp at hx'
    obtain ⟨rfl, rfl⟩ := hp
    have hM := hidd (show Mks w5.heap.size [Dd] Wx from (Mks.nil _ _).cons hD (by simp) hdef)
    have HE2 := hidd (HV.out.2 x rest (by rw [hall]; rfl))
    have HXS := hidd (HRS.out x (by rw [hall]; simp))
    have HR := hidd hI
    clear hI hdef hall hx'
    gi_wp2_with fail
    refine leave_marks (B := w5.heap.size) (v := .tuple #[.agg (R x), .int .i64 0]) [Dd] _ hM.out (fun W' hb hck => ?_)
    have KB := HR.out.below hb (by have := H5.out; omega)
    have e5 := KB.2.1.cell (j := 0) (show _ = some (Value.int .i64 0) from rfl)
    exact ⟨results_row_cell (p := 4) (u := 5) rfl _ _ w.heap.size (w.heap.size + 1) 28 _ _ (.int .i64 0) rfl rfl KB.1 Tryd.underlying28 rfl HXS.out.1 (load_num e5), by rw [HE2.out.1, HE2.out.2], KB.2.2⟩
theorem impl36 (n : Int) (zs : List Int) (a : Option Addr) (cap : Nat) (e0 : Addr) (w : World) (hs : SlI w a zs) (hl : zs.length ≤ 1048576) (hE : Er w e0) :
    Calls Tryd.prog 36 #[.int .i64 n, .slice a zs.length cap] w fun e w' => e = .returned (.tuple #[.agg (fiV n zs).toArray, .int .i64 (fiC n zs)]) ∧ Below w.heap.size w w' := by
  cases h : fiOk n zs with
  | false =>
    rw [(fi_bad h).1, (fi_bad h).2]
    exact impl36_bad n zs a cap e0 w hs hl hE h
  | true =>
    obtain ⟨b1, b2, b3, b4⟩ := fi_bd h
    obtain ⟨N, rfl⟩ := Int.eq_ofNat_of_zero_le (show 0 ≤ n by omega)
    obtain ⟨bl, off, rfl, hbl⟩ := sl_some hs (by omega)
    rw [b3]
    exact impl36_good N zs bl off cap e0 w hs hl hE h hbl
theorem fi_form (n : Int) (zs : List Int) : ∃ (rn rk : Int) (rb : List Nat), Bys rb ∧ fiV n zs = ccells rn rk rb := by
  cases h : fiOk n zs with
  | false => exact ⟨0, 0, zbl, zbl_bys, (fi_bad h).1⟩
  | true =>
    cases hl : fiA n zs with
    | nil => exact ⟨0, 0, zbl, zbl_bys, (fi_none h hl).1⟩
    | cons b r => exact ⟨_, 2, b, fiA_bys (n := n) (zs := zs) b (by rw [hl]; simp), (fi_some h hl).1⟩
end Go.Proofs.YtckffliiidgilaaDoor
