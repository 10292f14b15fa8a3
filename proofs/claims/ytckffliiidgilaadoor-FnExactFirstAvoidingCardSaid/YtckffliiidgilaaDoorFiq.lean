/- l05First: the model's first colouring. -/
import Derived.Test.YtckffliiidgilaaDoorCai
namespace Go.Proofs.YtckffliiidgilaaDoor
set_option linter.unusedVariables false
set_option linter.unusedSimpArgs false
open Go Go.RowKit Go.Shelf
theorem ret_sz28 {fn : Func} {p u : Tmp} (h : fn.results = #[.cell p 28, .tmp u]) {tmps : Array Value} {w : World} {R : Ending → World → Prop} {g : Nat} {t : TypeId} {cs : Array Value} (hs : (Tryd.prog.info? 28).map (·.size) = some cs.size) {d : List Deferred}
    (hp : tmps.getD p undef = .pointer (some ⟨g, 0, none⟩)) (hg : Blk w g cs t) (hd : d = []) {v : Value} (hv : v = .tuple #[.agg cs, tmps.getD u undef]) (hR : R (.returned v) w) :
    bodyPost Tryd.prog fn R .ret ⟨tmps, d⟩ w := by
  subst hv
  exact bodyPost_ret (results_row_tmp h tmps w g t _ _ hp hg Tryd.underlying28 rfl hs) hd hR
/-- The first one, or the zero. -/
def fvC (n K : Nat) : List (List Nat) → List Value
  | [] => ccells 0 0 zbl
  | b :: _ => ccells (n : Int) (K : Int) b
theorem fvC_app (n K : Nat) {l : List (List Nat)} (h : l ≠ []) (m : List (List Nat)) : fvC n K (l ++ m) = fvC n K l := by
  cases l with
  | nil => exact absurd rfl h
  | cons b t => rfl
theorem grL_bys {zs : List Int} {K : Nat} (hK : K ≤ 4) : ∀ (r N : Nat) (bs : List Nat), Bys bs → ∀ b ∈ grL zs K r N bs, Bys b
  | 0, N, bs, hb, b, h => by rw [grL, List.mem_singleton] at h; rw [h]; exact hb
  | r + 1, N, bs, hb, b, h => by
    rw [grL, List.mem_flatMap] at h
    obtain ⟨cs, hc, h⟩ := h
    exact grL_bys hK r _ _ (puB_bys hb hK (exA_row hc).2) b h
theorem fvC_sz (n K : Nat) {l : List (List Nat)} (h : ∀ b ∈ l, Bys b) : (Tryd.prog.info? 28).map (·.size) = some (fvC n K l).toArray.size ∧ (ccells 0 0 zbl).toArray.size = (fvC n K l).toArray.size ∧ (fvC n K l).toArray.all (·.oneCell') = true := by
  cases l with
  | nil => exact ⟨size_z26, rfl, ccells_one _ _ _⟩
  | cons b t =>
    have hb := h b (by simp)
    exact ⟨size_c26 _ _ hb, size_cc _ _ _ _ zbl_bys hb, ccells_one _ _ _⟩
def FirC (zs : List Int) (K : Nat) (a : Option Addr) (cap n r : Nat) : Prop :=
  ∀ (N : Nat) (bs : List Nat) (w : World), 1 ≤ N → N + r = n → Bys bs → SlI w a zs →
    Calls Tryd.prog 65 #[.agg (ccells (N : Int) (K : Int) bs).toArray, .int .i64 (n : Int), .slice a K cap] w fun e w' => e = .returned (.tuple #[.agg (fvC n K (grL zs K r N bs)).toArray, .bool (!(grL zs K r N bs).isEmpty)]) ∧ Below w.heap.size w w'
theorem fir_base (zs : List Int) (K : Nat) (a : Option Addr) (cap n : Nat) : FirC zs K a cap n 0 := by
  intro N bs w n1 hNn hb hs
  have hNn' : n = N := by omega
  subst hNn'
  have hf : fvC n K (grL zs K 0 n bs) = ccells (n : Int) (K : Int) bs := rfl
  have hq : (!(grL zs K 0 n bs).isEmpty) = true := rfl
  rw [hf, hq]
  have Hz := zero26
  have HS := hidd (show (Tryd.prog.info? 28).map (·.size) = some (ccells (n : Int) (K : Int) bs).toArray.size ∧ (ccells 0 0 zbl).toArray.size = (ccells (n : Int) (K : Int) bs).toArray.size ∧ (ccells (n : Int) (K : Int) bs).toArray.all (·.oneCell') = true from ⟨size_c26 _ _ hb, size_cc _ _ _ _ zbl_bys hb, ccells_one _ _ _⟩)
  have hC0 : (ccells (n : Int) (K : Int) bs).toArray[0]? = some (Value.int .i64 (n : Int)) := rfl
  have hEq : ((n : Int) == (n : Int)) = true := by simp
  obtain ⟨C, hC⟩ : ∃ C, C = (ccells (n : Int) (K : Int) bs).toArray := ⟨_, rfl⟩
  rw [← hC] at HS hC0 ⊢
  clear hC hs hb hf hq
  obtain ⟨W1, hW1⟩ : ∃ W1, W1 = (w.alloc (.cells C 28)).alloc (.cells (ccells 0 0 zbl).toArray 28) := ⟨_, rfl⟩
  have G := hidd (show Blk W1 w.heap.size C 28 ∧ Blk W1 (w.heap.size + 1) (ccells 0 0 zbl).toArray 28 ∧ Below w.heap.size w W1 from by
    rw [hW1]; exact ⟨(Blk.new _ _ _ _ rfl).alloc _, Blk.new _ _ _ _ (by simp), ((Below.refl _ _).alloc (Nat.le_refl _) _).alloc (by simp) _⟩)
  have L := hidd (And.intro (G.out.2.1.rowSame C) (below_setRow G.out.2.2 (show w.heap.size ≤ w.heap.size + 1 by omega) C))
  have c0 := G.out.1.cell hC0
  go_enter Tryd.func65, Tryd.ntmps65
  go_upto_region 1 with fail
  rw [← hW1]
  clear hW1
  go_wp2_with (first
    | (refine wpList_load_row rfl 28 (.tmp 3) rfl w.heap.size rfl 28 _ (0,0) _ G.out.1 Tryd.underlying28 rfl HS.out.1 ?_)
    | (refine wpList_store_row rfl 28 (.tmp 6) (.tmp 16) rfl (w.heap.size + 1) _ rfl rfl 28 _ G.out.2.1 HS.out.1 HS.out.2.1 HS.out.2.2 ?_))
  exact ret_sz28 rfl HS.out.1 rfl L.out.1 rfl rfl ⟨rfl, L.out.2⟩
set_option maxRecDepth 100000 in
set_option maxHeartbeats 4000000 in
theorem fir_step (zs : List Int) (K : Nat) (a : Option Addr) (cap n r : Nat) (hl : zs.length = K) (k1 : 1 ≤ K) (hK : K ≤ 2) (h2 : no1 zs K) (hsz : szP zs K = true) (hn : n ≤ 8) (IH : FirC zs K a cap n r) : FirC zs K a cap n (r + 1) := by
  intro N bs w n1 hNn hb hs
  have HIH := hidd IH
  have HSL := hidd hs
  have Hz := zero26
  have HS := hidd (size_c26 (N : Int) (K : Int) hb)
  have hEl : (exA bs N K zs).length ≤ 1048576 := Nat.le_trans (exL_many N _ _) (Nat.le_trans (Nat.pow_le_pow_left hK N) (Nat.le_trans (Nat.pow_le_pow_right (by decide) (show N ≤ 20 by omega)) (by decide)))
  have HAL := hidd (fun W h => all54 N K 1048576 bs hb zs a cap hl n1 (by omega) k1 (by omega) h2 hsz (by omega) (by omega) W h)
  rw [List.take_of_length_le hEl] at HAL
  have hgb := grL_bys (zs := zs) (show K ≤ 4 by omega) (r + 1) N bs hb
  obtain ⟨G, hG⟩ : ∃ G : List Int → List (List Nat), G = fun cs => grL zs K r (N + 1) (puB N bs cs) := ⟨_, rfl⟩
  obtain ⟨E, hE⟩ : ∃ E, E = exA bs N K zs := ⟨_, rfl⟩
  have hgr : grL zs K (r + 1) N bs = E.flatMap G := by rw [hE, hG]; rfl
  rw [hgr] at hgb ⊢
  have HER := hidd (fun x (hx : x ∈ E) => (show x.length = N ∧ ∀ z ∈ x, 0 ≤ z ∧ z < (K : Int) from exA_row (by rw [← hE]; exact hx)))
  rw [← hE] at HAL hEl
  have HSUM := hidd (fun (i : Nat) (x : List Int) (h : E[i]? = some x) (h0 : (E.take i).flatMap G = []) => (show (E.take (i + 1)).flatMap G = G x ∧ (G x ≠ [] → fvC n K (E.flatMap G) = fvC n K (G x) ∧ (!(E.flatMap G).isEmpty) = true) from by
    have h1 : (E.take (i + 1)).flatMap G = (E.take i).flatMap G ++ G x := by
      rw [List.take_add_one, h]; simp
    rw [h0, List.nil_append] at h1
    refine ⟨h1, fun hne => ?_⟩
    have h3 : E.flatMap G = (E.take (i + 1)).flatMap G ++ (E.drop (i + 1)).flatMap G := by rw [← List.flatMap_append, List.take_append_drop]
    rw [h1] at h3
    rw [h3]
    refine ⟨fvC_app n K hne _, ?_⟩
    cases hg : G x with
    | nil => exact absurd hg hne
    | cons b t => rfl))
  have HPU := hidd (fun (x : List Int) (b : Option Addr) (cb : Nat) (W : World) (hs : SlI W b x) (hx : x ∈ E) =>
    (show Calls Tryd.prog 45 #[.agg (ccells (N : Int) (K : Int) bs).toArray, .slice b N cb] W fun e w' => e = .returned (.agg (ccells ((N : Int) + 1) (K : Int) (puB N bs x)).toArray) ∧ Below W.heap.size W w' from by
      obtain ⟨q1, q2⟩ := HER.out x hx
      have := put71 (N : Int) (K : Int) bs hb x b cb W hs (by omega) (by omega) (by omega) (fun j hj => by have := getD_rng q2 hj; omega)
      rw [show puB N bs x = putK bs (edg (N : Int)).toNat x N from by unfold puB; rw [q1]]
      rw [q1] at this
      exact this))
  have HB0 := hidd hb
  have HRC := hidd (fun (x : List Int) (hx : x ∈ E) (W : World) (hs : SlI W a zs) =>
    (show Calls Tryd.prog 65 #[.agg (ccells ((N : Int) + 1) (K : Int) (puB N bs x)).toArray, .int .i64 (n : Int), .slice a K cap] W fun e w' => e = .returned (.tuple #[.agg (fvC n K (G x)).toArray, .bool (!(G x).isEmpty)]) ∧ Below W.heap.size W w' from by
      have := HIH.out (N + 1) (puB N bs x) W (by omega) (by omega) (puB_bys HB0.out (by omega) (HER.out x hx).2) hs
      rw [show ((N + 1 : Nat) : Int) = (N : Int) + 1 by omega] at this
      rw [hG]; exact this))
  have HFZ := hidd (fun (x : List Int) (hx : x ∈ E) => fvC_sz n K (l := G x) (fun b h => hgb b (List.mem_flatMap.2 ⟨x, hx, h⟩)))
  have hC0 : (ccells (N : Int) (K : Int) bs).toArray[0]? = some (Value.int .i64 (N : Int)) := rfl
  have hEq : ((N : Int) == (n : Int)) = false := by rw [beq_eq_false_iff_ne]; omega
  obtain ⟨C, hC⟩ : ∃ C, C = (ccells (N : Int) (K : Int) bs).toArray := ⟨_, rfl⟩
  rw [← hC] at HS HAL HPU hC0 ⊢
  obtain ⟨T, hT⟩ : ∃ T, T = E.flatMap G := ⟨_, rfl⟩
  have HTT := hidd hT
  rw [← hT] at HSUM ⊢
  clear hC hs hb hG hE hgr hgb h2 hsz IH hl hNn hT
  obtain ⟨W1, hW1⟩ : ∃ W1, W1 = (w.alloc (.cells C 28)).alloc (.cells (ccells 0 0 zbl).toArray 28) := ⟨_, rfl⟩
  have HB := hidd (show Blk W1 w.heap.size C 28 ∧ Blk W1 (w.heap.size + 1) (ccells 0 0 zbl).toArray 28 ∧ Below w.heap.size w W1 from by
    rw [hW1]; exact ⟨(Blk.new _ _ _ _ rfl).alloc _, Blk.new _ _ _ _ (by simp), ((Below.refl _ _).alloc (Nat.le_refl _) _).alloc (by simp) _⟩)
  have c0 := HB.out.1.cell hC0
  have HSL2 := hidd (show (Tryd.prog.info? 28).map (·.size) = some C.toList.length by rw [HS.out]; simp)
  clear hC0
  go_enter Tryd.func65, Tryd.ntmps65
  go_upto_region 1 with fail
  rw [← hW1]
  clear hW1
  go_wp2_with (refine wpList_load_row rfl 28 (.tmp 3) rfl w.heap.size rfl 28 _ (0,0) _ HB.out.1 Tryd.underlying28 rfl HS.out ?_)
  refine (HAL.out _ (HSL.out.below HB.out.2.2 (Nat.le_refl _))).mono ?_
  rintro e w1 ⟨v, rfl, hL, hb1⟩
  obtain ⟨g, capE, xs, rfl, hg, hgl, _, hxl, hcell, hrow⟩ := hL.at
  have G1 := hidd (show Blk w1 w.heap.size C 28 ∧ Blk w1 (w.heap.size + 1) (ccells 0 0 zbl).toArray 28 ∧ Below w.heap.size w w1 from ⟨HB.out.1.below hb1 HB.out.1.lt, HB.out.2.1.below hb1 HB.out.2.1.lt, HB.out.2.2.trans (hb1.mono HB.out.2.2.size)⟩)
  have HROW := hidd (fun (i : Nat) (x : List Int) (h : E[i]? = some x) W (hW : Below w1.heap.size w1 W) => (show ∃ b cb, W.cell? ⟨g, i, none⟩ = some (.slice b x.length cb) ∧ SlI W b x from by
    obtain ⟨b, cb, h1, h2⟩ := hrow i x h
    exact ⟨b, cb, by rw [hW.cell (p := ⟨g, i, none⟩) hgl]; exact hcell i _ h1, h2.sl.below hW (Nat.le_refl _)⟩))
  clear hb1 hL hrow hcell hxl hg hgl c0
  go_wp2_with fail
  go_loopw [9] (fun e wr => ∃ i : Nat, i ≤ E.length ∧ e = .int .i64 (i : Int) ∧ (E.take i).flatMap G = [] ∧ Hid (Below w1.heap.size w1 wr)) (fun e _ => E.length - (intOf e).toNat)
  case atStart => exact ⟨0, Nat.zero_le _, rfl, by rw [List.take_zero]; rfl, Below.refl _ _⟩
  case round =>
    obtain ⟨i, hi, rfl, hemp, HK⟩ := hrel
    have HEMP := hidd hemp
    clear hemp
    by_cases hlt : i < E.length
    · have hltI : decide ((i : Int) < (E.length : Int)) = true := by simp; omega
      have hget : E[i]? = some E[i] := List.getElem?_eq_getElem hlt
      have hmem : E[i] ∈ E := List.getElem_mem hlt
      obtain ⟨x, hx⟩ : ∃ x, x = E[i] := ⟨_, rfl⟩
      rw [← hx] at hget hmem
      obtain ⟨hs1, hs2⟩ := HSUM.out i x hget HEMP.out
      have hxN := (HER.out x hmem).1
      have HRW2 := hidd (fun W (h : Below wr.heap.size wr W) => (show ∃ b cb, W.cell? ⟨g, i, none⟩ = some (.slice b N cb) ∧ SlI W b x from by
        have := HROW.out i x hget W (HK.out.trans (h.mono HK.out.size))
        rw [hxN] at this; exact this))
      obtain ⟨b, cb, e0, hsb⟩ := HRW2.out wr (Below.refl _ _)
      have HC := hidd (fun W (h : Below wr.heap.size wr W) => cell_below e0 h)
      have HP := hidd (fun W (h : Below wr.heap.size wr W) => HPU.out x b cb W (hsb.below h (Nat.le_refl _)) hmem)
      have HR := hidd (fun W (h : Below wr.heap.size wr W) => HRC.out x hmem W (HSL.out.below (G1.out.2.2.trans ((HK.out.trans (h.mono HK.out.size)).mono G1.out.2.2.size)) (Nat.le_refl _)))
      have HBL := hidd (fun W (h : Below wr.heap.size wr W) => (show Blk W w.heap.size C 28 ∧ Blk W (w.heap.size + 1) (ccells 0 0 zbl).toArray 28 ∧ Below w.heap.size w W from
        ⟨G1.out.1.below (HK.out.trans (h.mono HK.out.size)) G1.out.1.lt, G1.out.2.1.below (HK.out.trans (h.mono HK.out.size)) G1.out.2.1.lt, G1.out.2.2.trans ((HK.out.trans (h.mono HK.out.size)).mono G1.out.2.2.size)⟩))
      have HRW := hidd (fun (W : World) (h : Below wr.heap.size wr W) => ((HBL.out W h).1).range 0 C.toList (fun j v hj => by rw [Nat.zero_add]; simpa using hj))
      have HF := hidd (HFZ.out x hmem)
      have HQ := hidd (show (!(G x).isEmpty) = true → G x ≠ [] from fun h => by intro e; rw [e] at h; cases h)
      have HQ0 := hidd (show (!(G x).isEmpty) = false → G x = [] from fun h => by simpa using h)
      have HS2 := hidd hs2
      have HS1 := hidd hs1
      obtain ⟨q, hq⟩ : ∃ q, q = (!(G x).isEmpty) := ⟨_, rfl⟩
      obtain ⟨F, hF⟩ : ∃ F, F = (fvC n K (G x)).toArray := ⟨_, rfl⟩
      have HFF := hidd hF
      rw [← hF, ← hq] at HR
      rw [← hF] at HF
      rw [← hq] at HQ HQ0
      have hlI : (i : Int) < (E.length : Int) := by omega
      have hli := HK.out.size
      have hl1 := G1.out.2.1.lt
      clear hget hmem hx hs1 hs2 hxN e0 hsb hq hF
      go_upto_region 7 with fail
      go_cut [10, 11] from 20 to 39 (fun s10 s11 wx => ∃ b10 : Nat, s10 = .pointer (some ⟨b10, 0, none⟩) ∧ s11 = .bool q ∧ wr.heap.size ≤ b10 ∧ Blk wx b10 F 28 ∧ Below wr.heap.size wr wx)
      case first =>
        refine wp_region_held_drew (S := Below wr.heap.size wr) (by kernel_rfl) ?_ (fun hHeld => ?_)
        · exact (Below.refl _ _).drew
        refine wpAnyH_take (i := 0) (oi := _) (v := _) rfl (by kernel_rfl) (by kernel_rfl) (by kernel_rfl) (fun _ _ _ h => h) (yieldsIf_load_mid (by rfl) _ _ rfl _ _ rfl _ _ (HRW.out) Tryd.underlying28 rfl (HSL2.out)) (by assumption) ?_
        simp only [List.getElem_toArray, List.getElem_cons_succ, List.getElem_cons_zero, Act.put, List.setIfInBounds_toArray, List.set_cons_zero, List.set_cons_succ]
        refine wpAnyH_take (i := 1) (oi := _) (v := ?_) rfl (by kernel_rfl) (by kernel_rfl) (by kernel_rfl) (fun _ _ _ h => h) (Or.inl ⟨by rfl, ?_⟩) (by assumption) ?_
        rotate_left
        · intro wX hSw; (try dsimp only at hSw); go_simp; first | done | with_reducible rfl
        simp only [List.getElem_toArray, List.getElem_cons_succ, List.getElem_cons_zero, Act.put, List.setIfInBounds_toArray, List.set_cons_zero, List.set_cons_succ]
        refine wpAnyH_take (i := 2) (oi := _) (v := ?_) rfl (by kernel_rfl) (by kernel_rfl) (by kernel_rfl) (fun _ _ _ h => h) (Or.inl ⟨by rfl, ?_⟩) (by assumption) ?_
        rotate_left
        · intro wX hSw; (try dsimp only at hSw); go_simp; first | done | with_reducible rfl
        simp only [List.getElem_toArray, List.getElem_cons_succ, List.getElem_cons_zero, Act.put, List.setIfInBounds_toArray, List.set_cons_zero, List.set_cons_succ]
        refine wpAnyH_take (i := 3) (oi := _) (v := ?_) rfl (by kernel_rfl) (by kernel_rfl) (by kernel_rfl) (fun _ _ _ h => h) (Or.inl ⟨by rfl, ?_⟩) (by assumption) ?_
        rotate_left
        · intro wX hSw; (try dsimp only at hSw); go_simp; first | done | with_reducible rfl
        simp only [List.getElem_toArray, List.getElem_cons_succ, List.getElem_cons_zero, Act.put, List.setIfInBounds_toArray, List.set_cons_zero, List.set_cons_succ]
        refine wpAnyH_take (i := 4) (oi := _) (v := ?_) rfl (by kernel_rfl) (by kernel_rfl) (by kernel_rfl) (fun _ _ _ h => h) (Or.inl ⟨by rfl, ?_⟩) (by assumption) ?_
        rotate_left
        · intro wX hSw; (try dsimp only at hSw); have e1 := HC.out _ hSw; go_simp; first | done | with_reducible rfl
        simp only [List.getElem_toArray, List.getElem_cons_succ, List.getElem_cons_zero, Act.put, List.setIfInBounds_toArray, List.set_cons_zero, List.set_cons_succ]
        refine wpAnyH_take (i := 6) (oi := _) (v := ?_) rfl (by kernel_rfl) (by kernel_rfl) (by kernel_rfl) (fun _ _ _ h => h) (Or.inl ⟨by rfl, ?_⟩) (by assumption) ?_
        rotate_left
        · intro wX hSw; (try dsimp only at hSw); go_simp; first | done | with_reducible rfl
        simp only [List.getElem_toArray, List.getElem_cons_succ, List.getElem_cons_zero, Act.put, List.setIfInBounds_toArray, List.set_cons_zero, List.set_cons_succ]
        refine wpAnyH_take (i := 7) (oi := _) (v := ?_) rfl (by kernel_rfl) (by kernel_rfl) (by kernel_rfl) (fun _ _ _ h => h) (Or.inl ⟨by rfl, ?_⟩) (by assumption) ?_
        rotate_left
        · intro wX hSw; (try dsimp only at hSw); go_simp; first | done | with_reducible rfl
        simp only [List.getElem_toArray, List.getElem_cons_succ, List.getElem_cons_zero, Act.put, List.setIfInBounds_toArray, List.set_cons_zero, List.set_cons_succ]
        have H0 := hidd (show Below wr.heap.size wr wr.drew from (Below.refl _ _).drew)
        refine wpAnyH_ready (rs := [5, 12]) (by kernel_rfl) (by simp) (AllReadyH.cons (o := _) rfl (fun KQ hKQ => ?_) (AllReadyH.cons (o := _) rfl (fun KQ hKQ => ?_) AllReadyH.nil))
        · skip
          go_simp
          refine (HP.out _ H0.out).mono ?_
          rintro r1 x1 ⟨rfl, hb1⟩
          have H1 := hidd (H0.out.trans (hb1.mono H0.out.size))
          clear hb1
          refine hKQ.out _ _ ?_ (fun hNext => ?_)
          · exact H1.out
          clear hKQ KQ hHeld
          have hHeld := hNext
          clear hNext
          refine wpAnyH_ready (rs := [8, 12]) (by kernel_rfl) (by simp) (AllReadyH.cons (o := _) rfl (fun KQ hKQ => ?_) (AllReadyH.cons (o := _) rfl (fun KQ hKQ => ?_) AllReadyH.nil))
          · skip
            go_simp
            refine (HR.out _ H1.out).mono ?_
            rintro r2 x2 ⟨rfl, hb2⟩
            have H2 := hidd (H1.out.trans (hb2.mono H1.out.size))
            clear hb2
            refine hKQ.out _ _ ?_ (fun hNext => ?_)
            · exact H2.out
            clear hKQ KQ hHeld
            have hHeld := hNext
            clear hNext
            refine wpAnyH_take (i := 9) (oi := _) (v := ?_) rfl (by kernel_rfl) (by kernel_rfl) (by kernel_rfl) (fun _ _ _ h => h) (Or.inl ⟨by rfl, ?_⟩) (by assumption) ?_
            rotate_left
            · intro wX hSw; (try dsimp only at hSw); go_simp; first | done | with_reducible rfl
            simp only [List.getElem_toArray, List.getElem_cons_succ, List.getElem_cons_zero, Act.put, List.setIfInBounds_toArray, List.set_cons_zero, List.set_cons_succ]
            refine wpAnyH_take (i := 10) (oi := _) (v := ?_) rfl (by kernel_rfl) (by kernel_rfl) (by kernel_rfl) (fun _ _ _ h => h) (Or.inl ⟨by rfl, ?_⟩) (by assumption) ?_
            rotate_left
            · intro wX hSw; (try dsimp only at hSw); go_simp; first | done | with_reducible rfl
            simp only [List.getElem_toArray, List.getElem_cons_succ, List.getElem_cons_zero, Act.put, List.setIfInBounds_toArray, List.set_cons_zero, List.set_cons_succ]
            refine wpAnyH_take (i := 11) (oi := _) (v := ?_) rfl (by kernel_rfl) (by kernel_rfl) (by kernel_rfl) (fun _ _ _ h => h) (Or.inl ⟨by rfl, ?_⟩) (by assumption) ?_
            rotate_left
            · intro wX hSw; (try dsimp only at hSw); go_simp; first | done | with_reducible rfl
            simp only [List.getElem_toArray, List.getElem_cons_succ, List.getElem_cons_zero, Act.put, List.setIfInBounds_toArray, List.set_cons_zero, List.set_cons_succ]
            refine wpAnyH_ready (rs := [12]) (by kernel_rfl) (by simp) (AllReadyH.cons (o := _) rfl (fun KQ hKQ => ?_) AllReadyH.nil)
            go_simp
            have H3 := hidd (H2.out.alloc H2.out.size (.cells (ccells 0 0 zbl).toArray 28))
            have B3 := hidd (Blk.new x2 (ccells 0 0 zbl).toArray 28 _ rfl)
            have L3 := hidd H2.out.size
            refine hKQ.out _ _ ?_ (fun hNext => ?_)
            · exact H3.out
            clear hKQ KQ hHeld
            have hHeld := hNext
            clear hNext
            refine wpAnyH_ready (rs := [13]) (by kernel_rfl) (by simp) (AllReadyH.cons (o := _) rfl (fun KQ hKQ => ?_) AllReadyH.nil)
            rw [if_pos (by rfl)]
            refine wp_store_row 28 (.tmp 10) (.tmp 36) rfl _ _ rfl rfl 28 _ B3.out HF.out.1 HF.out.2.1 HF.out.2.2 ?_
            have H4 := hidd (below_setRow H3.out L3.out F)
            have B4 := hidd (B3.out.rowSame F)
            refine hKQ.out _ _ ?_ (fun hNext => ?_)
            · exact H4.out
            clear hKQ KQ hHeld
            have hHeld := hNext
            clear hNext
            refine wpAnyH_ready (rs := [14]) (by kernel_rfl) (by simp) (AllReadyH.cons (o := _) rfl (fun KQ hKQ => ?_) AllReadyH.nil)
            go_simp
            refine hKQ.out _ _ ?_ (fun hNext => ?_)
            · exact H4.out
            clear hKQ KQ hHeld
            have hHeld := hNext
            clear hNext
            refine wpAnyH_done (by kernel_rfl) ?_ _
            clear hHeld
            go_wp2_with fail
            go_meet
            exact ⟨_, rfl, rfl, L3.out, B4.out, H4.out⟩
          · skip
            go_simp
            have H5 := hidd (H1.out.alloc H1.out.size (.cells (ccells 0 0 zbl).toArray 28))
            have B5 := hidd (Blk.new x1 (ccells 0 0 zbl).toArray 28 _ rfl)
            have L5 := hidd H1.out.size
            refine hKQ.out _ _ ?_ (fun hNext => ?_)
            · exact H5.out
            clear hKQ KQ hHeld
            have hHeld := hNext
            clear hNext
            refine wpAnyH_ready (rs := [8]) (by kernel_rfl) (by simp) (AllReadyH.cons (o := _) rfl (fun KQ hKQ => ?_) AllReadyH.nil)
            go_simp
            refine (HR.out _ H5.out).mono ?_
            rintro r6 x6 ⟨rfl, hb6⟩
            have H6 := hidd (H5.out.trans (hb6.mono H5.out.size))
            have B6 := hidd (B5.out.below hb6 B5.out.lt)
            clear hb6
            refine hKQ.out _ _ ?_ (fun hNext => ?_)
            · exact H6.out
            clear hKQ KQ hHeld
            have hHeld := hNext
            clear hNext
            refine wpAnyH_take (i := 9) (oi := _) (v := ?_) rfl (by kernel_rfl) (by kernel_rfl) (by kernel_rfl) (fun _ _ _ h => h) (Or.inl ⟨by rfl, ?_⟩) (by assumption) ?_
            rotate_left
            · intro wX hSw; (try dsimp only at hSw); go_simp; first | done | with_reducible rfl
            simp only [List.getElem_toArray, List.getElem_cons_succ, List.getElem_cons_zero, Act.put, List.setIfInBounds_toArray, List.set_cons_zero, List.set_cons_succ]
            refine wpAnyH_take (i := 10) (oi := _) (v := ?_) rfl (by kernel_rfl) (by kernel_rfl) (by kernel_rfl) (fun _ _ _ h => h) (Or.inl ⟨by rfl, ?_⟩) (by assumption) ?_
            rotate_left
            · intro wX hSw; (try dsimp only at hSw); go_simp; first | done | with_reducible rfl
            simp only [List.getElem_toArray, List.getElem_cons_succ, List.getElem_cons_zero, Act.put, List.setIfInBounds_toArray, List.set_cons_zero, List.set_cons_succ]
            refine wpAnyH_take (i := 11) (oi := _) (v := ?_) rfl (by kernel_rfl) (by kernel_rfl) (by kernel_rfl) (fun _ _ _ h => h) (Or.inl ⟨by rfl, ?_⟩) (by assumption) ?_
            rotate_left
            · intro wX hSw; (try dsimp only at hSw); go_simp; first | done | with_reducible rfl
            simp only [List.getElem_toArray, List.getElem_cons_succ, List.getElem_cons_zero, Act.put, List.setIfInBounds_toArray, List.set_cons_zero, List.set_cons_succ]
            refine wpAnyH_ready (rs := [13]) (by kernel_rfl) (by simp) (AllReadyH.cons (o := _) rfl (fun KQ hKQ => ?_) AllReadyH.nil)
            rw [if_pos (by rfl)]
            refine wp_store_row 28 (.tmp 10) (.tmp 36) rfl _ _ rfl rfl 28 _ B6.out HF.out.1 HF.out.2.1 HF.out.2.2 ?_
            have H7 := hidd (below_setRow H6.out L5.out F)
            have B7 := hidd (B6.out.rowSame F)
            refine hKQ.out _ _ ?_ (fun hNext => ?_)
            · exact H7.out
            clear hKQ KQ hHeld
            have hHeld := hNext
            clear hNext
            refine wpAnyH_ready (rs := [14]) (by kernel_rfl) (by simp) (AllReadyH.cons (o := _) rfl (fun KQ hKQ => ?_) AllReadyH.nil)
            go_simp
            refine hKQ.out _ _ ?_ (fun hNext => ?_)
            · exact H7.out
            clear hKQ KQ hHeld
            have hHeld := hNext
            clear hNext
            refine wpAnyH_done (by kernel_rfl) ?_ _
            clear hHeld
            go_wp2_with fail
            go_meet
            exact ⟨_, rfl, rfl, L5.out, B7.out, H7.out⟩
        · skip
          go_simp
          have H8 := hidd (H0.out.alloc H0.out.size (.cells (ccells 0 0 zbl).toArray 28))
          have B8 := hidd (Blk.new wr.drew (ccells 0 0 zbl).toArray 28 _ rfl)
          have L8 := hidd H0.out.size
          refine hKQ.out _ _ ?_ (fun hNext => ?_)
          · exact H8.out
          clear hKQ KQ hHeld
          have hHeld := hNext
          clear hNext
          refine wpAnyH_ready (rs := [5]) (by kernel_rfl) (by simp) (AllReadyH.cons (o := _) rfl (fun KQ hKQ => ?_) AllReadyH.nil)
          go_simp
          refine (HP.out _ H8.out).mono ?_
          rintro r9 x9 ⟨rfl, hb9⟩
          have H9 := hidd (H8.out.trans (hb9.mono H8.out.size))
          have B9 := hidd (B8.out.below hb9 B8.out.lt)
          clear hb9
          refine hKQ.out _ _ ?_ (fun hNext => ?_)
          · exact H9.out
          clear hKQ KQ hHeld
          have hHeld := hNext
          clear hNext
          refine wpAnyH_ready (rs := [8]) (by kernel_rfl) (by simp) (AllReadyH.cons (o := _) rfl (fun KQ hKQ => ?_) AllReadyH.nil)
          go_simp
          refine (HR.out _ H9.out).mono ?_
          rintro r10 x10 ⟨rfl, hb10⟩
          have H10 := hidd (H9.out.trans (hb10.mono H9.out.size))
          have B10 := hidd (B9.out.below hb10 B9.out.lt)
          clear hb10
          refine hKQ.out _ _ ?_ (fun hNext => ?_)
          · exact H10.out
          clear hKQ KQ hHeld
          have hHeld := hNext
          clear hNext
          refine wpAnyH_take (i := 9) (oi := _) (v := ?_) rfl (by kernel_rfl) (by kernel_rfl) (by kernel_rfl) (fun _ _ _ h => h) (Or.inl ⟨by rfl, ?_⟩) (by assumption) ?_
          rotate_left
          · intro wX hSw; (try dsimp only at hSw); go_simp; first | done | with_reducible rfl
          simp only [List.getElem_toArray, List.getElem_cons_succ, List.getElem_cons_zero, Act.put, List.setIfInBounds_toArray, List.set_cons_zero, List.set_cons_succ]
          refine wpAnyH_take (i := 10) (oi := _) (v := ?_) rfl (by kernel_rfl) (by kernel_rfl) (by kernel_rfl) (fun _ _ _ h => h) (Or.inl ⟨by rfl, ?_⟩) (by assumption) ?_
          rotate_left
          · intro wX hSw; (try dsimp only at hSw); go_simp; first | done | with_reducible rfl
          simp only [List.getElem_toArray, List.getElem_cons_succ, List.getElem_cons_zero, Act.put, List.setIfInBounds_toArray, List.set_cons_zero, List.set_cons_succ]
          refine wpAnyH_take (i := 11) (oi := _) (v := ?_) rfl (by kernel_rfl) (by kernel_rfl) (by kernel_rfl) (fun _ _ _ h => h) (Or.inl ⟨by rfl, ?_⟩) (by assumption) ?_
          rotate_left
          · intro wX hSw; (try dsimp only at hSw); go_simp; first | done | with_reducible rfl
          simp only [List.getElem_toArray, List.getElem_cons_succ, List.getElem_cons_zero, Act.put, List.setIfInBounds_toArray, List.set_cons_zero, List.set_cons_succ]
          refine wpAnyH_ready (rs := [13]) (by kernel_rfl) (by simp) (AllReadyH.cons (o := _) rfl (fun KQ hKQ => ?_) AllReadyH.nil)
          rw [if_pos (by rfl)]
          refine wp_store_row 28 (.tmp 10) (.tmp 36) rfl _ _ rfl rfl 28 _ B10.out HF.out.1 HF.out.2.1 HF.out.2.2 ?_
          have H11 := hidd (below_setRow H10.out L8.out F)
          have B11 := hidd (B10.out.rowSame F)
          refine hKQ.out _ _ ?_ (fun hNext => ?_)
          · exact H11.out
          clear hKQ KQ hHeld
          have hHeld := hNext
          clear hNext
          refine wpAnyH_ready (rs := [14]) (by kernel_rfl) (by simp) (AllReadyH.cons (o := _) rfl (fun KQ hKQ => ?_) AllReadyH.nil)
          go_simp
          refine hKQ.out _ _ ?_ (fun hNext => ?_)
          · exact H11.out
          clear hKQ KQ hHeld
          have hHeld := hNext
          clear hNext
          refine wpAnyH_done (by kernel_rfl) ?_ _
          clear hHeld
          go_wp2_with fail
          go_meet
          exact ⟨_, rfl, rfl, L8.out, B11.out, H11.out⟩
      case rest =>
      obtain ⟨b10, rfl, rfl, l10, hB10, hW⟩ := hcut
      have HB10 := hidd hB10
      have HW := hidd (HBL.out _ hW)
      have HK2 := hidd (HK.out.trans (hW.mono HK.out.size))
      clear hB10 hW
      cases q with
      | true =>
        have hTF := HS2.out (HQ.out rfl)
        have HV := hidd (show (fvC n K T).toArray = F ∧ (!T.isEmpty) = true from ⟨by rw [hTF.1]; exact HFF.out.symm, hTF.2⟩)
        have L := hidd (And.intro (HW.out.2.1.rowSame F) (below_setRow HW.out.2.2 (show w.heap.size ≤ w.heap.size + 1 by omega) F))
        clear hTF
        go_wp2_with (first
          | (refine wpList_load_row rfl 28 (.tmp 10) rfl b10 rfl 28 _ (0,0) _ HB10.out Tryd.underlying28 rfl HF.out.1 ?_)
          | (refine wpList_store_row rfl 28 (.tmp 6) (.tmp 39) rfl (w.heap.size + 1) _ rfl rfl 28 _ HW.out.2.1 HF.out.1 HF.out.2.1 HF.out.2.2 ?_))
        exact ret_sz28 rfl HF.out.1 rfl L.out.1 rfl rfl ⟨by rw [HV.out.1, HV.out.2]; rfl, L.out.2⟩
      | false =>
        have HEM := hidd (show (E.take (i + 1)).flatMap G = [] from by rw [HS1.out]; exact HQ0.out rfl)
        go_wp2_with fail
        go_roundw
        case rel => exact ⟨i + 1, by omega, by go_num, HEM.out, HK2.out⟩
        case measure => simp [intOf]; omega
    · have hltI : decide ((i : Int) < (E.length : Int)) = false := by simp; omega
      have hie : i = E.length := by omega
      have hT0 : T = [] := by
        have := HEMP.out
        rw [hie, List.take_length, ← HTT.out] at this; exact this
      subst hT0
      have HF := hidd (show Blk wr (w.heap.size + 1) (ccells 0 0 zbl).toArray 28 ∧ Below w.heap.size w wr from ⟨G1.out.2.1.below HK.out G1.out.2.1.lt, G1.out.2.2.trans (HK.out.mono G1.out.2.2.size)⟩)
      have HZ := hidd (show (Tryd.prog.info? 28).map (·.size) = some (ccells 0 0 zbl).toArray.size ∧ (ccells 0 0 zbl).toArray.all (·.oneCell') = true from ⟨size_z26, ccells_one _ _ _⟩)
      have L := hidd (And.intro (HF.out.1.rowSame (ccells 0 0 zbl).toArray) (below_setRow HF.out.2 (show w.heap.size ≤ w.heap.size + 1 by omega) (ccells 0 0 zbl).toArray))
      clear hie
      go_wp2_with (first
        | (refine wpList_zero26 rfl rfl ?_)
        | (refine wpList_store_row rfl 28 (.tmp 6) (.tmp 40) rfl (w.heap.size + 1) _ rfl rfl 28 _ HF.out.1 HZ.out.1 rfl HZ.out.2 ?_))
      exact ret_sz28 rfl HZ.out.1 rfl L.out.1 rfl rfl ⟨rfl, L.out.2⟩
theorem spec65 (zs : List Int) (K : Nat) (a : Option Addr) (cap n : Nat) (hl : zs.length = K) (k1 : 1 ≤ K) (hK : K ≤ 2) (h2 : no1 zs K) (hsz : szP zs K = true) (hn : n ≤ 8) : ∀ r, FirC zs K a cap n r
  | 0 => fir_base zs K a cap n
  | r + 1 => fir_step zs K a cap n r hl k1 hK h2 hsz hn (spec65 zs K a cap n hl k1 hK h2 hsz hn r)
end Go.Proofs.YtckffliiidgilaaDoor
