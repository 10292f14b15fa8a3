/- waysFrom. -/
import Derived.Test.YtckffliiidgilaaDoorWyq
import Derived.Test.YtckffliiidgilaaDoorFrs
import Derived.Deep.CutRange
namespace Go.Proofs.YtckffliiidgilaaDoor
set_option linter.unusedVariables false
set_option linter.unusedSimpArgs false
open Go Go.RowKit Go.Shelf
theorem icells_put (zs : List Int) (i : Nat) (v : Int) : (icells zs).toArray.setIfInBounds i (.int .i64 v) = (icells (zs.set i v)).toArray := by
  rw [List.setIfInBounds_toArray]
  congr 1
  unfold icells
  rw [List.map_set]
theorem zrow_dg (M : Nat) : zrow M = (icells (dgL M fun _ => 0)).toArray := by
  rw [zrow_icells]
  congr 2
  unfold dgL
  simp [List.map_const']
/-- The ways from a colour on, as a list. -/
def wyF (bs : List Nat) (N K : Nat) (zs : List Int) (e : Nat) : Nat → Nat := fun S => wyW bs N K zs e S
/-- What is told of the ways below j. -/
def wyP (f g : Nat → Nat) (j : Nat) : Nat → Nat := fun i => if i < j then f i else g i
def RelWy (f : Nat → Nat) (b : Nat) (M : Nat) (W1 : World) (wr : World) : Prop := Blk wr b (icells (dgL M f)).toArray 2 ∧ Below b W1 wr
theorem dg_cell {w : World} {b M i : Nat} {f : Nat → Nat} (h : Blk w b (icells (dgL M f)).toArray 2) (hi : i < M) : w.cell? ⟨b, i, none⟩ = some (.int .i64 (f i : Int)) := by
  refine h.cell ?_
  have h1 := icells_get (zs := dgL M f) (j := i) (by rw [dgL_len]; exact hi)
  rw [dgL_get hi] at h1
  simpa using h1
theorem dg_put {w : World} {b M i v : Nat} {f : Nat → Nat} (h : Blk w b (icells (dgL M f)).toArray 2) : Blk (w.setCell ⟨b, i, none⟩ (.int .i64 (v : Int))) b (icells (dgL M (fun p => if p = i then v else f p))).toArray 2 := by
  have h1 := h.same i (.int .i64 (v : Int))
  rw [icells_put, dgL_set] at h1
  exact h1
/-- The three lists: the ways that are told, the free sets, the ways of the later colours. -/
def RelY (fr : Nat → Bool) (oth f : Nat → Nat) (g5 g6 g7 Y : Nat) (w wr : World) : Prop :=
  Blk wr g5 (icells (dgL Y f)).toArray 2 ∧ Blk wr g6 (bcl fr Y Y).toArray 4 ∧ Blk wr g7 (icells (dgL Y oth)).toArray 2 ∧ Below w.heap.size w wr
theorem RelY.put {fr : Nat → Bool} {oth f : Nat → Nat} {g5 g6 g7 Y : Nat} {w wr : World} (h : RelY fr oth f g5 g6 g7 Y w wr) (h6 : g5 < g6) (h7 : g5 < g7) (hw : w.heap.size ≤ g5) (i v : Nat) :
    RelY fr oth (fun p => if p = i then v else f p) g5 g6 g7 Y w (wr.setCell ⟨g5, i, none⟩ (.int .i64 (v : Int))) :=
  ⟨dg_put h.1, h.2.1.other _ _ (by show g6 ≠ g5; omega), h.2.2.1.other _ _ (by show g7 ≠ g5; omega), h.2.2.2.setCell hw _⟩
theorem RelY.drew {fr : Nat → Bool} {oth f : Nat → Nat} {g5 g6 g7 Y : Nat} {w wr : World} (h : RelY fr oth f g5 g6 g7 Y w wr) : RelY fr oth f g5 g6 g7 Y w wr.drew :=
  ⟨h.1.drew, h.2.1.drew, h.2.2.1.drew, below_drewN h.2.2.2 1⟩
set_option maxRecDepth 100000 in
set_option maxHeartbeats 4000000 in
theorem wyf_base (N K : Nat) (bs : List Nat) (hb : Bys bs) (zs : List Int) (a : Option Addr) (cap : Nat) (hl : zs.length = K) (n1 : 1 ≤ N) (hN12 : N ≤ 12) (hK : K ≤ 4) (h2 : no1 zs K) (hsz : szP zs K = true) (he : 0 + 1 ≤ K) (w : World) (hs : SlI w a zs) :
    Calls Tryd.prog 86 #[.agg (scl (N : Int) (K : Int) bs a K cap).toArray, .int .i64 ((K - 0 : Nat) : Int)] w fun r w' => ∃ g : Nat, r = .returned (.slice (some ⟨g, 0, none⟩) (2 ^ N) (2 ^ N)) ∧ w.heap.size ≤ g ∧ Blk w' g (icells (dgL (2 ^ N) (wyF bs N K zs 0))).toArray 2 ∧ Below w.heap.size w w' := by
    have HS := hidd (size_s56 (n := (N : Int)) (k := (K : Int)) hb a K cap)
    have hfin : (fun p => if p = 0 then 1 else (fun _ => 0) p) = wyF bs N K zs 0 := by funext p; unfold wyF; rw [wy_zero]
    obtain ⟨FU, Y, hFU, hFU17, hY, hmn, hu, hsh, hsh2, hfu, hfu2⟩ := full_facts n1 (show N ≤ 17 by omega)
    have hYN : Y = 2 ^ N := by rw [hY, hFU]; exact Nat.sub_add_cancel Nat.one_le_two_pow
    have hY17 : Y ≤ 131072 := by rw [hYN]; exact Nat.pow_le_pow_right (by decide) (show N ≤ 17 by omega)
    have hY1 : 1 ≤ Y := by rw [hYN]; exact Nat.one_le_two_pow
    rw [← hYN]
    have hmk := make29 Y (Nat.le_trans hY17 (by decide))
    obtain ⟨C, hC⟩ : ∃ C, C = (scl (N : Int) (K : Int) bs a K cap).toArray := ⟨_, rfl⟩
    have hC0 : C[0]? = some (.int .i64 (N : Int)) := by rw [hC]; exact scl_fst 0 _ rfl
    have hC1 : C[1]? = some (.int .i64 (K : Int)) := by rw [hC]; exact scl_fst 1 _ rfl
    rw [← hC]
    have HB := Blk.new w C 56 _ rfl
    have c0 := HB.cell hC0
    have c1 := HB.cell hC1
    have HZ := hidd (show (zrow Y).setIfInBounds 0 (.int .i64 1) = (icells (dgL Y (wyF bs N K zs 0))).toArray by
      have h1 := dgL_set Y (fun _ => 0) 0 1
      rw [hfin] at h1
      rw [zrow_dg, icells_put, ← h1]; rfl)
    have HG := hidd (show Blk ((w.alloc (.cells C 56)).alloc (.cells (zrow Y) 2)) (w.heap.size + 1) (icells (dgL Y fun _ => 0)).toArray 2 from by rw [← zrow_dg]; exact Blk.new _ _ _ _ (by simp))
    have cP := dg_cell HG.out (show 0 < Y by omega)
    have fP := HG.out.fro 0
    have c0' := (HB.alloc (.cells (zrow Y) 2)).cell hC0
    have c1' := (HB.alloc (.cells (zrow Y) 2)).cell hC1
    clear hC hfin hs hFU hfu hfu2 hY hYN HB
    rw [Nat.sub_zero]
    go_enter Tryd.func86, Tryd.ntmps86
    go_wp2_with fail
    clear hsh hsh2 hu hmn hmk hFU17
    go_ret
    refine ⟨w.heap.size + 1, rfl, by omega, ?_, ((Below.refl _ _).alloc (Nat.le_refl _) _).alloc (by simp) _⟩
    rw [HZ.out]
    exact Blk.new _ _ _ _ (by simp)
set_option maxRecDepth 100000 in
set_option maxHeartbeats 4000000 in
theorem wyf_step (N K : Nat) (bs : List Nat) (hb : Bys bs) (zs : List Int) (a : Option Addr) (cap : Nat) (hl : zs.length = K) (n1 : 1 ≤ N) (hN12 : N ≤ 12) (hK : K ≤ 4) (h2 : no1 zs K) (hsz : szP zs K = true) (e : Nat) (he : e + 1 + 1 ≤ K) (IH : ∀ (w : World), SlI w a zs → Calls Tryd.prog 86 #[.agg (scl (N : Int) (K : Int) bs a K cap).toArray, .int .i64 ((K - e : Nat) : Int)] w fun r w' => ∃ g : Nat, r = .returned (.slice (some ⟨g, 0, none⟩) (2 ^ N) (2 ^ N)) ∧ w.heap.size ≤ g ∧ Blk w' g (icells (dgL (2 ^ N) (wyF bs N K zs e))).toArray 2 ∧ Below w.heap.size w w') (w : World) (hs : SlI w a zs) :
    Calls Tryd.prog 86 #[.agg (scl (N : Int) (K : Int) bs a K cap).toArray, .int .i64 ((K - (e + 1) : Nat) : Int)] w fun r w' => ∃ g : Nat, r = .returned (.slice (some ⟨g, 0, none⟩) (2 ^ N) (2 ^ N)) ∧ w.heap.size ≤ g ∧ Blk w' g (icells (dgL (2 ^ N) (wyF bs N K zs (e + 1)))).toArray 2 ∧ Below w.heap.size w w' := by
    have HREC := hidd IH
    clear IH
    have HFR := hidd (fun W h => frs85 N K (K - (e + 1)) bs hb zs a cap W h hl n1 (by omega) hK h2 hsz (by omega))
    have HSL := hidd hs
    have HS := hidd (size_s56 (n := (N : Int)) (k := (K : Int)) hb a K cap)
    have HST := hidd (fun (S : Nat) hS => WyI.start (bs := bs) (zs := zs) (S := S) (N := N) he hS)
    have HDO := hidd (fun S v h => WyI.done (bs := bs) (zs := zs) (S := S) (v := v) (show N ≤ 17 by omega) h2 he h)
    have HSP := hidd (fun S t v (h : WyI bs N K zs e S t v) ht => h.step ht)
    have HLE := hidd (fun S t v (h : WyI bs N K zs e S t v) => h.le hN12 hK he)
    have HBD := hidd (fun S => wy_bd (bs := bs) (zs := zs) (S := S) hN12 hK (show e + 1 ≤ K by omega))
    obtain ⟨cc, hcc⟩ : ∃ cc, cc = K - (e + 1) := ⟨_, rfl⟩
    have hce : K - e = cc + 1 := by omega
    have hcK : ((cc : Int) == (K : Int)) = false := by rw [beq_eq_false_iff_ne]; omega
    rw [← hcc] at HFR HSP ⊢
    rw [hce] at HREC
    have hc4 : cc ≤ 4 := by omega
    obtain ⟨fr, hfr⟩ : ∃ fr, fr = fre bs N zs cc := ⟨_, rfl⟩
    obtain ⟨oth, hoth⟩ : ∃ oth, oth = wyF bs N K zs e := ⟨_, rfl⟩
    obtain ⟨res, hres⟩ : ∃ res, res = wyF bs N K zs (e + 1) := ⟨_, rfl⟩
    rw [← hfr] at HFR
    rw [← hoth] at HREC
    rw [← hres]
    have HSP2 := hidd (fun S t v (h : WyI bs N K zs e S t v) (ht : t ≠ 0) => (show WyI bs N K zs e S ((t - 1) &&& S) (v + if fr t = true then oth (S ^^^ t) else 0) by rw [hfr, hoth]; exact HSP.out S t v h ht))
    have HST2 := hidd (fun S (hS : S < 2 ^ N) => (show WyI bs N K zs e S S (oth S) by rw [hoth]; exact HST.out S hS))
    have HDO2 := hidd (fun S v (h : WyI bs N K zs e S 0 v) => (show v = res S by rw [hres]; exact HDO.out S v h))
    have HBD2 := hidd (fun S => (show oth S ≤ 281474976710656 by rw [hoth]; exact HBD.out S))
    obtain ⟨FU, Y, hFU, hFU17, hY, hmn, hu, hsh, hsh2, hfu, hfu2⟩ := full_facts n1 (show N ≤ 17 by omega)
    have hYN : Y = 2 ^ N := by rw [hY, hFU]; exact Nat.sub_add_cancel Nat.one_le_two_pow
    have hY17 : Y ≤ 131072 := by rw [hYN]; exact Nat.pow_le_pow_right (by decide) (show N ≤ 17 by omega)
    have hY1 : 1 ≤ Y := by rw [hYN]; exact Nat.one_le_two_pow
    have HYP := hidd hYN
    rw [← hYN] at HREC HFR ⊢
    rw [← hYN] at HST2
    have hmk := make29 Y (Nat.le_trans hY17 (by decide))
    obtain ⟨C, hC⟩ : ∃ C, C = (scl (N : Int) (K : Int) bs a K cap).toArray := ⟨_, rfl⟩
    have hC0 : C[0]? = some (.int .i64 (N : Int)) := by rw [hC]; exact scl_fst 0 _ rfl
    have hC1 : C[1]? = some (.int .i64 (K : Int)) := by rw [hC]; exact scl_fst 1 _ rfl
    rw [← hC] at HREC HFR HS ⊢
    have HB := Blk.new w C 56 _ rfl
    have c0 := HB.cell hC0
    have c0' := (HB.alloc (.cells (zrow Y) 2)).cell hC0
    have c1' := (HB.alloc (.cells (zrow Y) 2)).cell hC1
    obtain ⟨W2, hW2⟩ : ∃ W2, W2 = (w.alloc (.cells C 56)).alloc (.cells (zrow Y) 2) := ⟨_, rfl⟩
    have G := hidd (show Blk W2 w.heap.size C 56 ∧ Blk W2 (w.heap.size + 1) (icells (dgL Y fun _ => 0)).toArray 2 ∧ Below w.heap.size w W2 from by
      rw [hW2]; exact ⟨HB.alloc _, by rw [← zrow_dg]; exact Blk.new _ _ _ _ (by simp), ((Below.refl _ _).alloc (Nat.le_refl _) _).alloc (by simp) _⟩)
    have hcw : IntKind.i64.wrap ((cc : Int) + 1) = (cc : Int) + 1 := IntWalk.i64_in _ (by omega)
    have hcw2 : wrap64 ((cc : Int) + 1) = (cc : Int) + 1 := IntWalk.wrap64_in _ ⟨by omega, by omega⟩
    rw [show ((cc + 1 : Nat) : Int) = (cc : Int) + 1 by omega] at HREC
    have HRW := hidd (fun W (h : Blk W w.heap.size C 56) => h.range 0 C.toList (fun j v hj => by rw [Nat.zero_add]; simpa using hj))
    have HSL2 := hidd (show (Tryd.prog.info? 56).map (·.size) = some C.toList.length by rw [HS.out]; simp)
    clear hC hs hFU hfu hfu2 hY hYN HB hfr hoth hres hC0 hC1 hcc hce h2 hsz hb
    go_enter Tryd.func86, Tryd.ntmps86
    go_upto_region 5 with fail
    rw [← hW2]
    clear hW2 hsh hsh2 hu hmn hmk hFU17 c0 c0' c1'
    go_cut [6, 7] from 23 to 29 (fun s6 s7 wx => ∃ (g6 g7 : Nat), s6 = .slice (some ⟨g6, 0, none⟩) Y Y ∧ s7 = .slice (some ⟨g7, 0, none⟩) Y Y ∧ Hid (w.heap.size + 1 < g6 ∧ w.heap.size + 1 < g7 ∧ RelY fr oth (fun _ => 0) (w.heap.size + 1) g6 g7 Y w wx))
    case first =>
      have hl1 : w.heap.size + 1 < W2.heap.size := G.out.2.1.lt
      refine wp_region_held_drew (S := (fun W => Blk W w.heap.size C 56)) (by kernel_rfl) ?_ (fun hHeld => ?_)
      · exact G.out.1.drew
      refine wpAnyH_take (i := 0) (oi := _) (v := _) rfl (by kernel_rfl) (by kernel_rfl) (by kernel_rfl) (fun _ _ _ h => h) (yieldsIf_load_mid (by rfl) _ _ rfl _ _ rfl _ _ (HRW.out) Tryd.underlying56 rfl (HSL2.out)) (by assumption) ?_
      simp only [List.getElem_toArray, List.getElem_cons_succ, List.getElem_cons_zero, Act.put, List.setIfInBounds_toArray, List.set_cons_zero, List.set_cons_succ]
      refine wpAnyH_take (i := 1) (oi := _) (v := ?_) rfl (by kernel_rfl) (by kernel_rfl) (by kernel_rfl) (fun _ _ _ h => h) (Or.inl ⟨by rfl, ?_⟩) (by assumption) ?_
      rotate_left
      · intro wX hSw; (try dsimp only at hSw); go_simp; first | done | with_reducible rfl
      simp only [List.getElem_toArray, List.getElem_cons_succ, List.getElem_cons_zero, Act.put, List.setIfInBounds_toArray, List.set_cons_zero, List.set_cons_succ]
      refine wpAnyH_take (i := 3) (oi := _) (v := _) rfl (by kernel_rfl) (by kernel_rfl) (by kernel_rfl) (fun _ _ _ h => h) (yieldsIf_load_mid (by rfl) _ _ rfl _ _ rfl _ _ (HRW.out) Tryd.underlying56 rfl (HSL2.out)) (by assumption) ?_
      simp only [List.getElem_toArray, List.getElem_cons_succ, List.getElem_cons_zero, Act.put, List.setIfInBounds_toArray, List.set_cons_zero, List.set_cons_succ]
      refine wpAnyH_take (i := 4) (oi := _) (v := ?_) rfl (by kernel_rfl) (by kernel_rfl) (by kernel_rfl) (fun _ _ _ h => h) (Or.inl ⟨by rfl, ?_⟩) (by assumption) ?_
      rotate_left
      · intro wX hSw; (try dsimp only at hSw); go_simp; first | done | with_reducible rfl
      simp only [List.getElem_toArray, List.getElem_cons_succ, List.getElem_cons_zero, Act.put, List.setIfInBounds_toArray, List.set_cons_zero, List.set_cons_succ]
      refine wpAnyH_take (i := 5) (oi := _) (v := ?_) rfl (by kernel_rfl) (by kernel_rfl) (by kernel_rfl) (fun _ _ _ h => h) (Or.inl ⟨by rfl, ?_⟩) (by assumption) ?_
      rotate_left
      · intro wX hSw; (try dsimp only at hSw); go_simp; first | done | with_reducible rfl
      simp only [List.getElem_toArray, List.getElem_cons_succ, List.getElem_cons_zero, Act.put, List.setIfInBounds_toArray, List.set_cons_zero, List.set_cons_succ]
      refine wpAnyH_ready (rs := [2]) (by kernel_rfl) (by simp) (AllReadyH.cons (o := _) rfl (fun KQ hKQ => ?_) AllReadyH.nil)
      · go_simp
        refine (HFR.out _ (HSL.out.below (below_drewN G.out.2.2 1) (Nat.le_refl _))).mono ?_
        rintro r X1 ⟨g6, rfl, l6, k6, hb1⟩
        have hA : Below W2.heap.size W2 X1 := ((Below.refl W2.heap.size W2).drew).trans hb1
        have l6' : W2.heap.size ≤ g6 := l6
        clear hb1
        refine hKQ.out _ _ ?_ (fun hNext => ?_)
        · exact G.out.1.below hA G.out.1.lt
        clear hKQ KQ hHeld
        have hHeld := hNext
        clear hNext
        refine wpAnyH_ready (rs := [6]) (by kernel_rfl) (by simp) (AllReadyH.cons (o := _) rfl (fun KQ hKQ => ?_) AllReadyH.nil)
        go_simp
        refine (HREC.out _ (HSL.out.below (G.out.2.2.trans (hA.mono G.out.2.2.size)) (Nat.le_refl _))).mono ?_
        rintro r X2 ⟨g7, rfl, l7, k7, hB⟩
        have hAs := hA.size
        refine hKQ.out _ _ ?_ (fun hNext => ?_)
        · exact (G.out.1.below hA G.out.1.lt).below hB (Nat.lt_of_lt_of_le G.out.1.lt hA.size)
        clear hKQ KQ hHeld
        have hHeld := hNext
        clear hNext
        have KM := hidd (show w.heap.size + 1 < g6 ∧ w.heap.size + 1 < g7 ∧ RelY fr oth (fun _ => 0) (w.heap.size + 1) g6 g7 Y w X2 from
          ⟨by omega, by omega, (G.out.2.1.below hA G.out.2.1.lt).below hB (Nat.lt_of_lt_of_le G.out.2.1.lt hA.size), k6.below hB k6.lt, k7, (G.out.2.2.trans (hA.mono G.out.2.2.size)).trans (hB.mono (Nat.le_trans G.out.2.2.size hA.size))⟩)
        clear hA hB k6 k7 l6 l7
        refine wpAnyH_take (i := 7) (oi := _) (v := ?_) rfl (by kernel_rfl) (by kernel_rfl) (by kernel_rfl) (fun _ _ _ h => h) (Or.inl ⟨by rfl, ?_⟩) (by assumption) ?_
        rotate_left
        · intro wX hSw; (try dsimp only at hSw); go_simp; first | done | with_reducible rfl
        simp only [List.getElem_toArray, List.getElem_cons_succ, List.getElem_cons_zero, Act.put, List.setIfInBounds_toArray, List.set_cons_zero, List.set_cons_succ]
        refine wpAnyH_take (i := 8) (oi := _) (v := ?_) rfl (by kernel_rfl) (by kernel_rfl) (by kernel_rfl) (fun _ _ _ h => h) (Or.inl ⟨by rfl, ?_⟩) (by assumption) ?_
        rotate_left
        · intro wX hSw; (try dsimp only at hSw); go_simp; first | done | with_reducible rfl
        simp only [List.getElem_toArray, List.getElem_cons_succ, List.getElem_cons_zero, Act.put, List.setIfInBounds_toArray, List.set_cons_zero, List.set_cons_succ]
        refine wpAnyH_done (by kernel_rfl) ?_ _
        clear hHeld
        go_wp2_with fail
        go_meet
        exact ⟨g6, g7, rfl, rfl, KM⟩
    case rest =>
    obtain ⟨g6, g7, rfl, rfl, HX⟩ := hcut
    clear HREC HFR G HRW HSL2 hcw hcw2
    have hd0 : (fun _ => 0 : Nat → Nat) = wyP res (fun _ => 0) 0 := by funext i; simp [wyP]
    rw [hd0] at HX
    go_wp2_with fail
    go_loopw [32] (fun s wr => ∃ j : Nat, j ≤ Y ∧ s = .int .i64 (j : Int) ∧ Hid (w.heap.size + 1 < g6 ∧ w.heap.size + 1 < g7 ∧ RelY fr oth (wyP res (fun _ => 0) j) (w.heap.size + 1) g6 g7 Y w wr)) (fun s _ => Y - (intOf s).toNat)
    case atStart => exact ⟨0, Nat.zero_le _, rfl, HX⟩
    case round =>
    obtain ⟨j, hj, rfl, HK⟩ := hrel
    by_cases hlt : j < Y
    · have hltI : decide ((j : Int) < (Y : Int)) = true := by simp; omega
      have cA := dg_cell HK.out.2.2.1 hlt
      have fA := HK.out.2.2.1.fro j
      have cB := dg_cell HK.out.2.2.2.2.1 hlt
      obtain ⟨oj, hoj⟩ : ∃ oj, oj = oth j := ⟨_, rfl⟩
      rw [← hoj] at cB
      have HST3 := HST2.out j hlt
      rw [← hoj] at HST3
      have HI := hidd (And.intro HST3 (HK.out.2.2.put HK.out.1 HK.out.2.1 (by omega) j oj))
      obtain ⟨W5, hW5⟩ : ∃ W5, W5 = wr.setCell ⟨w.heap.size + 1, j, none⟩ (.int .i64 (oj : Int)) := ⟨_, rfl⟩
      rw [← hW5] at HI
      obtain ⟨x0, hx0⟩ : ∃ x0 : Int, x0 = ((wyP res (fun _ => 0) j j : Nat) : Int) := ⟨_, rfl⟩
      rw [← hx0] at cA
      clear hoj HST3 hx0
      have HW5 := hidd hW5
      clear hW5
      obtain ⟨wo, rfl⟩ : ∃ wo, wo = wr := ⟨_, rfl⟩
      go_upto_region 10 with fail
      rw [← HW5.out]
      clear cA fA cB HW5
      go_wp2_with fail
      go_loopw [9] (fun s wr => ∃ t v : Nat, s = .int .i64 (t : Int) ∧ Hid (WyI bs N K zs e j t v ∧ RelY fr oth (fun p => if p = j then v else wyP res (fun _ => 0) j p) (w.heap.size + 1) g6 g7 Y w wr)) (fun s _ => (intOf s).toNat)
      case atStart => exact ⟨j, oj, rfl, HI.out⟩
      case round =>
      obtain ⟨t, v, rfl, HT⟩ := hrel
      by_cases ht0 : t = 0
      · subst ht0
        have HV := hidd (HDO2.out j v HT.out.1)
        have hff : (fun p => if p = j then v else wyP res (fun _ => 0) j p) = wyP res (fun _ => 0) (j + 1) := by
          funext p
          unfold wyP
          by_cases h1 : p = j
          · rw [if_pos h1, if_pos (by omega), h1, HV.out]
          · rw [if_neg h1]
            by_cases h2 : p < j
            · rw [if_pos h2, if_pos (by omega)]
            · rw [if_neg h2, if_neg (by omega)]
        have h3 := HT.out.2
        rw [hff] at h3
        have H3 := hidd (And.intro HK.out.1 (And.intro HK.out.2.1 h3))
        clear hff h3 HV
        go_wp2_with fail
        go_roundw
        case rel => exact ⟨j + 1, by omega, by go_num, H3.out⟩
        case measure => simp [intOf]; omega
      · have htn : ((t : Int) != 0) = true := by rw [bne_iff_ne]; omega
        have hts := HT.out.1.1
        have htj : t ≤ j := by rw [← hts]; exact Nat.and_le_right
        have cF := HT.out.2.2.1.cell (bcl_get fr (j := Y) (show t < Y by omega))
        rw [decide_eq_true (show t < Y by omega), Bool.true_and] at cF
        have hand2 := i64_and_nat (t - 1) j (by omega) (by omega)
        rw [show ((t - 1 : Nat) : Int) = (t : Int) - 1 by omega] at hand2
        obtain ⟨T, hT⟩ : ∃ T, T = (t - 1) &&& j := ⟨_, rfl⟩
        have hTt : T < t := by rw [hT]; have := Nat.and_le_left (n := t - 1) (m := j); omega
        have hst := HSP2.out j t v HT.out.1 ht0
        rw [← hT] at hand2 hst
        cases hf : fr t with
        | false =>
          rw [hf, if_neg (by simp), Nat.add_zero] at hst
          rw [hf] at cF
          have HS3 := hidd (And.intro hst HT.out.2)
          clear hst hT hf hts
          go_wp2_with fail
          go_roundw
          case rel => exact ⟨T, v, rfl, HS3.out⟩
          case measure => simp [intOf]; omega
        | true =>
          rw [hf, if_pos rfl] at hst
          rw [hf] at cF
          have hand1 := i64_andnot (a := j) (b := t) (by omega) hts
          have hxY : j ^^^ t < Y := by
            rw [HYP.out]
            exact Nat.xor_lt_two_pow (by rw [← HYP.out]; exact hlt) (by rw [← HYP.out]; omega)
          obtain ⟨x, hx⟩ : ∃ x, x = j ^^^ t := ⟨_, rfl⟩
          rw [← hx] at hand1 hxY hst
          have hob := HBD2.out x
          have hvb := HLE.out j t v HT.out.1
          have HCA := hidd (fun W (h : RelY fr oth (fun p => if p = j then v else wyP res (fun _ => 0) j p) (w.heap.size + 1) g6 g7 Y w W) => (And.intro (show W.cell? ⟨w.heap.size + 1, j, none⟩ = some (.int .i64 (v : Int)) by have := dg_cell h.1 hlt; simpa using this) (And.intro (dg_cell h.2.2.1 hxY) (h.1.fro j))))
          obtain ⟨o, ho⟩ : ∃ o, o = oth x := ⟨_, rfl⟩
          rw [← ho] at hst HCA hob
          have hsum : IntKind.i64.wrap ((v : Int) + (o : Int)) = (v : Int) + (o : Int) := IntWalk.i64_in _ (by omega)
          have hsum2 : wrap64 ((v : Int) + (o : Int)) = (v : Int) + (o : Int) := IntWalk.wrap64_in _ ⟨by omega, by omega⟩
          have HPT := hidd (fun W (h : RelY fr oth (fun p => if p = j then v else wyP res (fun _ => 0) j p) (w.heap.size + 1) g6 g7 Y w W) => (show RelY fr oth (fun p => if p = j then v + o else wyP res (fun _ => 0) j p) (w.heap.size + 1) g6 g7 Y w (W.setCell ⟨w.heap.size + 1, j, none⟩ (.int .i64 ((v : Int) + (o : Int)))) by
            have h1 := h.put HK.out.1 HK.out.2.1 (by omega) j (v + o)
            rw [show ((v + o : Nat) : Int) = (v : Int) + (o : Int) by omega] at h1
            have h2 : (fun p => if p = j then v + o else (fun p => if p = j then v else wyP res (fun _ => 0) j p) p) = (fun p => if p = j then v + o else wyP res (fun _ => 0) j p) := by
              funext p
              by_cases h3 : p = j
              · rw [if_pos h3, if_pos h3]
              · rw [if_neg h3, if_neg h3]; exact if_neg h3
            rw [h2] at h1
            exact h1))
          have HS3 := hidd hst
          clear hst hT hf hts hx ho
          go_wp2_with fail
          refine wp_region_last_lit 12 (fun w' => RelY fr oth (fun p => if p = j then v else wyP res (fun _ => 0) j p) (w.heap.size + 1) g6 g7 Y w w') rfl rfl (by kernel_rfl) (HT.out.2.drew) (by kernel_rfl) (by kernel_rfl) (by kernel_rfl) ?_
          simp only [List.take_succ_cons, List.take_zero, List.cons_append, List.nil_append, idle]
          refine qs rfl (fun KQ hKQ => ?_)
          apply Exists.intro
          refine ⟨fun w' hw' => ?_, ?_⟩
          · go_simp; exact rfl
          go_simp
          refine hKQ _ ?_
          clear hKQ KQ
          refine qs rfl (fun KQ hKQ => ?_)
          apply Exists.intro
          refine ⟨fun w' hw' => ?_, ?_⟩
          · go_simp; exact rfl
          go_simp
          refine hKQ _ ?_
          clear hKQ KQ
          refine qs rfl (fun KQ hKQ => ?_)
          apply Exists.intro
          refine ⟨fun w' hw' => ?_, ?_⟩
          · go_simp; exact rfl
          go_simp
          refine hKQ _ ?_
          clear hKQ KQ
          refine qs rfl (fun KQ hKQ => ?_)
          apply Exists.intro
          refine ⟨fun w' hw' => ?_, ?_⟩
          · have e1 := (HCA.out w' hw').1; go_simp; exact rfl
          go_simp
          refine hKQ _ ?_
          clear hKQ KQ
          refine qs rfl (fun KQ hKQ => ?_)
          apply Exists.intro
          refine ⟨fun w' hw' => ?_, ?_⟩
          · go_simp; exact rfl
          go_simp
          refine hKQ _ ?_
          clear hKQ KQ
          refine qs rfl (fun KQ hKQ => ?_)
          apply Exists.intro
          refine ⟨fun w' hw' => ?_, ?_⟩
          · go_simp; exact rfl
          go_simp
          refine hKQ _ ?_
          clear hKQ KQ
          refine qs rfl (fun KQ hKQ => ?_)
          apply Exists.intro
          refine ⟨fun w' hw' => ?_, ?_⟩
          · go_simp; exact rfl
          go_simp
          refine hKQ _ ?_
          clear hKQ KQ
          refine qs rfl (fun KQ hKQ => ?_)
          apply Exists.intro
          refine ⟨fun w' hw' => ?_, ?_⟩
          · go_simp; exact rfl
          go_simp
          refine hKQ _ ?_
          clear hKQ KQ
          refine qs rfl (fun KQ hKQ => ?_)
          apply Exists.intro
          refine ⟨fun w' hw' => ?_, ?_⟩
          · go_simp; exact rfl
          go_simp
          refine hKQ _ ?_
          clear hKQ KQ
          refine qs rfl (fun KQ hKQ => ?_)
          apply Exists.intro
          refine ⟨fun w' hw' => ?_, ?_⟩
          · have e1 := (HCA.out w' hw').2.1; go_simp; exact rfl
          go_simp
          refine hKQ _ ?_
          clear hKQ KQ
          refine qs rfl (fun KQ hKQ => ?_)
          apply Exists.intro
          refine ⟨fun w' hw' => ?_, ?_⟩
          · go_simp; exact rfl
          go_simp
          refine hKQ _ ?_
          clear hKQ KQ
          refine qs rfl (fun KQ hKQ => ?_)
          apply Exists.intro
          refine ⟨fun w' hw' => ?_, ?_⟩
          · go_simp; exact rfl
          go_simp
          refine hKQ _ ?_
          clear hKQ KQ
          refine qs rfl (fun KQ hKQ => ?_)
          apply Exists.intro
          refine ⟨fun w' hw' => ?_, ?_⟩
          · go_simp; exact rfl
          go_simp
          refine hKQ _ ?_
          clear hKQ KQ
          refine wpQuiet_nil ?_
          intro w' hw'
          have e1 := (HCA.out w' hw').1
          have e2 := (HCA.out w' hw').2.2
          have H6 := hidd (HPT.out w' hw')
          clear hw'
          go_wp2_with fail
          go_roundw
          case rel => exact ⟨T, v + o, rfl, HS3.out, H6.out⟩
          case measure => simp [intOf]; omega
    · have hltI : decide ((j : Int) < (Y : Int)) = false := by simp; omega
      have hje : j = Y := by omega
      subst hje
      have hdn : dgL j (wyP res (fun _ => 0) j) = dgL j res := dgL_congr fun p hp => by unfold wyP; rw [if_pos hp]
      have h1 := HK.out.2.2.1
      rw [hdn] at h1
      have H1 := hidd h1
      clear hdn h1
      go_wp2_with fail
      go_ret
      exact ⟨w.heap.size + 1, rfl, by omega, H1.out, HK.out.2.2.2.2.2⟩
theorem wyf86 (N K : Nat) (bs : List Nat) (hb : Bys bs) (zs : List Int) (a : Option Addr) (cap : Nat) (hl : zs.length = K) (n1 : 1 ≤ N) (hN12 : N ≤ 12) (hK : K ≤ 4) (h2 : no1 zs K) (hsz : szP zs K = true) : ∀ (e : Nat), e + 1 ≤ K → ∀ (w : World), SlI w a zs →
    Calls Tryd.prog 86 #[.agg (scl (N : Int) (K : Int) bs a K cap).toArray, .int .i64 ((K - e : Nat) : Int)] w fun r w' => ∃ g : Nat, r = .returned (.slice (some ⟨g, 0, none⟩) (2 ^ N) (2 ^ N)) ∧ w.heap.size ≤ g ∧ Blk w' g (icells (dgL (2 ^ N) (wyF bs N K zs e))).toArray 2 ∧ Below w.heap.size w w' := by
  intro e
  induction e with
  | zero => intro he w hs; exact wyf_base N K bs hb zs a cap hl n1 hN12 hK h2 hsz he w hs
  | succ e ih => intro he w hs; exact wyf_step N K bs hb zs a cap hl n1 hN12 hK h2 hsz e he (ih (by omega)) w hs
end Go.Proofs.YtckffliiidgilaaDoor
