/- My texts Wyf, Cbd, Che, Eav, Cnx, Exq, Jmp, Rgd, Jmq, Exf, Lcn, Inv, Dgr, Dgs, in one. -/
import Derived.Test.YtckffliiidgilaaDoorBcd
import Derived.Deep.CutRange
import Derived.Test.YtckffliiidgilaaDoorBcb
import Derived.StillTailTactics
import Derived.RangeFuncNested
import Derived.RangeFuncLeaves
import Derived.Test.YtckffliiidgilaaDoorBcc
import Derived.Deep.AppendLies
import Derived.Maps.RangeWalk
/- waysFrom. -/
namespace Go.Proofs.YtckffliiidgilaaDoor
set_option linter.unusedVariables false
set_option linter.unusedSimpArgs false
open Go Go.RowKit Go.Shelf
theorem icells_put (zs : List Int) (i : Nat) (v : Int) : (icells zs).toArray.setIfInBounds i (.int .i64 v) = (icells (zs.set i v)).toArray := by
  rw [List.setIfInBounds_toArray]
  congr 1
  unfold icells
  rw [List.map_set]
theorem zrow_dg (M : Nat) : zrow M = (icells (dgL M fun _ => 0)).toArray := by
  rw [zrow_icells]
  congr 2
  unfold dgL
  simp [List.map_const']
/-- The ways from a colour on, as a list. -/
def wyF (bs : List Nat) (N K : Nat) (zs : List Int) (e : Nat) : Nat → Nat := fun S => wyW bs N K zs e S
/-- What is told of the ways below j. -/
def wyP (f g : Nat → Nat) (j : Nat) : Nat → Nat := fun i => if i < j then f i else g i
def RelWy (f : Nat → Nat) (b : Nat) (M : Nat) (W1 : World) (wr : World) : Prop := Blk wr b (icells (dgL M f)).toArray 2 ∧ Below b W1 wr
theorem dg_cell {w : World} {b M i : Nat} {f : Nat → Nat} (h : Blk w b (icells (dgL M f)).toArray 2) (hi : i < M) : w.cell? ⟨b, i, none⟩ = some (.int .i64 (f i : Int)) := by
  refine h.cell ?_
  have h1 := icells_get (zs := dgL M f) (j := i) (by rw [dgL_len]; exact hi)
  rw [dgL_get hi] at h1
  simpa using h1
theorem dg_put {w : World} {b M i v : Nat} {f : Nat → Nat} (h : Blk w b (icells (dgL M f)).toArray 2) : Blk (w.setCell ⟨b, i, none⟩ (.int .i64 (v : Int))) b (icells (dgL M (fun p => if p = i then v else f p))).toArray 2 := by
  have h1 := h.same i (.int .i64 (v : Int))
  rw [icells_put, dgL_set] at h1
  exact h1
/-- The three lists: the ways that are told, the free sets, the ways of the later colours. -/
def RelY (fr : Nat → Bool) (oth f : Nat → Nat) (g5 g6 g7 Y : Nat) (w wr : World) : Prop :=
  Blk wr g5 (icells (dgL Y f)).toArray 2 ∧ Blk wr g6 (bcl fr Y Y).toArray 4 ∧ Blk wr g7 (icells (dgL Y oth)).toArray 2 ∧ Below w.heap.size w wr
theorem RelY.put {fr : Nat → Bool} {oth f : Nat → Nat} {g5 g6 g7 Y : Nat} {w wr : World} (h : RelY fr oth f g5 g6 g7 Y w wr) (h6 : g5 < g6) (h7 : g5 < g7) (hw : w.heap.size ≤ g5) (i v : Nat) :
    RelY fr oth (fun p => if p = i then v else f p) g5 g6 g7 Y w (wr.setCell ⟨g5, i, none⟩ (.int .i64 (v : Int))) :=
  ⟨dg_put h.1, h.2.1.other _ _ (by show g6 ≠ g5; omega), h.2.2.1.other _ _ (by show g7 ≠ g5; omega), h.2.2.2.setCell hw _⟩
theorem RelY.drew {fr : Nat → Bool} {oth f : Nat → Nat} {g5 g6 g7 Y : Nat} {w wr : World} (h : RelY fr oth f g5 g6 g7 Y w wr) : RelY fr oth f g5 g6 g7 Y w wr.drew :=
  ⟨h.1.drew, h.2.1.drew, h.2.2.1.drew, below_drewN h.2.2.2 1⟩
set_option maxRecDepth 100000 in
set_option maxHeartbeats 4000000 in
theorem wyf_base (N K : Nat) (bs : List Nat) (hb : Bys bs) (zs : List Int) (a : Option Addr) (cap : Nat) (hl : zs.length = K) (n1 : 1 ≤ N) (hN12 : N ≤ 12) (hK : K ≤ 4) (h2 : no1 zs K) (hsz : szP zs K = true) (he : 0 + 1 ≤ K) (w : World) (hs : SlI w a zs) :
    Calls Tryd.prog 86 #[.agg (scl (N : Int) (K : Int) bs a K cap).toArray, .int .i64 ((K - 0 : Nat) : Int)] w fun r w' => ∃ g : Nat, r = .returned (.slice (some ⟨g, 0, none⟩) (2 ^ N) (2 ^ N)) ∧ w.heap.size ≤ g ∧ Blk w' g (icells (dgL (2 ^ N) (wyF bs N K zs 0))).toArray 2 ∧ Below w.heap.size w w' := by
    have HS := hidd (size_s56 (n := (N : Int)) (k := (K : Int)) hb a K cap)
    have hfin : (fun p => if p = 0 then 1 else (fun _ => 0) p) = wyF bs N K zs 0 := by funext p; unfold wyF; rw [wy_zero]
    obtain ⟨FU, Y, hFU, hFU17, hY, hmn, hu, hsh, hsh2, hfu, hfu2⟩ := full_facts n1 (show N ≤ 17 by omega)
    have hYN : Y = 2 ^ N := by rw [hY, hFU]; exact Nat.sub_add_cancel Nat.one_le_two_pow
    have hY17 : Y ≤ 131072 := by rw [hYN]; exact Nat.pow_le_pow_right (by decide) (show N ≤ 17 by omega)
    have hY1 : 1 ≤ Y := by rw [hYN]; exact Nat.one_le_two_pow
    rw [← hYN]
    have hmk := make29 Y (Nat.le_trans hY17 (by decide))
    obtain ⟨C, hC⟩ : ∃ C, C = (scl (N : Int) (K : Int) bs a K cap).toArray := ⟨_, rfl⟩
    have hC0 : C[0]? = some (.int .i64 (N : Int)) := by rw [hC]; exact scl_fst 0 _ rfl
    have hC1 : C[1]? = some (.int .i64 (K : Int)) := by rw [hC]; exact scl_fst 1 _ rfl
    rw [← hC]
    have HB := Blk.new w C 56 _ rfl
    have c0 := HB.cell hC0
    have c1 := HB.cell hC1
    have HZ := hidd (show (zrow Y).setIfInBounds 0 (.int .i64 1) = (icells (dgL Y (wyF bs N K zs 0))).toArray by
      have h1 := dgL_set Y (fun _ => 0) 0 1
      rw [hfin] at h1
      rw [zrow_dg, icells_put, ← h1]; rfl)
    have HG := hidd (show Blk ((w.alloc (.cells C 56)).alloc (.cells (zrow Y) 2)) (w.heap.size + 1) (icells (dgL Y fun _ => 0)).toArray 2 from by rw [← zrow_dg]; exact Blk.new _ _ _ _ (by simp))
    have cP := dg_cell HG.out (show 0 < Y by omega)
    have fP := HG.out.fro 0
    have c0' := (HB.alloc (.cells (zrow Y) 2)).cell hC0
    have c1' := (HB.alloc (.cells (zrow Y) 2)).cell hC1
    clear hC hfin hs hFU hfu hfu2 hY hYN HB
    rw [Nat.sub_zero]
    go_enter Tryd.func86, Tryd.ntmps86
    go_wp2_with fail
    clear hsh hsh2 hu hmn hmk hFU17
    go_ret
    refine ⟨w.heap.size + 1, rfl, by omega, ?_, ((Below.refl _ _).alloc (Nat.le_refl _) _).alloc (by simp) _⟩
    rw [HZ.out]
    exact Blk.new _ _ _ _ (by simp)
set_option maxRecDepth 100000 in
set_option maxHeartbeats 4000000 in
theorem wyf_step (N K : Nat) (bs : List Nat) (hb : Bys bs) (zs : List Int) (a : Option Addr) (cap : Nat) (hl : zs.length = K) (n1 : 1 ≤ N) (hN12 : N ≤ 12) (hK : K ≤ 4) (h2 : no1 zs K) (hsz : szP zs K = true) (e : Nat) (he : e + 1 + 1 ≤ K) (IH : ∀ (w : World), SlI w a zs → Calls Tryd.prog 86 #[.agg (scl (N : Int) (K : Int) bs a K cap).toArray, .int .i64 ((K - e : Nat) : Int)] w fun r w' => ∃ g : Nat, r = .returned (.slice (some ⟨g, 0, none⟩) (2 ^ N) (2 ^ N)) ∧ w.heap.size ≤ g ∧ Blk w' g (icells (dgL (2 ^ N) (wyF bs N K zs e))).toArray 2 ∧ Below w.heap.size w w') (w : World) (hs : SlI w a zs) :
    Calls Tryd.prog 86 #[.agg (scl (N : Int) (K : Int) bs a K cap).toArray, .int .i64 ((K - (e + 1) : Nat) : Int)] w fun r w' => ∃ g : Nat, r = .returned (.slice (some ⟨g, 0, none⟩) (2 ^ N) (2 ^ N)) ∧ w.heap.size ≤ g ∧ Blk w' g (icells (dgL (2 ^ N) (wyF bs N K zs (e + 1)))).toArray 2 ∧ Below w.heap.size w w' := by
    have HREC := hidd IH
    clear IH
    have HFR := hidd (fun W h => frs85 N K (K - (e + 1)) bs hb zs a cap W h hl n1 (by omega) hK h2 hsz (by omega))
    have HSL := hidd hs
    have HS := hidd (size_s56 (n := (N : Int)) (k := (K : Int)) hb a K cap)
    have HST := hidd (fun (S : Nat) hS => WyI.start (bs := bs) (zs := zs) (S := S) (N := N) he hS)
    have HDO := hidd (fun S v h => WyI.done (bs := bs) (zs := zs) (S := S) (v := v) (show N ≤ 17 by omega) h2 he h)
    have HSP := hidd (fun S t v (h : WyI bs N K zs e S t v) ht => h.step ht)
    have HLE := hidd (fun S t v (h : WyI bs N K zs e S t v) => h.le hN12 hK he)
    have HBD := hidd (fun S => wy_bd (bs := bs) (zs := zs) (S := S) hN12 hK (show e + 1 ≤ K by omega))
    obtain ⟨cc, hcc⟩ : ∃ cc, cc = K - (e + 1) := ⟨_, rfl⟩
    have hce : K - e = cc + 1 := by omega
    have hcK : ((cc : Int) == (K : Int)) = false := by rw [beq_eq_false_iff_ne]; omega
    rw [← hcc] at HFR HSP ⊢
    rw [hce] at HREC
    have hc4 : cc ≤ 4 := by omega
    obtain ⟨fr, hfr⟩ : ∃ fr, fr = fre bs N zs cc := ⟨_, rfl⟩
    obtain ⟨oth, hoth⟩ : ∃ oth, oth = wyF bs N K zs e := ⟨_, rfl⟩
    obtain ⟨res, hres⟩ : ∃ res, res = wyF bs N K zs (e + 1) := ⟨_, rfl⟩
    rw [← hfr] at HFR
    rw [← hoth] at HREC
    rw [← hres]
    have HSP2 := hidd (fun S t v (h : WyI bs N K zs e S t v) (ht : t ≠ 0) => (show WyI bs N K zs e S ((t - 1) &&& S) (v + if fr t = true then oth (S ^^^ t) else 0) by rw [hfr, hoth]; exact HSP.out S t v h ht))
    have HST2 := hidd (fun S (hS : S < 2 ^ N) => (show WyI bs N K zs e S S (oth S) by rw [hoth]; exact HST.out S hS))
    have HDO2 := hidd (fun S v (h : WyI bs N K zs e S 0 v) => (show v = res S by rw [hres]; exact HDO.out S v h))
    have HBD2 := hidd (fun S => (show oth S ≤ 281474976710656 by rw [hoth]; exact HBD.out S))
    obtain ⟨FU, Y, hFU, hFU17, hY, hmn, hu, hsh, hsh2, hfu, hfu2⟩ := full_facts n1 (show N ≤ 17 by omega)
    have hYN : Y = 2 ^ N := by rw [hY, hFU]; exact Nat.sub_add_cancel Nat.one_le_two_pow
    have hY17 : Y ≤ 131072 := by rw [hYN]; exact Nat.pow_le_pow_right (by decide) (show N ≤ 17 by omega)
    have hY1 : 1 ≤ Y := by rw [hYN]; exact Nat.one_le_two_pow
    have HYP := hidd hYN
    rw [← hYN] at HREC HFR ⊢
    rw [← hYN] at HST2
    have hmk := make29 Y (Nat.le_trans hY17 (by decide))
    obtain ⟨C, hC⟩ : ∃ C, C = (scl (N : Int) (K : Int) bs a K cap).toArray := ⟨_, rfl⟩
    have hC0 : C[0]? = some (.int .i64 (N : Int)) := by rw [hC]; exact scl_fst 0 _ rfl
    have hC1 : C[1]? = some (.int .i64 (K : Int)) := by rw [hC]; exact scl_fst 1 _ rfl
    rw [← hC] at HREC HFR HS ⊢
    have HB := Blk.new w C 56 _ rfl
    have c0 := HB.cell hC0
    have c0' := (HB.alloc (.cells (zrow Y) 2)).cell hC0
    have c1' := (HB.alloc (.cells (zrow Y) 2)).cell hC1
    obtain ⟨W2, hW2⟩ : ∃ W2, W2 = (w.alloc (.cells C 56)).alloc (.cells (zrow Y) 2) := ⟨_, rfl⟩
    have G := hidd (show Blk W2 w.heap.size C 56 ∧ Blk W2 (w.heap.size + 1) (icells (dgL Y fun _ => 0)).toArray 2 ∧ Below w.heap.size w W2 from by
      rw [hW2]; exact ⟨HB.alloc _, by rw [← zrow_dg]; exact Blk.new _ _ _ _ (by simp), ((Below.refl _ _).alloc (Nat.le_refl _) _).alloc (by simp) _⟩)
    have hcw : IntKind.i64.wrap ((cc : Int) + 1) = (cc : Int) + 1 := IntWalk.i64_in _ (by omega)
    have hcw2 : wrap64 ((cc : Int) + 1) = (cc : Int) + 1 := IntWalk.wrap64_in _ ⟨by omega, by omega⟩
    rw [show ((cc + 1 : Nat) : Int) = (cc : Int) + 1 by omega] at HREC
    have HRW := hidd (fun W (h : Blk W w.heap.size C 56) => h.range 0 C.toList (fun j v hj => by rw [Nat.zero_add]; simpa using hj))
    have HSL2 := hidd (show (Tryd.prog.info? 56).map (·.size) = some C.toList.length by rw [HS.out]; simp)
    clear hC hs hFU hfu hfu2 hY hYN HB hfr hoth hres hC0 hC1 hcc hce h2 hsz hb
    go_enter Tryd.func86, Tryd.ntmps86
    go_upto_region 5 with fail
    rw [← hW2]
    clear hW2 hsh hsh2 hu hmn hmk hFU17 c0 c0' c1'
    go_cut [6, 7] from 23 to 29 (fun s6 s7 wx => ∃ (g6 g7 : Nat), s6 = .slice (some ⟨g6, 0, none⟩) Y Y ∧ s7 = .slice (some ⟨g7, 0, none⟩) Y Y ∧ Hid (w.heap.size + 1 < g6 ∧ w.heap.size + 1 < g7 ∧ RelY fr oth (fun _ => 0) (w.heap.size + 1) g6 g7 Y w wx))
    case first =>
      have hl1 : w.heap.size + 1 < W2.heap.size := G.out.2.1.lt
      refine wp_region_held_drew (S := (fun W => Blk W w.heap.size C 56)) (by kernel_rfl) ?_ (fun hHeld => ?_)
      · exact G.out.1.drew
      refine wpAnyH_take (i := 0) (oi := _) (v := _) rfl (by kernel_rfl) (by kernel_rfl) (by kernel_rfl) (fun _ _ _ h => h) (yieldsIf_load_mid (by rfl) _ _ rfl _ _ rfl _ _ (HRW.out) Tryd.underlying56 rfl (HSL2.out)) (by assumption) ?_
      simp only [List.getElem_toArray, List.getElem_cons_succ, List.getElem_cons_zero, Act.put, List.setIfInBounds_toArray, List.set_cons_zero, List.set_cons_succ]
      refine wpAnyH_take (i := 1) (oi := _) (v := ?_) rfl (by kernel_rfl) (by kernel_rfl) (by kernel_rfl) (fun _ _ _ h => h) (Or.inl ⟨by rfl, ?_⟩) (by assumption) ?_
      rotate_left
      · intro wX hSw; (try dsimp only at hSw); go_simp; first | done | with_reducible rfl
      simp only [List.getElem_toArray, List.getElem_cons_succ, List.getElem_cons_zero, Act.put, List.setIfInBounds_toArray, List.set_cons_zero, List.set_cons_succ]
      refine wpAnyH_take (i := 3) (oi := _) (v := _) rfl (by kernel_rfl) (by kernel_rfl) (by kernel_rfl) (fun _ _ _ h => h) (yieldsIf_load_mid (by rfl) _ _ rfl _ _ rfl _ _ (HRW.out) Tryd.underlying56 rfl (HSL2.out)) (by assumption) ?_
      simp only [List.getElem_toArray, List.getElem_cons_succ, List.getElem_cons_zero, Act.put, List.setIfInBounds_toArray, List.set_cons_zero, List.set_cons_succ]
      refine wpAnyH_take (i := 4) (oi := _) (v := ?_) rfl (by kernel_rfl) (by kernel_rfl) (by kernel_rfl) (fun _ _ _ h => h) (Or.inl ⟨by rfl, ?_⟩) (by assumption) ?_
      rotate_left
      · intro wX hSw; (try dsimp only at hSw); go_simp; first | done | with_reducible rfl
      simp only [List.getElem_toArray, List.getElem_cons_succ, List.getElem_cons_zero, Act.put, List.setIfInBounds_toArray, List.set_cons_zero, List.set_cons_succ]
      refine wpAnyH_take (i := 5) (oi := _) (v := ?_) rfl (by kernel_rfl) (by kernel_rfl) (by kernel_rfl) (fun _ _ _ h => h) (Or.inl ⟨by rfl, ?_⟩) (by assumption) ?_
      rotate_left
      · intro wX hSw; (try dsimp only at hSw); go_simp; first | done | with_reducible rfl
      simp only [List.getElem_toArray, List.getElem_cons_succ, List.getElem_cons_zero, Act.put, List.setIfInBounds_toArray, List.set_cons_zero, List.set_cons_succ]
      refine wpAnyH_ready (rs := [2]) (by kernel_rfl) (by simp) (AllReadyH.cons (o := _) rfl (fun KQ hKQ => ?_) AllReadyH.nil)
      · go_simp
        refine (HFR.out _ (HSL.out.below (below_drewN G.out.2.2 1) (Nat.le_refl _))).mono ?_
        rintro r X1 ⟨g6, rfl, l6, k6, hb1⟩
        have hA : Below W2.heap.size W2 X1 := ((Below.refl W2.heap.size W2).drew).trans hb1
        have l6' : W2.heap.size ≤ g6 := l6
        clear hb1
        refine hKQ.out _ _ ?_ (fun hNext => ?_)
        · exact G.out.1.below hA G.out.1.lt
        clear hKQ KQ hHeld
        have hHeld := hNext
        clear hNext
        refine wpAnyH_ready (rs := [6]) (by kernel_rfl) (by simp) (AllReadyH.cons (o := _) rfl (fun KQ hKQ => ?_) AllReadyH.nil)
        go_simp
        refine (HREC.out _ (HSL.out.below (G.out.2.2.trans (hA.mono G.out.2.2.size)) (Nat.le_refl _))).mono ?_
        rintro r X2 ⟨g7, rfl, l7, k7, hB⟩
        have hAs := hA.size
        refine hKQ.out _ _ ?_ (fun hNext => ?_)
        · exact (G.out.1.below hA G.out.1.lt).below hB (Nat.lt_of_lt_of_le G.out.1.lt hA.size)
        clear hKQ KQ hHeld
        have hHeld := hNext
        clear hNext
        have KM := hidd (show w.heap.size + 1 < g6 ∧ w.heap.size + 1 < g7 ∧ RelY fr oth (fun _ => 0) (w.heap.size + 1) g6 g7 Y w X2 from
          ⟨by omega, by omega, (G.out.2.1.below hA G.out.2.1.lt).below hB (Nat.lt_of_lt_of_le G.out.2.1.lt hA.size), k6.below hB k6.lt, k7, (G.out.2.2.trans (hA.mono G.out.2.2.size)).trans (hB.mono (Nat.le_trans G.out.2.2.size hA.size))⟩)
        clear hA hB k6 k7 l6 l7
        refine wpAnyH_take (i := 7) (oi := _) (v := ?_) rfl (by kernel_rfl) (by kernel_rfl) (by kernel_rfl) (fun _ _ _ h => h) (Or.inl ⟨by rfl, ?_⟩) (by assumption) ?_
        rotate_left
        · intro wX hSw; (try dsimp only at hSw); go_simp; first | done | with_reducible rfl
        simp only [List.getElem_toArray, List.getElem_cons_succ, List.getElem_cons_zero, Act.put, List.setIfInBounds_toArray, List.set_cons_zero, List.set_cons_succ]
        refine wpAnyH_take (i := 8) (oi := _) (v := ?_) rfl (by kernel_rfl) (by kernel_rfl) (by kernel_rfl) (fun _ _ _ h => h) (Or.inl ⟨by rfl, ?_⟩) (by assumption) ?_
        rotate_left
        · intro wX hSw; (try dsimp only at hSw); go_simp; first | done | with_reducible rfl
        simp only [List.getElem_toArray, List.getElem_cons_succ, List.getElem_cons_zero, Act.put, List.setIfInBounds_toArray, List.set_cons_zero, List.set_cons_succ]
        refine wpAnyH_done (by kernel_rfl) ?_ _
        clear hHeld
        go_wp2_with fail
        go_meet
        exact ⟨g6, g7, rfl, rfl, KM⟩
    case rest =>
    obtain ⟨g6, g7, rfl, rfl, HX⟩ := hcut
    clear HREC HFR G HRW HSL2 hcw hcw2
    have hd0 : (fun _ => 0 : Nat → Nat) = wyP res (fun _ => 0) 0 := by funext i; simp [wyP]
    rw [hd0] at HX
    go_wp2_with fail
    go_loopw [32] (fun s wr => ∃ j : Nat, j ≤ Y ∧ s = .int .i64 (j : Int) ∧ Hid (w.heap.size + 1 < g6 ∧ w.heap.size + 1 < g7 ∧ RelY fr oth (wyP res (fun _ => 0) j) (w.heap.size + 1) g6 g7 Y w wr)) (fun s _ => Y - (intOf s).toNat)
    case atStart => exact ⟨0, Nat.zero_le _, rfl, HX⟩
    case round =>
    obtain ⟨j, hj, rfl, HK⟩ := hrel
    by_cases hlt : j < Y
    · have hltI : decide ((j : Int) < (Y : Int)) = true := by simp; omega
      have cA := dg_cell HK.out.2.2.1 hlt
      have fA := HK.out.2.2.1.fro j
      have cB := dg_cell HK.out.2.2.2.2.1 hlt
      obtain ⟨oj, hoj⟩ : ∃ oj, oj = oth j := ⟨_, rfl⟩
      rw [← hoj] at cB
      have HST3 := HST2.out j hlt
      rw [← hoj] at HST3
      have HI := hidd (And.intro HST3 (HK.out.2.2.put HK.out.1 HK.out.2.1 (by omega) j oj))
      obtain ⟨W5, hW5⟩ : ∃ W5, W5 = wr.setCell ⟨w.heap.size + 1, j, none⟩ (.int .i64 (oj : Int)) := ⟨_, rfl⟩
      rw [← hW5] at HI
      obtain ⟨x0, hx0⟩ : ∃ x0 : Int, x0 = ((wyP res (fun _ => 0) j j : Nat) : Int) := ⟨_, rfl⟩
      rw [← hx0] at cA
      clear hoj HST3 hx0
      have HW5 := hidd hW5
      clear hW5
      obtain ⟨wo, rfl⟩ : ∃ wo, wo = wr := ⟨_, rfl⟩
      go_upto_region 10 with fail
      rw [← HW5.out]
      clear cA fA cB HW5
      go_wp2_with fail
      go_loopw [9] (fun s wr => ∃ t v : Nat, s = .int .i64 (t : Int) ∧ Hid (WyI bs N K zs e j t v ∧ RelY fr oth (fun p => if p = j then v else wyP res (fun _ => 0) j p) (w.heap.size + 1) g6 g7 Y w wr)) (fun s _ => (intOf s).toNat)
      case atStart => exact ⟨j, oj, rfl, HI.out⟩
      case round =>
      obtain ⟨t, v, rfl, HT⟩ := hrel
      by_cases ht0 : t = 0
      · subst ht0
        have HV := hidd (HDO2.out j v HT.out.1)
        have hff : (fun p => if p = j then v else wyP res (fun _ => 0) j p) = wyP res (fun _ => 0) (j + 1) := by
          funext p
          unfold wyP
          by_cases h1 : p = j
          · rw [if_pos h1, if_pos (by omega), h1, HV.out]
          · rw [if_neg h1]
            by_cases h2 : p < j
            · rw [if_pos h2, if_pos (by omega)]
            · rw [if_neg h2, if_neg (by omega)]
        have h3 := HT.out.2
        rw [hff] at h3
        have H3 := hidd (And.intro HK.out.1 (And.intro HK.out.2.1 h3))
        clear hff h3 HV
        go_wp2_with fail
        go_roundw
        case rel => exact ⟨j + 1, by omega, by go_num, H3.out⟩
        case measure => simp [intOf]; omega
      · have htn : ((t : Int) != 0) = true := by rw [bne_iff_ne]; omega
        have hts := HT.out.1.1
        have htj : t ≤ j := by rw [← hts]; exact Nat.and_le_right
        have cF := HT.out.2.2.1.cell (bcl_get fr (j := Y) (show t < Y by omega))
        rw [decide_eq_true (show t < Y by omega), Bool.true_and] at cF
        have hand2 := i64_and_nat (t - 1) j (by omega) (by omega)
        rw [show ((t - 1 : Nat) : Int) = (t : Int) - 1 by omega] at hand2
        obtain ⟨T, hT⟩ : ∃ T, T = (t - 1) &&& j := ⟨_, rfl⟩
        have hTt : T < t := by rw [hT]; have := Nat.and_le_left (n := t - 1) (m := j); omega
        have hst := HSP2.out j t v HT.out.1 ht0
        rw [← hT] at hand2 hst
        cases hf : fr t with
        | false =>
          rw [hf, if_neg (by simp), Nat.add_zero] at hst
          rw [hf] at cF
          have HS3 := hidd (And.intro hst HT.out.2)
          clear hst hT hf hts
          go_wp2_with fail
          go_roundw
          case rel => exact ⟨T, v, rfl, HS3.out⟩
          case measure => simp [intOf]; omega
        | true =>
          rw [hf, if_pos rfl] at hst
          rw [hf] at cF
          have hand1 := i64_andnot (a := j) (b := t) (by omega) hts
          have hxY : j ^^^ t < Y := by
            rw [HYP.out]
            exact Nat.xor_lt_two_pow (by rw [← HYP.out]; exact hlt) (by rw [← HYP.out]; omega)
          obtain ⟨x, hx⟩ : ∃ x, x = j ^^^ t := ⟨_, rfl⟩
          rw [← hx] at hand1 hxY hst
          have hob := HBD2.out x
          have hvb := HLE.out j t v HT.out.1
          have HCA := hidd (fun W (h : RelY fr oth (fun p => if p = j then v else wyP res (fun _ => 0) j p) (w.heap.size + 1) g6 g7 Y w W) => (And.intro (show W.cell? ⟨w.heap.size + 1, j, none⟩ = some (.int .i64 (v : Int)) by have := dg_cell h.1 hlt; simpa using this) (And.intro (dg_cell h.2.2.1 hxY) (h.1.fro j))))
          obtain ⟨o, ho⟩ : ∃ o, o = oth x := ⟨_, rfl⟩
          rw [← ho] at hst HCA hob
          have hsum : IntKind.i64.wrap ((v : Int) + (o : Int)) = (v : Int) + (o : Int) := IntWalk.i64_in _ (by omega)
          have hsum2 : wrap64 ((v : Int) + (o : Int)) = (v : Int) + (o : Int) := IntWalk.wrap64_in _ ⟨by omega, by omega⟩
          have HPT := hidd (fun W (h : RelY fr oth (fun p => if p = j then v else wyP res (fun _ => 0) j p) (w.heap.size + 1) g6 g7 Y w W) => (show RelY fr oth (fun p => if p = j then v + o else wyP res (fun _ => 0) j p) (w.heap.size + 1) g6 g7 Y w (W.setCell ⟨w.heap.size + 1, j, none⟩ (.int .i64 ((v : Int) + (o : Int)))) by
            have h1 := h.put HK.out.1 HK.out.2.1 (by omega) j (v + o)
            rw [show ((v + o : Nat) : Int) = (v : Int) + (o : Int) by omega] at h1
            have h2 : (fun p => if p = j then v + o else (fun p => if p = j then v else wyP res (fun _ => 0) j p) p) = (fun p => if p = j then v + o else wyP res (fun _ => 0) j p) := by
              funext p
              by_cases h3 : p = j
              · rw [if_pos h3, if_pos h3]
              · rw [if_neg h3, if_neg h3]; exact if_neg h3
            rw [h2] at h1
            exact h1))
          have HS3 := hidd hst
          clear hst hT hf hts hx ho
          go_wp2_with fail
          refine wp_region_last_lit 12 (fun w' => RelY fr oth (fun p => if p = j then v else wyP res (fun _ => 0) j p) (w.heap.size + 1) g6 g7 Y w w') rfl rfl (by kernel_rfl) (HT.out.2.drew) (by kernel_rfl) (by kernel_rfl) (by kernel_rfl) ?_
          simp only [List.take_succ_cons, List.take_zero, List.cons_append, List.nil_append, idle]
          refine qs rfl (fun KQ hKQ => ?_)
          apply Exists.intro
          refine ⟨fun w' hw' => ?_, ?_⟩
          · go_simp; exact rfl
          go_simp
          refine hKQ _ ?_
          clear hKQ KQ
          refine qs rfl (fun KQ hKQ => ?_)
          apply Exists.intro
          refine ⟨fun w' hw' => ?_, ?_⟩
          · go_simp; exact rfl
          go_simp
          refine hKQ _ ?_
          clear hKQ KQ
          refine qs rfl (fun KQ hKQ => ?_)
          apply Exists.intro
          refine ⟨fun w' hw' => ?_, ?_⟩
          · go_simp; exact rfl
          go_simp
          refine hKQ _ ?_
          clear hKQ KQ
          refine qs rfl (fun KQ hKQ => ?_)
          apply Exists.intro
          refine ⟨fun w' hw' => ?_, ?_⟩
          · have e1 := (HCA.out w' hw').1; go_simp; exact rfl
          go_simp
          refine hKQ _ ?_
          clear hKQ KQ
          refine qs rfl (fun KQ hKQ => ?_)
          apply Exists.intro
          refine ⟨fun w' hw' => ?_, ?_⟩
          · go_simp; exact rfl
          go_simp
          refine hKQ _ ?_
          clear hKQ KQ
          refine qs rfl (fun KQ hKQ => ?_)
          apply Exists.intro
          refine ⟨fun w' hw' => ?_, ?_⟩
          · go_simp; exact rfl
          go_simp
          refine hKQ _ ?_
          clear hKQ KQ
          refine qs rfl (fun KQ hKQ => ?_)
          apply Exists.intro
          refine ⟨fun w' hw' => ?_, ?_⟩
          · go_simp; exact rfl
          go_simp
          refine hKQ _ ?_
          clear hKQ KQ
          refine qs rfl (fun KQ hKQ => ?_)
          apply Exists.intro
          refine ⟨fun w' hw' => ?_, ?_⟩
          · go_simp; exact rfl
          go_simp
          refine hKQ _ ?_
          clear hKQ KQ
          refine qs rfl (fun KQ hKQ => ?_)
          apply Exists.intro
          refine ⟨fun w' hw' => ?_, ?_⟩
          · go_simp; exact rfl
          go_simp
          refine hKQ _ ?_
          clear hKQ KQ
          refine qs rfl (fun KQ hKQ => ?_)
          apply Exists.intro
          refine ⟨fun w' hw' => ?_, ?_⟩
          · have e1 := (HCA.out w' hw').2.1; go_simp; exact rfl
          go_simp
          refine hKQ _ ?_
          clear hKQ KQ
          refine qs rfl (fun KQ hKQ => ?_)
          apply Exists.intro
          refine ⟨fun w' hw' => ?_, ?_⟩
          · go_simp; exact rfl
          go_simp
          refine hKQ _ ?_
          clear hKQ KQ
          refine qs rfl (fun KQ hKQ => ?_)
          apply Exists.intro
          refine ⟨fun w' hw' => ?_, ?_⟩
          · go_simp; exact rfl
          go_simp
          refine hKQ _ ?_
          clear hKQ KQ
          refine qs rfl (fun KQ hKQ => ?_)
          apply Exists.intro
          refine ⟨fun w' hw' => ?_, ?_⟩
          · go_simp; exact rfl
          go_simp
          refine hKQ _ ?_
          clear hKQ KQ
          refine wpQuiet_nil ?_
          intro w' hw'
          have e1 := (HCA.out w' hw').1
          have e2 := (HCA.out w' hw').2.2
          have H6 := hidd (HPT.out w' hw')
          clear hw'
          go_wp2_with fail
          go_roundw
          case rel => exact ⟨T, v + o, rfl, HS3.out, H6.out⟩
          case measure => simp [intOf]; omega
    · have hltI : decide ((j : Int) < (Y : Int)) = false := by simp; omega
      have hje : j = Y := by omega
      subst hje
      have hdn : dgL j (wyP res (fun _ => 0) j) = dgL j res := dgL_congr fun p hp => by unfold wyP; rw [if_pos hp]
      have h1 := HK.out.2.2.1
      rw [hdn] at h1
      have H1 := hidd h1
      clear hdn h1
      go_wp2_with fail
      go_ret
      exact ⟨w.heap.size + 1, rfl, by omega, H1.out, HK.out.2.2.2.2.2⟩
theorem wyf86 (N K : Nat) (bs : List Nat) (hb : Bys bs) (zs : List Int) (a : Option Addr) (cap : Nat) (hl : zs.length = K) (n1 : 1 ≤ N) (hN12 : N ≤ 12) (hK : K ≤ 4) (h2 : no1 zs K) (hsz : szP zs K = true) : ∀ (e : Nat), e + 1 ≤ K → ∀ (w : World), SlI w a zs →
    Calls Tryd.prog 86 #[.agg (scl (N : Int) (K : Int) bs a K cap).toArray, .int .i64 ((K - e : Nat) : Int)] w fun r w' => ∃ g : Nat, r = .returned (.slice (some ⟨g, 0, none⟩) (2 ^ N) (2 ^ N)) ∧ w.heap.size ≤ g ∧ Blk w' g (icells (dgL (2 ^ N) (wyF bs N K zs e))).toArray 2 ∧ Below w.heap.size w w' := by
  intro e
  induction e with
  | zero => intro he w hs; exact wyf_base N K bs hb zs a cap hl n1 hN12 hK h2 hsz he w hs
  | succ e ih => intro he w hs; exact wyf_step N K bs hb zs a cap hl n1 hN12 hK h2 hsz e he (ih (by omega)) w hs
end Go.Proofs.YtckffliiidgilaaDoor
/- countByDegree and count. -/
namespace Go.Proofs.YtckffliiidgilaaDoor
set_option linter.unusedVariables false
set_option linter.unusedSimpArgs false
open Go Go.RowKit Go.Shelf
theorem full_xor {N S : Nat} (h : S < 2 ^ N) : (2 ^ N - 1) ^^^ S = 2 ^ N - 1 - S := by
  rw [show 2 ^ N - 1 - S = 2 ^ N - (S + 1) by omega]
  apply Nat.eq_of_testBit_eq
  intro j
  rw [Nat.testBit_two_pow_sub_succ h, Nat.testBit_xor, Nat.testBit_two_pow_sub_one]
  by_cases hj : j < N
  · simp [hj]
  · have : S.testBit j = false := Nat.testBit_lt_two_pow (Nat.lt_of_lt_of_le h (Nat.pow_le_pow_right (by decide) (by omega)))
    simp [hj, this]
theorem wy_bd3 {bs : List Nat} {N K : Nat} {zs : List Int} {S : Nat} (hN : N ≤ 12) (hK1 : 1 ≤ K) (hK : K ≤ 4) : wyW bs N K zs (K - 1) S ≤ 68719476736 := by
  have h1 := wy_le (bs := bs) (N := N) (K := K) (zs := zs) (K - 1) S (by omega)
  have a1 : 2 ^ N ≤ 2 ^ 12 := Nat.pow_le_pow_right (by decide) hN
  have a2 : (2 ^ N) ^ (K - 1) ≤ (2 ^ 12) ^ (K - 1) := Nat.pow_le_pow_left a1 _
  have a3 : (2 ^ 12) ^ (K - 1) ≤ (2 ^ 12) ^ 3 := Nat.pow_le_pow_right (by decide) (by omega)
  exact Nat.le_trans h1 (Nat.le_trans a2 (Nat.le_trans a3 (by decide)))
theorem pd_step (bs : List Nat) (N K : Nat) (zs : List Int) (d j : Nat) : pdN bs N K zs d (j + 1) = pdN bs N K zs d j + if fre bs N zs 0 j = true ∧ ones j = d then wyW bs N K zs (K - 1) ((2 ^ N - 1) ^^^ j) else 0 := by unfold pdN; rw [sm]
theorem pd_bd {bs : List Nat} {N K : Nat} {zs : List Int} (hN : N ≤ 12) (hK1 : 1 ≤ K) (hK : K ≤ 4) (d : Nat) {j : Nat} (hj : j ≤ 4096) : pdN bs N K zs d j ≤ 281474976710656 := by
  have h1 : pdN bs N K zs d j ≤ j * 68719476736 := sm_le j fun S _ => by
    split
    · exact wy_bd3 hN hK1 hK
    · omega
  have h2 : j * 68719476736 ≤ 4096 * 68719476736 := Nat.mul_le_mul_right _ hj
  omega
def cdL (bs : List Nat) (N K : Nat) (zs : List Int) : List Int := dgL (N + 1) (fun d => pdN bs N K zs d (2 ^ N))
theorem ones_N {S N : Nat} (h : S < 2 ^ N) : ones S ≤ N := by rw [ones_cnt h]; exact cnt_le _ _
def RelD (fr : Nat → Bool) (oth f : Nat → Nat) (g3 g4 g6 D Y : Nat) (w wr : World) : Prop :=
  Blk wr g3 (icells (dgL D f)).toArray 2 ∧ Blk wr g4 (icells (dgL Y oth)).toArray 2 ∧ Blk wr g6 (bcl fr Y Y).toArray 4 ∧ Below w.heap.size w wr
theorem RelD.drew {fr : Nat → Bool} {oth f : Nat → Nat} {g3 g4 g6 D Y : Nat} {w wr : World} (h : RelD fr oth f g3 g4 g6 D Y w wr) : RelD fr oth f g3 g4 g6 D Y w wr.drew :=
  ⟨h.1.drew, h.2.1.drew, h.2.2.1.drew, below_drewN h.2.2.2 1⟩
set_option maxRecDepth 100000 in
set_option maxHeartbeats 4000000 in
theorem cbd57 (N K : Nat) (bs : List Nat) (hb : Bys bs) (zs : List Int) (a : Option Addr) (cap : Nat) (hl : zs.length = K) (n1 : 1 ≤ N) (hN12 : N ≤ 12) (hK1 : 1 ≤ K) (hK : K ≤ 4) (h2 : no1 zs K) (hsz : szP zs K = true) (w : World) (hs : SlI w a zs) :
    Calls Tryd.prog 57 #[.agg (scl (N : Int) (K : Int) bs a K cap).toArray] w fun r w' => ∃ g : Nat, r = .returned (.slice (some ⟨g, 0, none⟩) (N + 1) (N + 1)) ∧ w.heap.size ≤ g ∧ Blk w' g (icells (cdL bs N K zs)).toArray 2 ∧ Below w.heap.size w w' := by
  have HWY := hidd (fun W h => wyf86 N K bs hb zs a cap hl n1 hN12 hK h2 hsz (K - 1) (by omega) W h)
  have HFR := hidd (fun W h => frs85 N K 0 bs hb zs a cap W h hl n1 (by omega) hK h2 hsz (by omega))
  rw [show K - (K - 1) = 1 by omega] at HWY
  have HSL := hidd hs
  have HS := hidd (size_s56 (n := (N : Int)) (k := (K : Int)) hb a K cap)
  obtain ⟨fr, hfr⟩ : ∃ fr, fr = fre bs N zs 0 := ⟨_, rfl⟩
  obtain ⟨oth, hoth⟩ : ∃ oth, oth = wyF bs N K zs (K - 1) := ⟨_, rfl⟩
  obtain ⟨pd, hpd⟩ : ∃ pd : Nat → Nat → Nat, pd = fun j d => pdN bs N K zs d j := ⟨_, rfl⟩
  have HPS := hidd (fun d j (hj : j < 2 ^ N) => (show pd (j + 1) d = pd j d + if fr j = true ∧ ones j = d then oth (2 ^ N - 1 - j) else 0 by
    rw [hpd, hfr, hoth]; show pdN bs N K zs d (j + 1) = _; rw [pd_step, full_xor hj]; rfl))
  have HPB := hidd (fun d j (hj : j ≤ 4096) => (show pd j d ≤ 281474976710656 by rw [hpd]; exact pd_bd hN12 hK1 hK d hj))
  have HOB := hidd (fun S => (show oth S ≤ 68719476736 by rw [hoth]; exact wy_bd3 hN12 hK1 hK))
  have HP0 := hidd (show (fun _ => 0 : Nat → Nat) = pd 0 by rw [hpd]; rfl)
  have hres : cdL bs N K zs = dgL (N + 1) (pd (2 ^ N)) := by rw [hpd]; rfl
  rw [← hoth] at HWY
  rw [← hfr] at HFR
  rw [hres]
  have HON := hidd (fun S (h : S < 2 ^ N) => ones_N h)
  obtain ⟨Y, hYN⟩ : ∃ Y, Y = 2 ^ N := ⟨_, rfl⟩
  have hY17 : Y ≤ 4096 := by rw [hYN]; exact Nat.pow_le_pow_right (by decide) hN12
  have hY1 : 1 ≤ Y := by rw [hYN]; exact Nat.one_le_two_pow
  rw [← hYN] at HWY HFR HPS HON ⊢
  have hmk := make29 (N + 1) (by omega)
  rw [show ((N + 1 : Nat) : Int) = (N : Int) + 1 by omega] at hmk
  have hNw : IntKind.i64.wrap ((N : Int) + 1) = (N : Int) + 1 := IntWalk.i64_in _ (by omega)
  have hNw2 : wrap64 ((N : Int) + 1) = (N : Int) + 1 := IntWalk.wrap64_in _ ⟨by omega, by omega⟩
  obtain ⟨D, hD⟩ : ∃ D, D = N + 1 := ⟨_, rfl⟩
  rw [← hD] at hmk ⊢
  have HDD := hidd hD
  clear hD
  obtain ⟨C, hC⟩ : ∃ C, C = (scl (N : Int) (K : Int) bs a K cap).toArray := ⟨_, rfl⟩
  have hC0 : C[0]? = some (.int .i64 (N : Int)) := by rw [hC]; exact scl_fst 0 _ rfl
  rw [← hC] at HWY HFR HS ⊢
  have HB := Blk.new w C 56 _ rfl
  have c0 := HB.cell hC0
  obtain ⟨W2, hW2⟩ : ∃ W2, W2 = (w.alloc (.cells C 56)).alloc (.cells (zrow D) 2) := ⟨_, rfl⟩
  have G := hidd (show Blk W2 w.heap.size C 56 ∧ Blk W2 (w.heap.size + 1) (icells (dgL D fun _ => 0)).toArray 2 ∧ Below w.heap.size w W2 from by
    rw [hW2]; exact ⟨HB.alloc _, by rw [← zrow_dg]; exact Blk.new _ _ _ _ (by simp), ((Below.refl _ _).alloc (Nat.le_refl _) _).alloc (by simp) _⟩)
  clear hC hs HB hfr hoth hpd hres hC0 h2 hsz hb hYN hl
  go_enter Tryd.func57, Tryd.ntmps57
  go_upto_region 2 with fail
  rw [← hW2]
  clear hW2 hmk hNw hNw2 c0
  go_wp2_with (refine wpList_load_row rfl 56 (.tmp 1) rfl w.heap.size rfl 56 _ (0,0) _ G.out.1 Tryd.underlying56 rfl HS.out ?_)
  refine (HWY.out _ (HSL.out.below G.out.2.2 (Nat.le_refl _))).mono ?_
  rintro r X1 ⟨g4, rfl, l4, k4, hA⟩
  have hAs := hA.size
  have hlt := G.out.2.1.lt
  have G1 := hidd (And.intro (G.out.1.below hA G.out.1.lt) (And.intro (G.out.2.1.below hA hlt) (And.intro k4 (G.out.2.2.trans (hA.mono G.out.2.2.size)))))
  clear hA k4
  go_wp2_with (refine wpList_load_row rfl 56 (.tmp 1) rfl w.heap.size rfl 56 _ (0,0) _ G1.out.1 Tryd.underlying56 rfl HS.out ?_)
  refine (HFR.out _ (HSL.out.below G1.out.2.2.2 (Nat.le_refl _))).mono ?_
  rintro r X2 ⟨g6, rfl, l6, k6, hB⟩
  have h34 : w.heap.size + 1 < g4 := by omega
  have h36 : w.heap.size + 1 < g6 := by omega
  have G2 := hidd (show RelD fr oth (pd 0) (w.heap.size + 1) g4 g6 D Y w X2 from by
    rw [← HP0.out]
    exact ⟨G1.out.2.1.below hB G1.out.2.1.lt, G1.out.2.2.1.below hB G1.out.2.2.1.lt, k6, G1.out.2.2.2.trans (hB.mono G1.out.2.2.2.size)⟩)
  clear hB k6 hAs hlt l4 l6
  go_wp2_with fail
  go_loopw [17] (fun s wr => ∃ j : Nat, j ≤ Y ∧ s = .int .i64 (j : Int) ∧ Hid (RelD fr oth (pd j) (w.heap.size + 1) g4 g6 D Y w wr)) (fun s _ => Y - (intOf s).toNat)
  case atStart => exact ⟨0, Nat.zero_le _, rfl, G2.out⟩
  case round =>
  obtain ⟨j, hj, rfl, HK⟩ := hrel
  by_cases hlt : j < Y
  · have hltI : decide ((j : Int) < (Y : Int)) = true := by simp; omega
    have cF := HK.out.2.2.1.cell (bcl_get fr (j := Y) hlt)
    rw [decide_eq_true hlt, Bool.true_and] at cF
    cases hf : fr j with
    | false =>
      rw [hf] at cF
      have hff : pd (j + 1) = pd j := by funext d; rw [HPS.out d j hlt, if_neg (by rw [hf]; simp)]; rfl
      have H3 := hidd (show RelD fr oth (pd (j + 1)) (w.heap.size + 1) g4 g6 D Y w wr by rw [hff]; exact HK.out)
      clear hff hf
      go_wp2_with fail
      go_roundw
      case rel => exact ⟨j + 1, by omega, by go_num, H3.out⟩
      case measure => simp [intOf]; omega
    | true =>
      rw [hf] at cF
      have hw32 : IntKind.u32.wrap (j : Int) = (j : Int) := u32_in (by omega) (by omega)
      have HZ := hidd (fun W => size34 j (show j < 2 ^ 17 by omega) W)
      have hoN := HON.out j hlt
      have hpb := HPB.out (ones j) j (by omega)
      obtain ⟨x, hx⟩ : ∃ x, x = Y - 1 - j := ⟨_, rfl⟩
      have hxY : x < Y := by omega
      have hob := HOB.out x
      obtain ⟨on, hon⟩ : ∃ on, on = ones j := ⟨_, rfl⟩
      rw [← hon] at HZ hoN hpb
      have honD : on < D := by have := HDD.out; omega
      have hyw : IntKind.i64.wrap ((Y : Int) - 1) = (Y : Int) - 1 := IntWalk.i64_in _ (by omega)
      have hyw1 : wrap64 ((Y : Int) - 1) = (Y : Int) - 1 := IntWalk.wrap64_in _ ⟨by omega, by omega⟩
      have hyx : IntKind.i64.wrap ((Y : Int) - 1 - (j : Int)) = (x : Int) := by rw [IntWalk.i64_in _ (by omega)]; omega
      have hyx1 : wrap64 ((Y : Int) - 1 - (j : Int)) = (x : Int) := by rw [IntWalk.wrap64_in _ ⟨by omega, by omega⟩]; omega
      obtain ⟨v, hv⟩ : ∃ v, v = pd j on := ⟨_, rfl⟩
      obtain ⟨o, ho⟩ : ∃ o, o = oth x := ⟨_, rfl⟩
      rw [← hv] at hpb
      rw [← ho] at hob
      have hsum : IntKind.i64.wrap ((v : Int) + (o : Int)) = (v : Int) + (o : Int) := IntWalk.i64_in _ (by omega)
      have hsum2 : wrap64 ((v : Int) + (o : Int)) = (v : Int) + (o : Int) := IntWalk.wrap64_in _ ⟨by omega, by omega⟩
      have HCA := hidd (fun W (h : RelD fr oth (pd j) (w.heap.size + 1) g4 g6 D Y w W) => (And.intro (show W.cell? ⟨w.heap.size + 1, on, none⟩ = some (.int .i64 (v : Int)) by rw [hv]; exact dg_cell h.1 honD) (And.intro (show W.cell? ⟨g4, x, none⟩ = some (.int .i64 (o : Int)) by rw [ho]; exact dg_cell h.2.1 hxY) (h.1.fro on))))
      have HPT := hidd (fun W (h : RelD fr oth (pd j) (w.heap.size + 1) g4 g6 D Y w W) => (show RelD fr oth (pd (j + 1)) (w.heap.size + 1) g4 g6 D Y w (W.setCell ⟨w.heap.size + 1, on, none⟩ (.int .i64 ((v : Int) + (o : Int)))) by
        have h1 := dg_put (i := on) (v := v + o) h.1
        rw [show ((v + o : Nat) : Int) = (v : Int) + (o : Int) by omega] at h1
        have h5 : (fun p => if p = on then v + o else pd j p) = pd (j + 1) := by
          funext p
          rw [HPS.out p j hlt, hf, ← hon, ← hx, ← ho]
          by_cases h6 : p = on
          · rw [if_pos h6, if_pos ⟨rfl, h6.symm⟩, h6, hv]
          · rw [if_neg h6, if_neg (fun h => h6 h.2.symm)]; rfl
        rw [h5] at h1
        exact ⟨h1, h.2.1.other _ _ (by show g4 ≠ w.heap.size + 1; omega), h.2.2.1.other _ _ (by show g6 ≠ w.heap.size + 1; omega), h.2.2.2.setCell (by show w.heap.size ≤ w.heap.size + 1; omega) _⟩))
      clear hf hon hv ho hx
      go_wp2_with fail
      refine wp_region_last_lit 16 (fun w' => RelD fr oth (pd j) (w.heap.size + 1) g4 g6 D Y w w') rfl rfl (by kernel_rfl) (HK.out.drew) (by kernel_rfl) (by kernel_rfl) (by kernel_rfl) ?_
      simp only [List.take_succ_cons, List.take_zero, List.cons_append, List.nil_append, idle]
      refine qs rfl (fun KQ hKQ => ?_)
      apply Exists.intro
      refine ⟨fun w' hw' => ?_, ?_⟩
      · go_simp; exact rfl
      go_simp
      refine hKQ _ ?_
      clear hKQ KQ
      refine qs rfl (fun KQ hKQ => ?_)
      apply Exists.intro
      refine ⟨fun w' hw' => ?_, ?_⟩
      · go_simp; exact rfl
      go_simp
      refine hKQ _ ?_
      clear hKQ KQ
      refine qs rfl (fun KQ hKQ => ?_)
      apply Exists.intro
      refine ⟨fun w' hw' => ?_, ?_⟩
      · go_simp; exact rfl
      go_simp
      refine hKQ _ ?_
      clear hKQ KQ
      refine qs rfl (fun KQ hKQ => ?_)
      apply Exists.intro
      refine ⟨fun w' hw' => ?_, ?_⟩
      · go_simp; exact (HZ.out _).mono fun _ _ h => ⟨h.1, by rw [h.2]; exact hw'.drew⟩
      go_simp
      refine hKQ _ ?_
      clear hKQ KQ
      refine qs rfl (fun KQ hKQ => ?_)
      apply Exists.intro
      refine ⟨fun w' hw' => ?_, ?_⟩
      · go_simp; exact rfl
      go_simp
      refine hKQ _ ?_
      clear hKQ KQ
      refine qs rfl (fun KQ hKQ => ?_)
      apply Exists.intro
      refine ⟨fun w' hw' => ?_, ?_⟩
      · have e1 := (HCA.out w' hw').1; go_simp; exact rfl
      go_simp
      refine hKQ _ ?_
      clear hKQ KQ
      refine qs rfl (fun KQ hKQ => ?_)
      apply Exists.intro
      refine ⟨fun w' hw' => ?_, ?_⟩
      · go_simp; exact rfl
      go_simp
      refine hKQ _ ?_
      clear hKQ KQ
      refine qs rfl (fun KQ hKQ => ?_)
      apply Exists.intro
      refine ⟨fun w' hw' => ?_, ?_⟩
      · go_simp; exact rfl
      go_simp
      refine hKQ _ ?_
      clear hKQ KQ
      refine qs rfl (fun KQ hKQ => ?_)
      apply Exists.intro
      refine ⟨fun w' hw' => ?_, ?_⟩
      · go_simp; exact rfl
      go_simp
      refine hKQ _ ?_
      clear hKQ KQ
      refine qs rfl (fun KQ hKQ => ?_)
      apply Exists.intro
      refine ⟨fun w' hw' => ?_, ?_⟩
      · go_simp; exact rfl
      go_simp
      refine hKQ _ ?_
      clear hKQ KQ
      refine qs rfl (fun KQ hKQ => ?_)
      apply Exists.intro
      refine ⟨fun w' hw' => ?_, ?_⟩
      · go_simp; exact rfl
      go_simp
      refine hKQ _ ?_
      clear hKQ KQ
      refine qs rfl (fun KQ hKQ => ?_)
      apply Exists.intro
      refine ⟨fun w' hw' => ?_, ?_⟩
      · go_simp; exact rfl
      go_simp
      refine hKQ _ ?_
      clear hKQ KQ
      refine qs rfl (fun KQ hKQ => ?_)
      apply Exists.intro
      refine ⟨fun w' hw' => ?_, ?_⟩
      · go_simp; exact rfl
      go_simp
      refine hKQ _ ?_
      clear hKQ KQ
      refine qs rfl (fun KQ hKQ => ?_)
      apply Exists.intro
      refine ⟨fun w' hw' => ?_, ?_⟩
      · have e1 := (HCA.out w' hw').2.1; go_simp; exact rfl
      go_simp
      refine hKQ _ ?_
      clear hKQ KQ
      refine qs rfl (fun KQ hKQ => ?_)
      apply Exists.intro
      refine ⟨fun w' hw' => ?_, ?_⟩
      · go_simp; exact rfl
      go_simp
      refine hKQ _ ?_
      clear hKQ KQ
      refine qs rfl (fun KQ hKQ => ?_)
      apply Exists.intro
      refine ⟨fun w' hw' => ?_, ?_⟩
      · go_simp; exact rfl
      go_simp
      refine hKQ _ ?_
      clear hKQ KQ
      refine qs rfl (fun KQ hKQ => ?_)
      apply Exists.intro
      refine ⟨fun w' hw' => ?_, ?_⟩
      · go_simp; exact rfl
      go_simp
      refine hKQ _ ?_
      clear hKQ KQ
      refine wpQuiet_nil ?_
      intro w' hw'
      have e1 := (HCA.out w' hw').1
      have e2 := (HCA.out w' hw').2.2
      have H6 := hidd (HPT.out w' hw')
      clear hw'
      go_wp2_with fail
      go_roundw
      case rel => exact ⟨j + 1, by omega, by go_num, H6.out⟩
      case measure => simp [intOf]; omega
  · have hltI : decide ((j : Int) < (Y : Int)) = false := by simp; omega
    have hje : j = Y := by omega
    subst hje
    go_wp2_with fail
    go_ret
    exact ⟨w.heap.size + 1, rfl, by omega, HK.out.1, HK.out.2.2.2⟩
end Go.Proofs.YtckffliiidgilaaDoor
/- ChangeEdge: the program. -/
namespace Go.Proofs.YtckffliiidgilaaDoor
set_option linter.unusedVariables false
set_option linter.unusedSimpArgs false
open Go Go.RowKit
set_option maxRecDepth 100000 in
theorem pair58 (i j n : Int) (w : World) : Calls Tryd.prog 97 #[.int .i64 i, .int .i64 j, .int .i64 n] w fun e w' => e = .returned (.bool (pairB i j n)) ∧ w = w' := by
  cases h1 : belowB i n with
  | false =>
    have H := hidd (pairB_no1 (j := j) h1)
    have H1 := hidd h1
    clear h1
    go_enter Tryd.func97, Tryd.ntmps97
    go_wp2_with (go_at_call 98; refine (below61 _ _ _).mono ?_; rintro e w' ⟨rfl, rfl⟩; rw [H1.out])
    go_ret
    exact ⟨by rw [H.out]; rfl, rfl⟩
  | true =>
    have H1 := hidd h1
    clear h1
    cases h2 : belowB j n with
    | false =>
      have H := hidd (pairB_no2 (i := i) h2)
      have H2 := hidd h2
      clear h2
      go_enter Tryd.func97, Tryd.ntmps97
      go_wp2_with (go_at_call 98; refine (below61 _ _ _).mono ?_; rintro e w' ⟨rfl, rfl⟩; first | rw [H1.out] | rw [H2.out])
      go_ret
      exact ⟨by rw [H.out]; rfl, rfl⟩
    | true =>
      have H2 := hidd h2
      by_cases h3 : i = j
      · subst h3
        have H := hidd (pairB_no3 (i := i) (n := n))
        clear h2
        have hz : (i != i) = false := by simp
        go_enter Tryd.func97, Tryd.ntmps97
        go_wp2_with (go_at_call 98; refine (below61 _ _ _).mono ?_; rintro e w' ⟨rfl, rfl⟩; rw [H1.out])
        go_ret
        exact ⟨by rw [H.out]; rfl, rfl⟩
      · have H := hidd (pairB_yes H1.out h2 h3)
        have hz : (i != j) = true := by rw [bne_iff_ne]; exact h3
        clear h2 h3
        go_enter Tryd.func97, Tryd.ntmps97
        go_wp2_with (go_at_call 98; refine (below61 _ _ _).mono ?_; rintro e w' ⟨rfl, rfl⟩; first | rw [H1.out] | rw [H2.out])
        go_ret
        exact ⟨by rw [H.out]; rfl, rfl⟩
set_option maxRecDepth 100000 in
set_option maxHeartbeats 1000000 in
theorem impl26 (n k : Int) (bs : List Nat) (hb : Bys bs) (i j c : Int) (w : World) :
    Calls Tryd.prog 72 #[.agg (ccells n k bs).toArray, .int .i64 i, .int .i64 j, .int .i64 c] w fun e w' => e = .returned (chOut n k bs i j c) ∧ Below w.heap.size w w' := by
  have HS := hidd (size_c26 n k hb)
  have Hz := zero26
  have HZS := hidd size_z26
  have HZ1 := hidd (ccells_one 0 0 zbl)
  have HC0 := hidd (show (ccells n k bs).toArray[0]? = some (.int .i64 n) from rfl)
  have HC1 := hidd (show (ccells n k bs).toArray[1]? = some (.int .i64 k) from rfl)
  cases hi : isCol n k bs with
  | false =>
    have H := hidd (chOut_bad (codeC_1 (i := i) (j := j) (c := c) hi) (by omega))
    have HI := hidd hi
    clear hi
    go_enter Tryd.func72, Tryd.ntmps72
    go_wp2_with (refine wpList_load_row rfl 28 (.tmp 4) rfl w.heap.size rfl 28 _ (0,0) _ ((Blk.new _ _ _ _ rfl).alloc _) Tryd.underlying28 rfl HS.out ?_)
    refine (implIs_any n k bs hb _).mono ?_
    rintro e w1 ⟨rfl, hb1⟩
    rw [HI.out]
    obtain ⟨g0, g1, g2⟩ := after2 hb1
    have G := hidd (And.intro g1 (And.intro (g1.rowSame (ccells 0 0 zbl).toArray) (below_setRow g2 (g := w.heap.size + 1) (by omega) (ccells 0 0 zbl).toArray)))
    clear hb1 g0 g1 g2
    go_wp2_with (first
      | (refine wpList_zero26 rfl rfl ?_)
      | (refine wpList_store_row rfl 28 (.tmp 8) (.tmp 13) rfl (w.heap.size + 1) _ rfl rfl 28 _ G.out.1 HZS.out rfl HZ1.out ?_))
    exact ret_col rfl zbl_bys rfl G.out.2.1 rfl rfl ⟨by rw [H.out]; rfl, G.out.2.2⟩
  | true =>
    have HI := hidd hi
    obtain ⟨n1, n2, k1, k2⟩ := isCol_bd hi
    cases hp : pairB i j n with
    | false =>
      have H := hidd (chOut_bad (codeC_2 (i := i) (j := j) (c := c) hi (by rw [hp]; rfl)) (by omega))
      have HP := hidd hp
      clear hi hp
      go_enter Tryd.func72, Tryd.ntmps72
      go_wp2_with (refine wpList_load_row rfl 28 (.tmp 4) rfl w.heap.size rfl 28 _ (0,0) _ ((Blk.new _ _ _ _ rfl).alloc _) Tryd.underlying28 rfl HS.out ?_)
      refine (implIs_any n k bs hb _).mono ?_
      rintro e w1 ⟨rfl, hb1⟩
      rw [HI.out]
      obtain ⟨g0, g1, g2⟩ := after2 hb1
      have G := hidd (And.intro g1 (And.intro (g1.rowSame (ccells 0 0 zbl).toArray) (below_setRow g2 (g := w.heap.size + 1) (by omega) (ccells 0 0 zbl).toArray)))
      have c0 := g0.cell HC0.out
      have c1 := g0.cell HC1.out
      clear hb1 g0 g1 g2
      go_wp2_with (first
        | (refine wpList_zero26 rfl rfl ?_)
        | (refine wpList_store_row rfl 28 (.tmp 8) (.tmp 27) rfl (w.heap.size + 1) _ rfl rfl 28 _ G.out.1 HZS.out rfl HZ1.out ?_)
        | (go_at_call 97; refine (pair58 _ _ _ _).mono ?_; rintro e w' ⟨rfl, rfl⟩; rw [HP.out]))
      exact ret_col rfl zbl_bys rfl G.out.2.1 rfl rfl ⟨by rw [H.out]; rfl, G.out.2.2⟩
    | true =>
      have HP := hidd hp
      cases hq : belowB c k with
      | false =>
        have H := hidd (chOut_bad (codeC_2 (i := i) (j := j) (c := c) hi (by rw [hp, hq]; rfl)) (by omega))
        have HQ := hidd hq
        clear hi hp hq
        go_enter Tryd.func72, Tryd.ntmps72
        go_wp2_with (refine wpList_load_row rfl 28 (.tmp 4) rfl w.heap.size rfl 28 _ (0,0) _ ((Blk.new _ _ _ _ rfl).alloc _) Tryd.underlying28 rfl HS.out ?_)
        refine (implIs_any n k bs hb _).mono ?_
        rintro e w1 ⟨rfl, hb1⟩
        rw [HI.out]
        obtain ⟨g0, g1, g2⟩ := after2 hb1
        have G := hidd (And.intro g1 (And.intro (g1.rowSame (ccells 0 0 zbl).toArray) (below_setRow g2 (g := w.heap.size + 1) (by omega) (ccells 0 0 zbl).toArray)))
        have c0 := g0.cell HC0.out
        have c1 := g0.cell HC1.out
        clear hb1 g0 g1 g2
        go_wp2_with (first
          | (refine wpList_zero26 rfl rfl ?_)
          | (refine wpList_store_row rfl 28 (.tmp 8) (.tmp 27) rfl (w.heap.size + 1) _ rfl rfl 28 _ G.out.1 HZS.out rfl HZ1.out ?_)
          | (go_at_call 97; refine (pair58 _ _ _ _).mono ?_; rintro e w' ⟨rfl, rfl⟩; rw [HP.out])
          | (go_at_call 98; refine (below61 _ _ _).mono ?_; rintro e w' ⟨rfl, rfl⟩; rw [HQ.out]))
        exact ret_col rfl zbl_bys rfl G.out.2.1 rfl rfl ⟨by rw [H.out]; rfl, G.out.2.2⟩
      | true =>
        have HQ := hidd hq
        have H := hidd (chOut_good (codeC_0 hi hp hq))
        obtain ⟨p1, p2, p3, p4, hij⟩ := pairB_bd hp
        obtain ⟨q1, q2⟩ := inB_bd hq
        have q2 : c < 256 := by omega
        have r1 : i ≤ 16 := by omega
        have r2 : j ≤ 16 := by omega
        have HJ := hidd hij
        have HS2 := hidd (size_c26 n k (setAt_bys hb i j q1 q2))
        have HO2 := hidd (size_cc 0 0 n k zbl_bys (setAt_bys hb i j q1 q2))
        have HA2 := hidd (ccells_one n k (setAt bs i j c))
        obtain ⟨h1, h2, h3⟩ := eix_bd n2 p1 p2 p3 p4 hij
        obtain ⟨E, hE⟩ := Int.eq_ofNat_of_zero_le h1
        obtain ⟨x, hx⟩ := Int.eq_ofNat_of_zero_le q1
        have hE1 : E < 136 := by omega
        have hwr : IntKind.u8.wrap c = c := u8_in q1 q2
        have HE := hidd hE
        have HCE := hidd (hb.cget n k hE1)
        have HD := hidd (show (ccells n k bs).toArray.setIfInBounds (2 + E) (.int .u8 c) = (ccells n k (setAt bs i j c)).toArray by
          rw [hx, ccells_set]; unfold setAt; rw [hE]; simp)
        clear hi hp hq hij hE hx h1 h2 h3
        go_enter Tryd.func72, Tryd.ntmps72
        go_wp2_with (refine wpList_load_row rfl 28 (.tmp 4) rfl w.heap.size rfl 28 _ (0,0) _ ((Blk.new _ _ _ _ rfl).alloc _) Tryd.underlying28 rfl HS.out ?_)
        refine (implIs_any n k bs hb _).mono ?_
        rintro e w1 ⟨rfl, hb1⟩
        rw [HI.out]
        obtain ⟨g0, g1, g2⟩ := after2 hb1
        have c0 := g0.cell HC0.out
        have c1 := g0.cell HC1.out
        have cE := g0.cell HCE.out
        have fE := g0.fro (2 + E)
        have s0 := g0.same (2 + E) (.int .u8 c)
        rw [HD.out] at s0
        have s1 := g1.other ⟨w.heap.size, 2 + E, none⟩ (.int .u8 c) (by show w.heap.size + 1 ≠ w.heap.size; omega)
        have s2 := g2.setCell (p := ⟨w.heap.size, 2 + E, none⟩) (Nat.le_refl _) (.int .u8 c)
        have K := hidd (And.intro s0 (And.intro s1 (And.intro (s1.rowSame (ccells n k (setAt bs i j c)).toArray) (below_setRow s2 (g := w.heap.size + 1) (by omega) (ccells n k (setAt bs i j c)).toArray))))
        clear hb1 g0 g1 g2 s0 s1 s2
        go_wp2_with (first
          | (go_at_call 97; refine (pair58 _ _ _ _).mono ?_; rintro e w' ⟨rfl, rfl⟩; rw [HP.out])
          | (go_at_call 98; refine (below61 _ _ _).mono ?_; rintro e w' ⟨rfl, rfl⟩; rw [HQ.out])
          | (go_at_call 99; refine (edge54 _ _ _ HJ.out p1 r1 p3 r2).mono ?_; rintro e w' ⟨rfl, rfl⟩; rw [HE.out])
          | (refine wpList_load_row rfl 28 (.tmp 4) rfl w.heap.size rfl 28 _ (0,0) _ K.out.1 Tryd.underlying28 rfl HS2.out ?_)
          | (refine wpList_store_row rfl 28 (.tmp 8) (.tmp 35) rfl (w.heap.size + 1) _ rfl rfl 28 _ K.out.2.1 HS2.out HO2.out HA2.out ?_))
        exact ret_col rfl (setAt_bys hb i j q1 q2) rfl K.out.2.2.1 rfl rfl ⟨by rw [H.out]; rfl, K.out.2.2.2⟩
end Go.Proofs.YtckffliiidgilaaDoor
/- enterAvoiding. -/
namespace Go.Proofs.YtckffliiidgilaaDoor
set_option linter.unusedVariables false
set_option linter.unusedSimpArgs false
open Go Go.RowKit Go.Extern.Stop Go.Stop Go.Extern
/-- The code of a colouring that must avoid sizes. -/
def eaC (lim n k : Int) (bs : List Nat) (zs : List Int) : Int := if szCode n k bs zs = 0 then (if avP n.toNat bs zs k.toNat = true then (if lim < n then 3 else 0) else 5) else szCode n k bs zs
def eaS (lim n k : Int) (bs : List Nat) (zs : List Int) (a : Option Addr) (cap : Nat) : List Value := if eaC lim n k bs zs = 0 then scl n k bs a zs.length cap else scl 0 0 zbl none 0 0
theorem eaC_bad {lim n k : Int} {bs : List Nat} {zs : List Int} (h : szCode n k bs zs ≠ 0) : eaC lim n k bs zs = szCode n k bs zs := by unfold eaC; rw [if_neg h]
theorem eaC_5 {lim n k : Int} {bs : List Nat} {zs : List Int} (h : szCode n k bs zs = 0) (h2 : avP n.toNat bs zs k.toNat = false) : eaC lim n k bs zs = 5 := by unfold eaC; rw [if_pos h, h2]; simp
theorem eaC_3 {lim n k : Int} {bs : List Nat} {zs : List Int} (h : szCode n k bs zs = 0) (h2 : avP n.toNat bs zs k.toNat = true) (h3 : lim < n) : eaC lim n k bs zs = 3 := by unfold eaC; rw [if_pos h, if_pos h2, if_pos h3]
theorem eaC_0 {lim n k : Int} {bs : List Nat} {zs : List Int} (h : szCode n k bs zs = 0) (h2 : avP n.toNat bs zs k.toNat = true) (h3 : ¬ lim < n) : eaC lim n k bs zs = 0 := by unfold eaC; rw [if_pos h, if_pos h2, if_neg h3]
theorem eaC_ok {lim n k : Int} {bs : List Nat} {zs : List Int} (h : eaC lim n k bs zs = 0) : szCode n k bs zs = 0 ∧ avP n.toNat bs zs k.toNat = true ∧ n ≤ lim := by
  by_cases h1 : szCode n k bs zs = 0
  · cases h2 : avP n.toNat bs zs k.toNat with
    | false => rw [eaC_5 h1 h2] at h; omega
    | true =>
      by_cases h3 : lim < n
      · rw [eaC_3 h1 h2 h3] at h; omega
      · exact ⟨h1, rfl, by omega⟩
  · rw [eaC_bad h1] at h; exact absurd h h1
theorem szCode_ok {n k : Int} {bs : List Nat} {zs : List Int} (h : szCode n k bs zs = 0) : isCol n k bs = true ∧ szOk k zs = true := by
  have hi : isCol n k bs = true := by
    cases h1 : isCol n k bs with
    | true => rfl
    | false => rw [szCode_1 h1] at h; omega
  refine ⟨hi, ?_⟩
  cases h1 : szOk k zs with
  | true => rfl
  | false => rw [szCode_2 hi h1] at h; omega
theorem szOk_bd {k : Int} {zs : List Int} (h : szOk k zs = true) : (zs.length : Int) = k ∧ szP zs zs.length = true := by
  unfold szOk at h
  rw [Bool.and_eq_true] at h
  exact ⟨of_decide_eq_true h.1, h.2⟩
theorem ret_sized {fn : Func} {p u : Tmp} (h : fn.results = #[.cell p 56, .tmp u]) {tmps : Array Value} {w : World} {R : Ending → World → Prop} {g : Nat} {t : TypeId} {cs : Array Value} (hs : (Tryd.prog.info? 56).map (·.size) = some cs.size) {d : List Deferred}
    (hp : tmps.getD p undef = .pointer (some ⟨g, 0, none⟩)) (hg : Blk w g cs t) (hd : d = []) {v : Value} (hv : v = .tuple #[.agg cs, tmps.getD u undef]) (hR : R (.returned v) w) :
    bodyPost Tryd.prog fn R .ret ⟨tmps, d⟩ w := by
  subst hv
  exact bodyPost_ret (results_row_tmp h tmps w g t _ _ hp hg Tryd.underlying56 rfl hs) hd hR
set_option maxRecDepth 100000 in
set_option maxHeartbeats 4000000 in
theorem ea47 (lim n k : Int) (bs : List Nat) (hb : Bys bs) (zs : List Int) (a : Option Addr) (cap : Nat) (e0 : Addr) (w : World) (hs : SlI w a zs) (hl : zs.length ≤ 1048576) (hE : Er w e0) :
    Calls Tryd.prog 47 #[.agg (ccells n k bs).toArray, .slice a zs.length cap, .int .i64 lim] w fun e w' => e = .returned (.tuple #[.agg (eaS lim n k bs zs a cap).toArray, .int .i64 (eaC lim n k bs zs)]) ∧ Below w.heap.size w w' := by
  have Hz := zero56
  have HS := hidd (size_c26 n k hb)
  have HSL := hidd hs
  have HE := hidd hE
  have HEN := hidd (fun W h hE => enter58 n k bs hb zs a cap e0 W h hl hE)
  have HZ5 := hidd (size_s56 (n := 0) (k := 0) zbl_bys none 0 0)
  have HZ1 := hidd (scl_one (n := 0) (k := 0) (bs := zbl) (a := none) (l := 0) (c := 0))
  have HC0 := hidd (show (ccells n k bs).toArray[0]? = some (.int .i64 n) from rfl)
  obtain ⟨W2, hW2⟩ : ∃ W2, W2 = (w.alloc (.cells (ccells n k bs).toArray 28)).alloc (.cells (scl 0 0 zbl none 0 0).toArray 56) := ⟨_, rfl⟩
  have g1 : Blk W2 w.heap.size (ccells n k bs).toArray 28 := by rw [hW2]; exact (Blk.new _ _ _ _ rfl).alloc _
  have g2 : Blk W2 (w.heap.size + 1) (scl 0 0 zbl none 0 0).toArray 56 := by rw [hW2]; exact Blk.new _ _ _ _ (by simp)
  have g3 : Below w.heap.size w W2 := by rw [hW2]; exact ((Below.refl _ _).alloc (Nat.le_refl _) _).alloc (by simp) _
  have G := hidd (And.intro g1 (And.intro g2 g3))
  clear g1 g2 g3 hs hE
  -- what enter gave
  obtain ⟨D, hD⟩ : ∃ D, D = (enS n k bs zs a cap).toArray := ⟨_, rfl⟩
  obtain ⟨cd, hcd⟩ : ∃ cd, cd = szCode n k bs zs := ⟨_, rfl⟩
  have hDs : (Tryd.prog.info? 56).map (·.size) = some D.size ∧ (scl 0 0 zbl none 0 0).toArray.size = D.size ∧ D.all (·.oneCell') = true := by
    rw [hD]; unfold enS
    split
    · exact ⟨size_s56 hb _ _ _, by simp [scl_len zbl_bys, scl_len hb], scl_one⟩
    · exact ⟨size_s56 zbl_bys _ _ _, rfl, scl_one⟩
  have HD := hidd hDs
  rw [← hD, ← hcd] at HEN
  have HJ := hidd (fun (W1 : World) (hb1 : Below W2.heap.size W2 W1) =>
    (show Blk (W1.alloc (.cells (scl 0 0 zbl none 0 0).toArray 56)) W1.heap.size (scl 0 0 zbl none 0 0).toArray 56 ∧
        Blk ((W1.alloc (.cells (scl 0 0 zbl none 0 0).toArray 56)).setRow W1.heap.size D) W1.heap.size D 56 ∧
        Blk ((W1.alloc (.cells (scl 0 0 zbl none 0 0).toArray 56)).setRow W1.heap.size D) w.heap.size (ccells n k bs).toArray 28 ∧
        Blk ((W1.alloc (.cells (scl 0 0 zbl none 0 0).toArray 56)).setRow W1.heap.size D) (w.heap.size + 1) (scl 0 0 zbl none 0 0).toArray 56 ∧
        Below w.heap.size w ((W1.alloc (.cells (scl 0 0 zbl none 0 0).toArray 56)).setRow W1.heap.size D) from by
      have k1 := G.out.1.below hb1 G.out.1.lt
      have k2 := G.out.2.1.below hb1 G.out.2.1.lt
      have hlt := k2.lt
      have k3 := G.out.2.2.trans (hb1.mono G.out.2.2.size)
      have k4 : Blk (W1.alloc (.cells (scl 0 0 zbl none 0 0).toArray 56)) W1.heap.size (scl 0 0 zbl none 0 0).toArray 56 := Blk.new _ _ _ _ rfl
      exact ⟨k4, k4.rowSame _, (k1.alloc _).rowOther _ _ (by omega), (k2.alloc _).rowOther _ _ (by omega), below_setRow (k3.alloc (by omega) _) (by omega) _⟩))
  clear hDs
  by_cases hc0 : szCode n k bs zs = 0
  · obtain ⟨hi, ho⟩ := szCode_ok hc0
    obtain ⟨n1, n2, k1, k2⟩ := isCol_bd hi
    obtain ⟨hlk, hsp⟩ := szOk_bd ho
    obtain ⟨N, rfl⟩ := Int.eq_ofNat_of_zero_le (show 0 ≤ n by omega)
    obtain ⟨K, rfl⟩ := Int.eq_ofNat_of_zero_le (show 0 ≤ k by omega)
    have hlK : zs.length = K := by omega
    have hDe : D = (scl (N : Int) (K : Int) bs a K cap).toArray := by rw [hD, enS_ok hc0, hlK]
    have HAV := hidd (fun W h => avoids50 N K bs hb zs a cap W h hlK (by omega) (by omega) (by omega) (by rw [← hlK]; exact hsp))
    rw [← hDe] at HAV
    obtain ⟨av, hav⟩ : ∃ av, av = avP N bs zs K := ⟨_, rfl⟩
    rw [← hav] at HAV
    have hav' : avP (N : Int).toNat bs zs (K : Int).toNat = av := hav.symm
    have hcd0 : cd = 0 := hcd.trans hc0
    have HSC := hidd hc0
    have HDE := hidd hDe
    rw [hlK] at HEN
    cases av with
    | false =>
      have hea := eaC_5 (lim := lim) hc0 hav'
      have hes : eaS lim (N : Int) (K : Int) bs zs a cap = scl 0 0 zbl none 0 0 := by unfold eaS; rw [if_neg (by rw [hea]; omega)]
      rw [hea, hes, hlK]
      clear hea hes hav hav' hDe hD hcd hc0 hi ho hlk hsp hlK hl hb
      subst hcd0
      go_enter Tryd.func47, Tryd.ntmps47
      go_upto_region 1 with fail
      rw [← hW2]
      clear hW2
      go_wp2_with (refine wpList_load_row rfl 28 (.tmp 3) rfl w.heap.size rfl 28 _ (0,0) _ G.out.1 Tryd.underlying28 rfl HS.out ?_)
      refine (HEN.out _ (HSL.out.below G.out.2.2 (Nat.le_refl _)) (HE.out.below G.out.2.2 HE.out.lt)).mono ?_
      rintro e w1 ⟨rfl, hb1⟩
      have J := hidd (HJ.out w1 hb1)
      obtain ⟨W4, hW4⟩ : ∃ W4, W4 = (w1.alloc (.cells (scl 0 0 zbl none 0 0).toArray 56)).setRow w1.heap.size D := ⟨_, rfl⟩
      have J2 := hidd J.out.1
      have J3 := hidd J.out.2
      rw [← hW4] at J3
      clear J hb1
      go_upto_region 2 with (first
        | (refine wpList_store_row rfl 56 (.tmp 8) (.tmp 14) rfl w1.heap.size _ rfl rfl 56 _ J2.out HD.out.1 HD.out.2.1 HD.out.2.2 ?_))
      rw [← hW4]
      clear hW4
      go_wp2_with (first
        | (refine wpList_load_row rfl 56 (.tmp 8) rfl w1.heap.size rfl 56 _ (0,0) _ J3.out.1 Tryd.underlying56 rfl HD.out.1 ?_))
      refine (HAV.out _ (HSL.out.below J3.out.2.2.2 (Nat.le_refl _))).mono ?_
      rintro e w5 ⟨rfl, hb5⟩
      have L := hidd (And.intro (J3.out.2.2.1.below hb5 J3.out.2.2.1.lt) (And.intro ((J3.out.2.2.1.below hb5 J3.out.2.2.1.lt).rowSame (scl 0 0 zbl none 0 0).toArray) (below_setRow (J3.out.2.2.2.trans (hb5.mono J3.out.2.2.2.size)) (show w.heap.size ≤ w.heap.size + 1 by omega) (scl 0 0 zbl none 0 0).toArray)))
      clear hb5
      go_wp2_with (first
        | (refine wpList_zero56 rfl rfl ?_)
        | (refine wpList_store_row rfl 56 (.tmp 6) (.tmp 25) rfl (w.heap.size + 1) _ rfl rfl 56 _ L.out.1 HZ5.out rfl HZ1.out ?_))
      exact ret_sized rfl HZ5.out rfl L.out.2.1 rfl rfl ⟨rfl, L.out.2.2⟩
    | true =>
      by_cases hlim : lim < (N : Int)
      · have hea := eaC_3 (lim := lim) hc0 hav' hlim
        have hes : eaS lim (N : Int) (K : Int) bs zs a cap = scl 0 0 zbl none 0 0 := by unfold eaS; rw [if_neg (by rw [hea]; omega)]
        have hlimI : decide (lim < (N : Int)) = true := decide_eq_true hlim
        rw [hea, hes, hlK]
        clear hea hes hav hav' hDe hD hcd hc0 hi ho hlk hsp hlK hl hb
        subst hcd0
        go_enter Tryd.func47, Tryd.ntmps47
        go_upto_region 1 with fail
        rw [← hW2]
        clear hW2
        go_wp2_with (refine wpList_load_row rfl 28 (.tmp 3) rfl w.heap.size rfl 28 _ (0,0) _ G.out.1 Tryd.underlying28 rfl HS.out ?_)
        refine (HEN.out _ (HSL.out.below G.out.2.2 (Nat.le_refl _)) (HE.out.below G.out.2.2 HE.out.lt)).mono ?_
        rintro e w1 ⟨rfl, hb1⟩
        have J := hidd (HJ.out w1 hb1)
        obtain ⟨W4, hW4⟩ : ∃ W4, W4 = (w1.alloc (.cells (scl 0 0 zbl none 0 0).toArray 56)).setRow w1.heap.size D := ⟨_, rfl⟩
        have J2 := hidd J.out.1
        have J3 := hidd J.out.2
        rw [← hW4] at J3
        clear J hb1
        go_upto_region 2 with (first
          | (refine wpList_store_row rfl 56 (.tmp 8) (.tmp 14) rfl w1.heap.size _ rfl rfl 56 _ J2.out HD.out.1 HD.out.2.1 HD.out.2.2 ?_))
        rw [← hW4]
        clear hW4
        go_wp2_with (first
          | (refine wpList_load_row rfl 56 (.tmp 8) rfl w1.heap.size rfl 56 _ (0,0) _ J3.out.1 Tryd.underlying56 rfl HD.out.1 ?_))
        refine (HAV.out _ (HSL.out.below J3.out.2.2.2 (Nat.le_refl _))).mono ?_
        rintro e w5 ⟨rfl, hb5⟩
        have L0 := J3.out.2.1.below hb5 J3.out.2.1.lt
        have c0 := L0.cell HC0.out
        have L := hidd (And.intro (J3.out.2.2.1.below hb5 J3.out.2.2.1.lt) (And.intro ((J3.out.2.2.1.below hb5 J3.out.2.2.1.lt).rowSame (scl 0 0 zbl none 0 0).toArray) (below_setRow (J3.out.2.2.2.trans (hb5.mono J3.out.2.2.2.size)) (show w.heap.size ≤ w.heap.size + 1 by omega) (scl 0 0 zbl none 0 0).toArray)))
        clear hb5 L0
        go_wp2_with (first
          | (refine wpList_zero56 rfl rfl ?_)
          | (refine wpList_store_row rfl 56 (.tmp 6) (.tmp 31) rfl (w.heap.size + 1) _ rfl rfl 56 _ L.out.1 HZ5.out rfl HZ1.out ?_))
        exact ret_sized rfl HZ5.out rfl L.out.2.1 rfl rfl ⟨rfl, L.out.2.2⟩
      · have hea := eaC_0 (lim := lim) hc0 hav' hlim
        have hes : eaS lim (N : Int) (K : Int) bs zs a cap = scl (N : Int) (K : Int) bs a K cap := by unfold eaS; rw [if_pos hea, hlK]
        have hlimI : decide (lim < (N : Int)) = false := decide_eq_false hlim
        rw [hea, hes, hlK, ← hDe]
        clear hea hes hav hav' hDe hD hcd hc0 hi ho hlk hsp hlK hl hb
        subst hcd0
        go_enter Tryd.func47, Tryd.ntmps47
        go_upto_region 1 with fail
        rw [← hW2]
        clear hW2
        go_wp2_with (refine wpList_load_row rfl 28 (.tmp 3) rfl w.heap.size rfl 28 _ (0,0) _ G.out.1 Tryd.underlying28 rfl HS.out ?_)
        refine (HEN.out _ (HSL.out.below G.out.2.2 (Nat.le_refl _)) (HE.out.below G.out.2.2 HE.out.lt)).mono ?_
        rintro e w1 ⟨rfl, hb1⟩
        have J := hidd (HJ.out w1 hb1)
        obtain ⟨W4, hW4⟩ : ∃ W4, W4 = (w1.alloc (.cells (scl 0 0 zbl none 0 0).toArray 56)).setRow w1.heap.size D := ⟨_, rfl⟩
        have J2 := hidd J.out.1
        have J3 := hidd J.out.2
        rw [← hW4] at J3
        clear J hb1
        go_upto_region 2 with (first
          | (refine wpList_store_row rfl 56 (.tmp 8) (.tmp 14) rfl w1.heap.size _ rfl rfl 56 _ J2.out HD.out.1 HD.out.2.1 HD.out.2.2 ?_))
        rw [← hW4]
        clear hW4
        go_wp2_with (first
          | (refine wpList_load_row rfl 56 (.tmp 8) rfl w1.heap.size rfl 56 _ (0,0) _ J3.out.1 Tryd.underlying56 rfl HD.out.1 ?_))
        refine (HAV.out _ (HSL.out.below J3.out.2.2.2 (Nat.le_refl _))).mono ?_
        rintro e w5 ⟨rfl, hb5⟩
        have L0 := J3.out.2.1.below hb5 J3.out.2.1.lt
        have c0 := L0.cell HC0.out
        have hlt1 := J3.out.2.2.1.lt
        have L := hidd (And.intro (J3.out.2.2.1.below hb5 J3.out.2.2.1.lt) (And.intro ((J3.out.2.2.1.below hb5 J3.out.2.2.1.lt).rowSame D) (And.intro (below_setRow (J3.out.2.2.2.trans (hb5.mono J3.out.2.2.2.size)) (show w.heap.size ≤ w.heap.size + 1 by omega) D) (J3.out.1.below hb5 J3.out.1.lt))))
        clear hb5 L0
        go_wp2_with (first
          | (refine wpList_load_row rfl 56 (.tmp 8) rfl w1.heap.size rfl 56 _ (0,0) _ L.out.2.2.2 Tryd.underlying56 rfl HD.out.1 ?_)
          | (refine wpList_store_row rfl 56 (.tmp 6) (.tmp 32) rfl (w.heap.size + 1) _ rfl rfl 56 _ L.out.1 HD.out.1 HD.out.2.1 HD.out.2.2 ?_))
        exact ret_sized rfl HD.out.1 rfl L.out.2.1 rfl rfl ⟨rfl, L.out.2.2.1⟩
  · have hea := eaC_bad (lim := lim) hc0
    have hes : eaS lim n k bs zs a cap = scl 0 0 zbl none 0 0 := by unfold eaS; rw [if_neg (by rw [hea]; exact hc0)]
    rw [hea, hes, ← hcd]
    rw [← hcd] at hc0
    have hz : (cd != 0) = true := by rw [bne_iff_ne]; exact hc0
    clear hea hes hD hcd hl hb hc0
    go_enter Tryd.func47, Tryd.ntmps47
    go_upto_region 1 with fail
    rw [← hW2]
    clear hW2
    go_wp2_with (refine wpList_load_row rfl 28 (.tmp 3) rfl w.heap.size rfl 28 _ (0,0) _ G.out.1 Tryd.underlying28 rfl HS.out ?_)
    refine (HEN.out _ (HSL.out.below G.out.2.2 (Nat.le_refl _)) (HE.out.below G.out.2.2 HE.out.lt)).mono ?_
    rintro e w1 ⟨rfl, hb1⟩
    have J := hidd (HJ.out w1 hb1)
    obtain ⟨W4, hW4⟩ : ∃ W4, W4 = (w1.alloc (.cells (scl 0 0 zbl none 0 0).toArray 56)).setRow w1.heap.size D := ⟨_, rfl⟩
    have J2 := hidd J.out.1
    have J3 := hidd J.out.2
    rw [← hW4] at J3
    clear J hb1
    go_upto_region 2 with (first
      | (refine wpList_store_row rfl 56 (.tmp 8) (.tmp 14) rfl w1.heap.size _ rfl rfl 56 _ J2.out HD.out.1 HD.out.2.1 HD.out.2.2 ?_))
    rw [← hW4]
    clear hW4
    have L := hidd (And.intro J3.out.2.2.1 (And.intro (J3.out.2.2.1.rowSame (scl 0 0 zbl none 0 0).toArray) (below_setRow J3.out.2.2.2 (show w.heap.size ≤ w.heap.size + 1 by omega) (scl 0 0 zbl none 0 0).toArray)))
    go_wp2_with (first
      | (refine wpList_zero56 rfl rfl ?_)
      | (refine wpList_store_row rfl 56 (.tmp 6) (.tmp 19) rfl (w.heap.size + 1) _ rfl rfl 56 _ L.out.1 HZ5.out rfl HZ1.out ?_))
    exact ret_sized rfl HZ5.out rfl L.out.2.1 rfl rfl ⟨rfl, L.out.2.2⟩
end Go.Proofs.YtckffliiidgilaaDoor
/- CountExtensions: what it answers; the program's count and the function. -/
namespace Go.Proofs.YtckffliiidgilaaDoor
set_option linter.unusedVariables false
set_option linter.unusedSimpArgs false
open Go Go.RowKit Go.Extern.Stop Go.Stop Go.Extern
theorem no1_of_av {N K : Nat} {bs : List Nat} {zs : List Int} (n1 : 1 ≤ N) (hsz : szP zs K = true) (hav : avP N bs zs K = true) : no1 zs K := by
  intro c hc
  have hin := inB_bd (szP_get hsz hc)
  by_cases h : zs.getD c 0 = 1
  · exfalso
    have h1 : (clqL bs (c : Int) N (zs.getD c 0).toNat).isEmpty = false := by
      rw [clqL_has, h]
      have : hasK (rwN bs (c : Int) N) N (1 : Int).toNat (2 ^ N - 1) = true := by
        refine hasK_of 1 _ [0] ⟨by simp, rfl, fun p hp => ?_, fun p hp q hq hne => ?_⟩
        · rw [List.mem_singleton] at hp
          subst hp
          exact ⟨by omega, by rw [Nat.testBit_two_pow_sub_one]; simp; omega⟩
        · rw [List.mem_singleton] at hp hq
          exact absurd (hp.trans hq.symm) hne
      rw [this]; rfl
    rw [avP_fall h1 hc] at hav
    cases hav
  · omega
/-- What the sum of the counts is. -/
def cnS (bs : List Nat) (N K : Nat) (zs : List Int) (j : Nat) : Nat := sm (fun d => pdN bs N K zs d (2 ^ N)) j
def ceV (n k : Int) (bs : List Nat) (zs : List Int) : Int := if eaC 12 n k bs zs = 0 then (cnS bs n.toNat k.toNat zs (n.toNat + 1) : Int) else 0
theorem ceV_bad {n k : Int} {bs : List Nat} {zs : List Int} (h : eaC 12 n k bs zs ≠ 0) : ceV n k bs zs = 0 := by unfold ceV; rw [if_neg h]
theorem cdL_get {bs : List Nat} {N K d : Nat} {zs : List Int} (h : d < N + 1) : (cdL bs N K zs).getD d 0 = (pdN bs N K zs d (2 ^ N) : Int) := by unfold cdL; rw [dgL_get h]
theorem cnS_bd {bs : List Nat} {N K j : Nat} {zs : List Int} (hN : N ≤ 12) (hK1 : 1 ≤ K) (hK : K ≤ 4) (hj : j ≤ 13) : cnS bs N K zs j ≤ 3659174697238528 := by
  have h3 : (2 : Nat) ^ N ≤ 2 ^ 12 := Nat.pow_le_pow_right (by decide) hN
  have h1 : cnS bs N K zs j ≤ j * 281474976710656 := sm_le j fun d _ => pd_bd hN hK1 hK d (by omega)
  have h2 : j * 281474976710656 ≤ 13 * 281474976710656 := Nat.mul_le_mul_right _ hj
  omega
theorem cnS_step (bs : List Nat) (N K j : Nat) (zs : List Int) : cnS bs N K zs (j + 1) = cnS bs N K zs j + pdN bs N K zs j (2 ^ N) := by unfold cnS; rw [sm]
set_option maxRecDepth 100000 in
set_option maxHeartbeats 4000000 in
theorem count53 (N K : Nat) (bs : List Nat) (hb : Bys bs) (zs : List Int) (a : Option Addr) (cap : Nat) (hl : zs.length = K) (n1 : 1 ≤ N) (hN12 : N ≤ 12) (hK1 : 1 ≤ K) (hK : K ≤ 4) (h2 : no1 zs K) (hsz : szP zs K = true) (w : World) (hs : SlI w a zs) :
    Calls Tryd.prog 53 #[.agg (scl (N : Int) (K : Int) bs a K cap).toArray] w fun r w' => r = .returned (.int .i64 (cnS bs N K zs (N + 1) : Int)) ∧ Below w.heap.size w w' := by
  have HCB := hidd (fun W h => cbd57 N K bs hb zs a cap hl n1 hN12 hK1 hK h2 hsz W h)
  have HSL := hidd hs
  have HS := hidd (size_s56 (n := (N : Int)) (k := (K : Int)) hb a K cap)
  obtain ⟨D, hD⟩ : ∃ D, D = N + 1 := ⟨_, rfl⟩
  have hD13 : D ≤ 13 := by omega
  obtain ⟨c, hc⟩ : ∃ c : Nat → Nat, c = fun d => pdN bs N K zs d (2 ^ N) := ⟨_, rfl⟩
  obtain ⟨s, hse⟩ : ∃ s : Nat → Nat, s = cnS bs N K zs := ⟨_, rfl⟩
  have HST := hidd (fun j => (show s (j + 1) = s j + c j by rw [hse, hc]; exact cnS_step _ _ _ _ _))
  have HBD := hidd (fun j (hj : j ≤ 13) => (show s j ≤ 3659174697238528 by rw [hse]; exact cnS_bd hN12 hK1 hK hj))
  have HS0 := hidd (show s 0 = 0 by rw [hse]; rfl)
  rw [show cdL bs N K zs = dgL (N + 1) c by rw [hc]; rfl, ← hD] at HCB
  rw [← hse, ← hD]
  obtain ⟨C, hC⟩ : ∃ C, C = (scl (N : Int) (K : Int) bs a K cap).toArray := ⟨_, rfl⟩
  rw [← hC] at HCB HS ⊢
  have G := hidd (show Blk (w.alloc (.cells C 56)) w.heap.size C 56 ∧ Below w.heap.size w (w.alloc (.cells C 56)) from ⟨Blk.new _ _ _ _ rfl, (Below.refl _ _).alloc (Nat.le_refl _) _⟩)
  clear hC hs hc hse hD h2 hsz hb hl
  go_enter Tryd.func53, Tryd.ntmps53
  go_wp2_with (refine wpList_load_row rfl 56 (.tmp 1) rfl w.heap.size rfl 56 _ (0,0) _ G.out.1 Tryd.underlying56 rfl HS.out ?_)
  refine (HCB.out _ (HSL.out.below G.out.2 (Nat.le_refl _))).mono ?_
  rintro r w2 ⟨g, rfl, hg, kg, hb2⟩
  have G2 := hidd (And.intro kg (G.out.2.trans (hb2.mono G.out.2.size)))
  clear hb2 kg
  go_wp2_with fail
  go_loopw [3, 9] (fun v e wr => ∃ j : Nat, j ≤ D ∧ v = .int .i64 (s j : Int) ∧ e = .int .i64 (j : Int) ∧ w2 = wr) (fun _ e _ => D - (intOf e).toNat)
  case atStart => exact ⟨0, Nat.zero_le _, by rw [HS0.out]; rfl, rfl, rfl⟩
  case round =>
  obtain ⟨j, hj, rfl, rfl, hww⟩ := hrel
  obtain rfl : w2 = wr := hww
  by_cases hlt : j < D
  · have hltI : decide ((j : Int) < (D : Int)) = true := by simp; omega
    have cj := dg_cell G2.out.1 hlt
    have h1 := HBD.out j (by omega)
    have h2 := HBD.out (j + 1) (by omega)
    have h3 := HST.out j
    obtain ⟨x, hx⟩ : ∃ x, x = c j := ⟨_, rfl⟩
    obtain ⟨y, hy⟩ : ∃ y, y = s j := ⟨_, rfl⟩
    rw [← hx, ← hy] at h3
    rw [← hx] at cj
    rw [← hy] at h1 ⊢
    have hsum : IntKind.i64.wrap ((y : Int) + (x : Int)) = (y : Int) + (x : Int) := IntWalk.i64_in _ (by omega)
    have hsum2 : wrap64 ((y : Int) + (x : Int)) = (y : Int) + (x : Int) := IntWalk.wrap64_in _ ⟨by omega, by omega⟩
    have H3 := hidd h3
    clear hx hy h3 h1 h2
    go_wp2_with fail
    go_roundw
    case rel => exact ⟨j + 1, by omega, by rw [H3.out]; go_num, by go_num, trivial⟩
    case measure => simp [intOf]; omega
  · have hltI : decide ((j : Int) < (D : Int)) = false := by simp; omega
    have hje : j = D := by omega
    subst hje
    go_wp2_with fail
    go_ret
    exact ⟨rfl, G2.out.2⟩
set_option maxRecDepth 100000 in
set_option maxHeartbeats 4000000 in
theorem impl19 (n k : Int) (bs : List Nat) (hb : Bys bs) (zs : List Int) (a : Option Addr) (cap : Nat) (e0 : Addr) (w : World) (hs : SlI w a zs) (hl : zs.length ≤ 1048576) (hE : Er w e0) :
    Calls Tryd.prog 19 #[.agg (ccells n k bs).toArray, .slice a zs.length cap] w fun e w' => e = .returned (.tuple #[.int .i64 (ceV n k bs zs), .int .i64 (eaC 12 n k bs zs)]) ∧ Below w.heap.size w w' := by
  have Hz := zero56
  have HS := hidd (size_c26 n k hb)
  have HSL := hidd hs
  have HE := hidd hE
  have HEN := hidd (fun W h hE => ea47 12 n k bs hb zs a cap e0 W h hl hE)
  have HG := hidd (And.intro (Blk.new w (ccells n k bs).toArray 28 _ rfl) ((Below.refl w.heap.size w).alloc (Nat.le_refl _) (.cells (ccells n k bs).toArray 28)))
  obtain ⟨W0, hW0⟩ : ∃ W0, W0 = w.alloc (.cells (ccells n k bs).toArray 28) := ⟨_, rfl⟩
  rw [← hW0] at HG
  obtain ⟨D, hD⟩ : ∃ D, D = (eaS 12 n k bs zs a cap).toArray := ⟨_, rfl⟩
  obtain ⟨cd, hcd⟩ : ∃ cd, cd = eaC 12 n k bs zs := ⟨_, rfl⟩
  have hDs : (Tryd.prog.info? 56).map (·.size) = some D.size ∧ (scl 0 0 zbl none 0 0).toArray.size = D.size ∧ D.all (·.oneCell') = true := by
    rw [hD]; unfold eaS
    split
    · exact ⟨size_s56 hb _ _ _, by simp [scl_len zbl_bys, scl_len hb], scl_one⟩
    · exact ⟨size_s56 zbl_bys _ _ _, rfl, scl_one⟩
  have HD := hidd hDs
  rw [← hD, ← hcd] at HEN
  have HJ := hidd (fun (W1 : World) (hb1 : Below W0.heap.size W0 W1) =>
    (show Blk (W1.alloc (.cells (scl 0 0 zbl none 0 0).toArray 56)) W1.heap.size (scl 0 0 zbl none 0 0).toArray 56 ∧
        Blk ((W1.alloc (.cells (scl 0 0 zbl none 0 0).toArray 56)).setRow W1.heap.size D) W1.heap.size D 56 ∧
        Blk ((W1.alloc (.cells (scl 0 0 zbl none 0 0).toArray 56)).setRow W1.heap.size D) w.heap.size (ccells n k bs).toArray 28 ∧
        Below w.heap.size w ((W1.alloc (.cells (scl 0 0 zbl none 0 0).toArray 56)).setRow W1.heap.size D) from by
      have k1 := HG.out.1.below hb1 HG.out.1.lt
      have hlt := k1.lt
      have k3 := HG.out.2.trans (hb1.mono HG.out.2.size)
      have k4 : Blk (W1.alloc (.cells (scl 0 0 zbl none 0 0).toArray 56)) W1.heap.size (scl 0 0 zbl none 0 0).toArray 56 := Blk.new _ _ _ _ rfl
      exact ⟨k4, k4.rowSame _, (k1.alloc _).rowOther _ _ (by omega), below_setRow (k3.alloc (by omega) _) (by omega) _⟩))
  clear hDs hs hE
  by_cases h0 : cd = 0
  · have hcd0 : eaC 12 n k bs zs = 0 := hcd.symm.trans h0
    obtain ⟨hsz, hav, hn12⟩ := eaC_ok hcd0
    obtain ⟨hi, ho⟩ := szCode_ok hsz
    obtain ⟨n1, n2, k1, k2⟩ := isCol_bd hi
    obtain ⟨hlk, hsp⟩ := szOk_bd ho
    obtain ⟨N, rfl⟩ := Int.eq_ofNat_of_zero_le (show 0 ≤ n by omega)
    obtain ⟨K, rfl⟩ := Int.eq_ofNat_of_zero_le (show 0 ≤ k by omega)
    have hlK : zs.length = K := by omega
    rw [hlK] at hsp
    have hv : ceV (N : Int) (K : Int) bs zs = (cnS bs N K zs (N + 1) : Int) := by unfold ceV; rw [if_pos hcd0]; rfl
    have hDe : D = (scl (N : Int) (K : Int) bs a K cap).toArray := by rw [hD]; unfold eaS; rw [if_pos hcd0, hlK]
    have HCN := hidd (fun W h => count53 N K bs hb zs a cap hlK (by omega) (by omega) (by omega) (by omega) (no1_of_av (by omega) hsp hav) hsp W h)
    rw [← hDe] at HCN
    rw [hv, ← hcd]
    rw [hlK] at HEN
    rw [hlK]
    obtain ⟨V, hV⟩ : ∃ V, V = cnS bs N K zs (N + 1) := ⟨_, rfl⟩
    rw [← hV] at HCN ⊢
    clear hv hD hcd hsz hav hi ho hlk hsp hcd0 hl hDe hV
    subst h0
    go_enter Tryd.func19, Tryd.ntmps19
    go_upto_region 1 with fail
    rw [← hW0]
    clear hW0
    go_wp2_with (refine wpList_load_row rfl 28 (.tmp 2) rfl w.heap.size rfl 28 _ (0,0) _ HG.out.1 Tryd.underlying28 rfl HS.out ?_)
    refine (HEN.out _ (HSL.out.below HG.out.2 (Nat.le_refl _)) (HE.out.below HG.out.2 HE.out.lt)).mono ?_
    rintro e w1 ⟨rfl, hb1⟩
    have J := hidd (HJ.out w1 hb1)
    clear hb1
    obtain ⟨W4, hW4⟩ : ∃ W4, W4 = (w1.alloc (.cells (scl 0 0 zbl none 0 0).toArray 56)).setRow w1.heap.size D := ⟨_, rfl⟩
    have J3 := hidd J.out.2
    rw [← hW4] at J3
    go_upto_region 2 with (refine wpList_store_row rfl 56 (.tmp 6) (.tmp 12) rfl w1.heap.size _ rfl rfl 56 _ (Blk.new _ _ _ _ rfl) HD.out.1 HD.out.2.1 HD.out.2.2 ?_)
    rw [← hW4]
    clear hW4
    go_wp2_with (refine wpList_load_row rfl 56 (.tmp 6) rfl w1.heap.size rfl 56 _ (0,0) _ J3.out.1 Tryd.underlying56 rfl HD.out.1 ?_)
    refine (HCN.out _ (HSL.out.below J3.out.2.2 (Nat.le_refl _))).mono ?_
    rintro e w5 ⟨rfl, hb5⟩
    have J5 := hidd (J3.out.2.2.trans (hb5.mono J3.out.2.2.size))
    clear hb5
    go_wp2_with fail
    go_ret2
    exact ⟨rfl, J5.out⟩
  · have hne : (cd != 0) = true := by rw [bne_iff_ne]; exact h0
    rw [ceV_bad (by rw [← hcd]; exact h0), ← hcd]
    clear hD hcd
    go_enter Tryd.func19, Tryd.ntmps19
    go_upto_region 1 with fail
    rw [← hW0]
    clear hW0
    go_wp2_with (refine wpList_load_row rfl 28 (.tmp 2) rfl w.heap.size rfl 28 _ (0,0) _ HG.out.1 Tryd.underlying28 rfl HS.out ?_)
    refine (HEN.out _ (HSL.out.below HG.out.2 (Nat.le_refl _)) (HE.out.below HG.out.2 HE.out.lt)).mono ?_
    rintro e w1 ⟨rfl, hb1⟩
    have J := hidd (HJ.out w1 hb1)
    clear hb1
    go_wp2_with (refine wpList_store_row rfl 56 (.tmp 6) (.tmp 12) rfl w1.heap.size _ rfl rfl 56 _ (Blk.new _ _ _ _ rfl) HD.out.1 HD.out.2.1 HD.out.2.2 ?_)
    go_ret2
    exact ⟨rfl, J.out.2.2.2⟩
end Go.Proofs.YtckffliiidgilaaDoor
/- The model's list of extensions: as many of all of them as are asked for, in order; how many there are. -/
namespace Go.Proofs.YtckffliiidgilaaDoor
set_option linter.unusedVariables false
set_option linter.unusedSimpArgs false
open Go Go.RowKit
/-- All ways to go on, in order. -/
def exL (ok : Nat → Nat → Nat → Bool) (K N : Nat) : Nat → (Nat → Nat) → List Int → List (List Int)
  | 0, _, cs => [cs]
  | r + 1, s, cs => (List.range K).flatMap fun c => if ok c (N - (r + 1)) (s c) = true then exL ok K N r (setF s c (s c ||| 2 ^ (N - (r + 1)))) (cs ++ [(c : Int)]) else []
/-- Those with one of the first c colours. -/
def pfE (ok : Nat → Nat → Nat → Bool) (K N r : Nat) (s : Nat → Nat) (cs : List Int) (c : Nat) : List (List Int) :=
  (List.range c).flatMap fun c => if ok c (N - (r + 1)) (s c) = true then exL ok K N r (setF s c (s c ||| 2 ^ (N - (r + 1)))) (cs ++ [(c : Int)]) else []
section
variable {ok : Nat → Nat → Nat → Bool} {K N r : Nat} {s : Nat → Nat} {cs : List Int}
theorem pfE_0 : pfE ok K N r s cs 0 = [] := rfl
theorem pfE_K : pfE ok K N r s cs K = exL ok K N (r + 1) s cs := rfl
theorem pfE_step (c : Nat) : pfE ok K N r s cs (c + 1) = pfE ok K N r s cs c ++ if ok c (N - (r + 1)) (s c) = true then exL ok K N r (setF s c (s c ||| 2 ^ (N - (r + 1)))) (cs ++ [(c : Int)]) else [] := by
  unfold pfE; rw [List.range_succ, List.flatMap_append]; simp
theorem pfE_no {c : Nat} (h : ok c (N - (r + 1)) (s c) = false) : pfE ok K N r s cs (c + 1) = pfE ok K N r s cs c := by
  rw [pfE_step, if_neg (by rw [h]; simp), List.append_nil]
theorem pfE_yes {c : Nat} (h : ok c (N - (r + 1)) (s c) = true) : pfE ok K N r s cs (c + 1) = pfE ok K N r s cs c ++ exL ok K N r (setF s c (s c ||| 2 ^ (N - (r + 1)))) (cs ++ [(c : Int)]) := by
  rw [pfE_step, if_pos h]
theorem pfE_pre (c : Nat) : ∀ d, c ≤ d → ∃ T, pfE ok K N r s cs d = pfE ok K N r s cs c ++ T
  | 0, h => ⟨[], by rw [Nat.le_zero.1 h]; simp⟩
  | d + 1, h => by
    by_cases e : c = d + 1
    · exact ⟨[], by rw [e]; simp⟩
    · obtain ⟨T, hT⟩ := pfE_pre c d (by omega)
      exact ⟨_, by rw [pfE_step, hT, List.append_assoc]⟩
/-- The loop may end as soon as there are enough. -/
theorem pfE_full {c M : Nat} (hc : c ≤ K) (h : M ≤ (pfE ok K N r s cs c).length) : (pfE ok K N r s cs c).take M = (exL ok K N (r + 1) s cs).take M := by
  obtain ⟨T, hT⟩ := pfE_pre (ok := ok) (K := K) (N := N) (r := r) (s := s) (cs := cs) c K hc
  rw [← pfE_K, hT, List.take_append_of_le_length h]
end
theorem exL_len {ok : Nat → Nat → Nat → Bool} {K N : Nat} : ∀ (r : Nat) (s : Nat → Nat) (cs : List Int), ∀ x ∈ exL ok K N r s cs, x.length = cs.length + r
  | 0, s, cs, x, hx => by
    rw [exL, List.mem_singleton] at hx; rw [hx]; rfl
  | r + 1, s, cs, x, hx => by
    rw [exL, List.mem_flatMap] at hx
    obtain ⟨c, _, hx⟩ := hx
    split at hx
    · rw [exL_len r _ _ x hx]; simp; omega
    · cases hx
/-- How many there are: what the counts add up to. -/
theorem dcn_sum {ok : Nat → Nat → Nat → Bool} {K N : Nat} (g : Nat → Nat → Nat) (D : Nat) : ∀ (r : Nat) (s : Nat → Nat), sm (fun d => dcn ok K N (g d) r s) D = dcn ok K N (fun T => sm (fun d => g d T) D) r s
  | 0, s => rfl
  | r + 1, s => by
    have hex : ∀ (f : Nat → Nat → Nat) (a b : Nat), sm (fun d => sm (fun c => f d c) b) a = sm (fun c => sm (fun d => f d c) a) b := fun f a b => by
      induction a with
      | zero =>
        have : ∀ b, sm (fun _ => 0) b = 0 := fun b => by
          induction b with
          | zero => rfl
          | succ b ih => rw [sm, ih]
        show 0 = _
        exact (this b).symm
      | succ a ih =>
        rw [sm, ih]
        have hadd : ∀ (f g : Nat → Nat) b, sm (fun c => f c + g c) b = sm f b + sm g b := fun f g b => by
          induction b with
          | zero => rfl
          | succ b ih => rw [sm, sm, sm, ih]; omega
        rw [← hadd]; rfl
    simp only [dcn]
    rw [hex]
    congr 1
    funext c
    by_cases h : ok c (N - (r + 1)) (s c) = true
    · simp only [if_pos h]
      exact dcn_sum g D r _
    · simp only [if_neg h]
      induction D with
      | zero => rfl
      | succ D ih => rw [sm, ih]
theorem dcn_one {ok : Nat → Nat → Nat → Bool} {K N : Nat} (hK : 1 ≤ K) {fin : Nat → Nat} (hf : ∀ T, T < 2 ^ N → fin T = 1) : ∀ (r : Nat), r ≤ N → ∀ (s : Nat → Nat) (cs : List Int), s 0 < 2 ^ (N - r) → dcn ok K N fin r s = (exL ok K N r s cs).length
  | 0, _, s, cs, h => by rw [dcn, exL, hf _ (by simpa using h)]; rfl
  | r + 1, hr, s, cs, h => by
    have key : ∀ c, c ≤ K → sm (fun c => if ok c (N - (r + 1)) (s c) = true then dcn ok K N fin r (setF s c (s c ||| 2 ^ (N - (r + 1)))) else 0) c = (pfE ok K N r s cs c).length := by
      intro c
      induction c with
      | zero => intro _; rfl
      | succ c ih =>
        intro hc
        rw [sm, ih (by omega), pfE_step, List.length_append]
        congr 1
        by_cases ho : ok c (N - (r + 1)) (s c) = true
        · rw [if_pos ho, if_pos ho]
          refine dcn_one hK hf r (by omega) _ _ ?_
          have h22 : 2 ^ (N - (r + 1)) < 2 ^ (N - r) := Nat.pow_lt_pow_right (by omega) (by omega)
          by_cases hc0 : 0 = c
          · rw [← hc0, setF_same]
            exact Nat.or_lt_two_pow (Nat.lt_trans h h22) h22
          · rw [setF_ne _ _ hc0]; exact Nat.lt_trans h h22
        · rw [if_neg ho, if_neg ho]; rfl
    exact key K (Nat.le_refl _)
theorem fnd_sum {T : Nat} : ∀ D, ones T < D → sm (fun d => fnd d T) D = 1
  | 0, h => by omega
  | D + 1, h => by
    rw [sm]
    by_cases e : ones T = D
    · have h0 : ∀ D', D' ≤ ones T → sm (fun d => fnd d T) D' = 0 := fun D' => by
        induction D' with
        | zero => intro _; rfl
        | succ D' ih => intro h'; rw [sm, ih (by omega)]; unfold fnd; rw [if_neg (by omega)]
      rw [h0 D (by omega)]; unfold fnd; rw [if_pos e]
    · rw [fnd_sum D (by omega)]; unfold fnd; rw [if_neg e]
/-- All extensions. -/
def exA (bs : List Nat) (N K : Nat) (zs : List Int) : List (List Int) := exL (okx bs N zs) K N N (fun _ => 0) []
theorem exA_len {bs : List Nat} {N K : Nat} {zs : List Int} (hN : N ≤ 17) (hK : 1 ≤ K) (h2 : no1 zs K) : (exA bs N K zs).length = cnS bs N K zs (N + 1) := by
  have h1 : cnS bs N K zs (N + 1) = sm (fun d => cdN bs N K zs d) (N + 1) := by
    unfold cnS; congr 1; funext d; exact (cd_pd hN hK h2 d).symm
  rw [h1]
  unfold cdN exA
  rw [dcn_sum fnd (N + 1) N (fun _ => 0)]
  exact (dcn_one hK (fun T hT => fnd_sum _ (by have := ones_N hT; omega)) N (Nat.le_refl _) _ _ (by simp)).symm
end Go.Proofs.YtckffliiidgilaaDoor
/- A scope in which the run jumps to its labels, inside a fence; what holds at each jump, and a measure. -/
namespace Go.Proofs.YtckffliiidgilaaDoor
set_option linter.unusedVariables false
set_option linter.unusedSimpArgs false
open Go Go.RowKit
/-- As Q; by a goto: J. -/
def jumpsTo (J : Nat → Act → World → Prop) (Q : Exit → Act → World → Prop) : Exit → Act → World → Prop
  | .goto l, a, w => J l a w
  | e, a, w => Q e a w
theorem wpIn_scope_jumps {P : Program} {F : Fence} {n : Nat} {a : Act} {w : World} {Q : Exit → Act → World → Prop} {c : Code} {ι : Type} (lab : ι → Nat) (rest : ι → Code) (J : ι → Act → World → Prop) (μ : ι → Nat) (hf : ∀ i, findLabel c (lab i) = some (rest i))
    (first : c.wpIn F n P (jumpsTo (fun l a w => ∃ i, lab i = l ∧ J i a w) Q) a w)
    (pass : ∀ i a w, J i a w → (rest i).wpIn F n P (jumpsTo (fun l a' w' => ∃ i', lab i' = l ∧ J i' a' w' ∧ μ i' < μ i) Q) a w) : (Code.scope c).wpIn F n P Q a w := by
  intro b k cs hro hb hr
  have hg : ∀ i, gotoIn (lab i) (.inScope c :: k) = some (.code (rest i) :: .inScope c :: k) := fun i => by simp [gotoIn, hf i]
  have hx : ∀ id, exitTo id (.inScope c :: k) = exitTo id k := fun id => by simp [exitTo]
  have h0 : (lone (b.atR a (.code (.scope c) :: k)) cs w).fenced P F := fenced_calm hb hr rfl
  have key : ∀ n' i a w, μ i = n' → J i a w → ∃ e a' w', Q e a' w' ∧ ArrivesIn (Machine.fenced P F) P (lone (b.atR a (.code (rest i) :: .inScope c :: k)) cs w) b k cs e a' w' := by
    intro n'
    induction n' using Nat.strongRecOn with
    | _ n' ih =>
      intro i a w hn hJ
      obtain ⟨e, a₁, w₁, hq, harr⟩ := pass i a w hJ b (.inScope c :: k) cs hro hb hr
      cases e with
      | normal => exact ⟨.normal, a₁, w₁, hq, StepsIn.trans harr (.one (fenced_calm hb hr rfl) stepR_inScope)⟩
      | exit id => exact ⟨.exit id, a₁, w₁, hq, fun k' hk => harr.1 k' (by rw [hx]; exact hk), fun h1 h2 => harr.2 h1 (by rw [hx]; exact h2)⟩
      | goto l' =>
        obtain ⟨i', rfl, hJ', hlt⟩ := hq
        obtain ⟨e₂, a₂, w₂, hq₂, harr₂⟩ := ih _ (by omega) i' a₁ w₁ rfl hJ'
        exact ⟨e₂, a₂, w₂, hq₂, .of_steps (harr.1 _ (hg i')) harr₂⟩
      | ret => exact ⟨_, a₁, w₁, hq, harr⟩
      | panic ch => exact ⟨_, a₁, w₁, hq, harr⟩
      | outgrown => exact ⟨_, a₁, w₁, hq, harr⟩
  obtain ⟨e, a₁, w₁, hq, harr⟩ := first b (.inScope c :: k) cs hro hb hr
  cases e with
  | normal => exact ⟨.normal, a₁, w₁, hq, .head h0 stepR_scope (StepsIn.trans harr (.one (fenced_calm hb hr rfl) stepR_inScope))⟩
  | exit id => exact ⟨.exit id, a₁, w₁, hq, .of_steps (.one h0 stepR_scope) ⟨fun k' hk => harr.1 k' (by rw [hx]; exact hk), fun h1 h2 => harr.2 h1 (by rw [hx]; exact h2)⟩⟩
  | goto l' =>
    obtain ⟨i', rfl, hJ'⟩ := hq
    obtain ⟨e₂, a₂, w₂, hq₂, harr₂⟩ := key _ i' a₁ w₁ rfl hJ'
    exact ⟨e₂, a₂, w₂, hq₂, .of_steps (.one h0 stepR_scope) (.of_steps (harr.1 _ (hg i')) harr₂)⟩
  | ret => exact ⟨_, a₁, w₁, hq, .of_steps (.one h0 stepR_scope) harr⟩
  | panic ch => exact ⟨_, a₁, w₁, hq, .of_steps (.one h0 stepR_scope) harr⟩
  | outgrown => exact ⟨_, a₁, w₁, hq, .of_steps (.one h0 stepR_scope) harr⟩
end Go.Proofs.YtckffliiidgilaaDoor
/- Ranges over a function that writes memory of its own between the rounds: what such a function promises, and the statement 'for .. range' over it. -/
namespace Go.Proofs.YtckffliiidgilaaDoor
set_option linter.unusedVariables false
set_option linter.unusedSimpArgs false
open Go Go.RowKit Go.Shelf
/-- All blocks lie as they lay, but for those from B to D. -/
def Away (B D : Nat) (A A' : World) : Prop := A'.os = A.os ∧ A'.tape = A.tape ∧ A'.output = A.output ∧ A.heap.size ≤ A'.heap.size ∧ ∀ k, k < A.heap.size → k < B ∨ D ≤ k → A'.heap[k]? = A.heap[k]?
theorem Away.of_below {B D : Nat} {A A' : World} (h : Below A.heap.size A A') : Away B D A A' := ⟨h.os, h.tape, h.output, h.size, fun k hk _ => h.block k hk⟩
theorem Away.trans {B D : Nat} {X Y Z : World} (h : Away B D X Y) (k : Away B D Y Z) : Away B D X Z :=
  ⟨k.1.trans h.1, k.2.1.trans h.2.1, k.2.2.1.trans h.2.2.1, Nat.le_trans h.2.2.2.1 k.2.2.2.1, fun i hi hb => (k.2.2.2.2 i (Nat.lt_of_lt_of_le hi h.2.2.2.1) hb).trans (h.2.2.2.2 i hi hb)⟩
theorem Away.down {B B' D : Nat} {A A' : World} (h : Away B D A A') (hB : B' ≤ B) : Away B' D A A' := ⟨h.1, h.2.1, h.2.2.1, h.2.2.2.1, fun k hk hb => h.2.2.2.2 k hk (hb.imp (fun e => Nat.lt_of_lt_of_le e hB) id)⟩
theorem Away.put {B D l : Nat} {A : World} (o : Obj) (h1 : B ≤ l) (h2 : l < D) : Away B D A (A.putObj l o) :=
  ⟨rfl, rfl, rfl, by simp, fun k _ hb => World.putObj_heap_other (fun e => by subst e; omega)⟩
theorem Away.set {B D : Nat} {A : World} (p : Addr) (u : Value) (h1 : B ≤ p.block) (h2 : p.block < D) : Away B D A (A.setCell p u) :=
  ⟨rfl, rfl, rfl, by simp [World.setCell], fun k _ hb => heap_setCell_other A p k u (by omega)⟩
theorem Away.blk {B D b : Nat} {A A' : World} {C : Array Value} {t : TypeId} (h : Away B D A A') (hb : Blk A b C t) (hk : b < B ∨ D ≤ b) : Blk A' b C t := (h.2.2.2.2 b hb.lt hk).trans hb
/-- What is said outlasts all that leaves the blocks outside B to D alone. -/
def StabD {β : Type} (B D : Nat) (J : β → World → Prop) : Prop := ∀ s A A', J s A → Away B D A A' → J s A'
/-- The blocks from B to D, and those that are named, lie as they lay. -/
def KxD (bs : List Nat) (B D : Nat) (W W' : World) : Prop := W.heap.size ≤ W'.heap.size ∧ ∀ k, k < W.heap.size → (B ≤ k ∧ k < D) ∨ k ∈ bs → W'.heap[k]? = W.heap[k]?
theorem KxD.trans {bs : List Nat} {B D : Nat} {X Y Z : World} (h : KxD bs B D X Y) (k : KxD bs B D Y Z) : KxD bs B D X Z :=
  ⟨Nat.le_trans h.1 k.1, fun i hi hb => (k.2 i (Nat.lt_of_lt_of_le hi h.1) hb).trans (h.2 i hi hb)⟩
theorem KxD.up {bs : List Nat} {B B' D : Nat} {X Y : World} (h : KxD bs B D X Y) (hB : B ≤ B') : KxD bs B' D X Y := ⟨h.1, fun i hi hb => h.2 i hi (hb.imp (fun e => ⟨Nat.le_trans hB e.1, e.2⟩) id)⟩
theorem KxD.of_below {bs : List Nat} {B D : Nat} {X Y : World} (h : Below X.heap.size X Y) : KxD bs B D X Y := ⟨h.size, fun i hi _ => h.block i hi⟩
theorem KxD.put {bs : List Nat} {B D l : Nat} {X : World} (o : Obj) (h1 : l < B) (h2 : ¬ l ∈ bs) : KxD bs B D X (X.putObj l o) :=
  ⟨by simp, fun i _ hb => World.putObj_heap_other (fun e => by subst e; rcases hb with hb | hb; omega; exact h2 hb)⟩
/-- What a function that hands out the elements of a list promises: its own memory lies from B to D; a round leaves that alone. -/
def GivesD {α : Type} (m : Nat) (g : Nat) (lb : Array Value) (Enc : α → Nat → Nat → World → Array Value → Prop) (bs : List Nat) (all : List α) (w : World) : Prop :=
  ∀ (l : Nat) (J Jx : Nat → List α → World → Prop) (W : World), w.heap.size ≤ W.heap.size → (∀ b, b ∈ bs → W.heap[b]? = w.heap[b]?) → (∀ D, StabD W.heap.size D (J D)) →
    (∀ D pre x rest args W1, W.heap.size ≤ D → D ≤ W1.heap.size → all = pre ++ x :: rest → J D pre W1 → Enc x W.heap.size D W1 args → YieldAt Fence.wide m Tryd.prog l args W1 fun e W' =>
      KxD bs W.heap.size D W1 W' ∧ ((e = .returned (.bool true) ∧ J D (pre ++ [x]) W') ∨ (e = .returned (.bool false) ∧ Jx D (pre ++ [x]) W'))) →
    (∀ D, J D [] W) →
    CallsIn Fence.wide (m + 1) Tryd.prog g (#[.func (.yield l) #[] #[]] ++ lb) W fun e W' => (∃ v, e = .returned v) ∧ ∃ D, W.heap.size ≤ D ∧ D ≤ W'.heap.size ∧ (J D all W' ∨ ∃ pre x rest, all = pre ++ x :: rest ∧ Jx D (pre ++ [x]) W')
/-- How a round ends. -/
def rndPostD {α : Type} (bs : List Nat) (B D : Nat) (I Ix : List α → World → Prop) (xs : List α) (W : World) : Exit → Act → World → Prop
  | .normal, _, W' => KxD bs B D W W' ∧ I xs W'
  | .ret, _, W' => KxD bs B D W W' ∧ Ix xs W'
  | _, _, _ => False
theorem range_givesD {α : Type} {g : Operand} {ps : Array Tmp} {assign body : Code} {Q : Exit → Act → World → Prop} {a : Act} {w : World} {m gf : Nat} {lb : Array Value}
    (hg : a.eval g = .func (.func gf) #[] lb) (eg : ∀ args w, (callFunc gf args).run Tryd.prog w = .ok (.enter gf args) w)
    {Enc : α → Nat → Nat → World → Array Value → Prop} {bs : List Nat} {all : List α} (hseq : GivesD m gf lb Enc bs all w) (hbs : ∀ b, b ∈ bs → b < w.heap.size) (hps : ∀ x B D W args, Enc x B D W args → args.size = ps.size)
    (I Ix : Nat → List α → World → Prop) (hI : ∀ D, StabD w.heap.size D (I D)) (hIx : ∀ D xs A l o o', Ix D xs A → w.heap.size ≤ l → l < D → A.heap[l]? = some o → o.isCells = false → Ix D xs (A.putObj l o')) (h0 : ∀ D, I D [] w)
    (Ax : α → Nat → Act → World → Prop) (hAx : ∀ x D a' A l o o', Ax x D a' A → A.heap[l]? = some o → o.isCells = false → Ax x D a' (A.putObj l o'))
    (hassign : ∀ (l D B : Nat) pre x rest (args : Array Value) (W : World) (K : Act → World → Prop), all = pre ++ x :: rest → I D pre W → w.heap.size ≤ B → B ≤ D → D ≤ W.heap.size → Enc x B D W args → (∀ a' W', Below W.heap.size W W' → Ax x D a' W' → K a' W') →
      assign.wpIn (Fence.wide.inRound l) m Tryd.prog (Exit.then K (fun _ _ _ => False)) { tmps := (ps.zip args).foldl (fun t (p, v) => t.setIfInBounds p v) a.tmps, defers := [] } W)
    (hbody : ∀ (l D : Nat) pre x rest (a' : Act) (W : World), all = pre ++ x :: rest → w.heap.size ≤ D → D ≤ W.heap.size → I D pre W → Ax x D a' W →
      body.wpIn (Fence.wide.inRound l) m Tryd.prog (rndPostD bs w.heap.size D (I D) (Ix D) (pre ++ [x]) W) a' W)
    (hdone : ∀ (Dd D : Nat) (W : World), w.heap.size ≤ Dd → w.heap.size ≤ D → D ≤ W.heap.size → I D all W → W.heap[Dd]? = some (.deferred (some [])) → Q .normal { a with defers := { target := .collected Dd, args := #[] } :: a.defers } W)
    (hstop : ∀ (Dd D : Nat) pre x rest (W : World), w.heap.size ≤ Dd → w.heap.size ≤ D → D ≤ W.heap.size → all = pre ++ x :: rest → Ix D (pre ++ [x]) W → W.heap[Dd]? = some (.deferred (some [])) →
      Code.ret.wpIn Fence.wide (m + 2) Tryd.prog Q { a with defers := { target := .collected Dd, args := #[] } :: a.defers } W) :
    (Code.rangeFunc g ps assign body).wpIn Fence.wide (m + 2) Tryd.prog Q a w := by
  refine wpIn_rangeFunc fun fn hfn => ?_
  have hlD : ¬ w.heap.size ∈ bs := fun h => by have := hbs _ h; omega
  have hlL : ¬ (w.heap.size + 1) ∈ bs := fun h => by have := hbs _ h; omega
  obtain ⟨st, hst⟩ : ∃ st : LoopState → Option Code → Loop, st = fun s p => { state := s, pending := p, fn, tmps := a.tmps, params := ps, assign, body, defers := w.heap.size } := ⟨_, rfl⟩
  obtain ⟨V, hV⟩ : ∃ V, V = (w.alloc (.deferred (some []))).alloc (.loop (st .ready none)) := ⟨_, rfl⟩
  have hVw : Below w.heap.size w V := by rw [hV]; exact ((Below.refl _ _).alloc (Nat.le_refl _) _).alloc (by simp) _
  have hVs : V.heap.size = w.heap.size + 2 := by rw [hV]; simp
  have hVl : V.heap[w.heap.size + 1]? = some (.loop (st .ready none)) := by
    rw [hV]; have := World.alloc_heap_new (w.alloc (.deferred (some []))) (.loop (st .ready none)); rwa [World.size_alloc] at this
  have hVd : V.heap[w.heap.size]? = some (.deferred (some [])) := by rw [hV]; exact (Below.heap_alloc _ _ _ (by simp)).trans (World.alloc_heap_new w _)
  -- the two blocks of the loop's own books
  obtain ⟨Bk, hBk⟩ : ∃ Bk : LoopState → Option Code → World → Prop, Bk = fun s p W => V.heap.size ≤ W.heap.size ∧ W.heap[w.heap.size + 1]? = some (.loop (st s p)) ∧ W.heap[w.heap.size]? = some (.deferred (some [])) := ⟨_, rfl⟩
  have bkBelow : ∀ s p A A', Bk s p A → Below V.heap.size A A' → Bk s p A' := fun s p A A' h hb => by
    rw [hBk] at h ⊢
    exact ⟨Nat.le_trans h.1 hb.size, (hb.block _ (by omega)).trans h.2.1, (hb.block _ (by omega)).trans h.2.2⟩
  have bkAway : ∀ s p D A A', Bk s p A → Away V.heap.size D A A' → Bk s p A' := fun s p D A A' h hb => by
    rw [hBk] at h ⊢
    exact ⟨Nat.le_trans h.1 hb.2.2.2.1, (hb.2.2.2.2 _ (by have := h.1; omega) (.inl (by omega))).trans h.2.1, (hb.2.2.2.2 _ (by have := h.1; omega) (.inl (by omega))).trans h.2.2⟩
  have bkKx : ∀ s p D A A', V.heap.size ≤ D → Bk s p A → KxD bs w.heap.size D A A' → Bk s p A' := fun s p D A A' hD h hb => by
    rw [hBk] at h ⊢
    exact ⟨Nat.le_trans h.1 hb.1, (hb.2 _ (by have := h.1; omega) (.inl ⟨by omega, by omega⟩)).trans h.2.1, (hb.2 _ (by have := h.1; omega) (.inl ⟨Nat.le_refl _, by omega⟩)).trans h.2.2⟩
  have bkPut : ∀ s p s' p' A, Bk s p A → Bk s' p' (A.putObj (w.heap.size + 1) (.loop (st s' p'))) := fun s p s' p' A h => by
    rw [hBk] at h ⊢
    exact ⟨by simpa using h.1, World.putObj_heap_same (by have := h.1; omega), (World.putObj_heap_other (by omega)).trans h.2.2⟩
  have xPut : ∀ {D xs A} {r : Loop} (o : Obj), V.heap.size ≤ D → A.heap[w.heap.size + 1]? = some (.loop r) → Ix D xs A → Ix D xs (A.putObj (w.heap.size + 1) o) := fun {D xs A r} o hD hl h => hIx D xs A _ _ o h (by omega) (by omega) hl rfl
  have iPut : ∀ {D xs A} (o : Obj), V.heap.size ≤ D → I D xs A → I D xs (A.putObj (w.heap.size + 1) o) := fun {D xs A} o hD h => hI D xs A _ h (Away.put o (by omega) (by omega))
  refine ⟨w.heap.size + 1, [{ target := .collected w.heap.size, args := #[] }], V, { target := .fn (.func gf) lb, args := #[.func (.yield (w.heap.size + 1)) #[] #[]] }, V, gf,
    #[.func (.yield (w.heap.size + 1)) #[] #[]] ++ lb, V, ?_, ?_, ?_, ?_, fun _ => by omega, ?_⟩
  · rw [hV, hst]; exact run_enterLoop_outer _ _ _ _ _
  · simp only [resolve, hg]
    simp [go_sem]
  · intro f' hf'; exact trivial
  · simp [invoke, go_sem, eg]
  · refine (hseq (w.heap.size + 1) (fun D xs W => I D xs W ∧ Bk .ready none W) (fun D xs W => Ix D xs W ∧ Bk .done (some .ret) W) V hVw.size (fun b hb => hVw.block b (hbs b hb))
      (fun D xs A A' h hb => ⟨hI D xs A A' h.1 (hb.down hVw.size), bkAway _ _ _ _ _ h.2 hb⟩) ?_ (fun D => ⟨hI D _ _ _ (h0 D) (Away.of_below hVw), by rw [hBk]; exact ⟨Nat.le_refl _, hVl, hVd⟩⟩)).mono ?_
    · rintro D pre x rest args W1 hVD hDW hall ⟨hi1, hb1⟩ henc
      have hl1 : W1.heap[w.heap.size + 1]? = some (.loop (st .ready none)) := by rw [hBk] at hb1; exact hb1.2.1
      have hs1 : V.heap.size ≤ W1.heap.size := by rw [hBk] at hb1; exact hb1.1
      have hy := run_yield (P := Tryd.prog) (args := args) hl1 (by rw [hst]; exact hps x _ _ _ _ henc)
      rw [hst] at hy
      refine ⟨fn, _, assign, body, hy, roundIn_of_wpIn hfn (hassign _ D V.heap.size pre x rest args W1 _ hall hi1 hVw.size hVD hDW henc ?_)⟩
      intro a2 W2 hw2 hax
      have hb2 := bkBelow _ _ _ _ hb1 (hw2.mono hs1)
      have hi2 := hI D _ _ _ hi1 (Away.of_below hw2)
      have hl2 : W2.heap[w.heap.size + 1]? = some (.loop (st .ready none)) := by rw [hBk] at hb2; exact hb2.2.1
      have hbeg := run_beginRound (P := Tryd.prog) hl2 (by rw [hst])
      have hbusy : ({ st .ready none with state := .busy } : Loop) = st .busy none := by rw [hst]
      rw [hbusy] at hbeg
      refine ⟨_, hbeg, ?_⟩
      refine wpIn_mono (hbody _ D pre x rest a2 _ hall (by omega) (by have := hw2.size; simp; omega) (iPut _ hVD hi2) (hAx x D a2 W2 _ _ _ hax hl2 rfl)) ?_
      have hb3 := bkPut _ _ .busy none _ hb2
      have kx1 : KxD bs V.heap.size D W1 (W2.putObj (w.heap.size + 1) (.loop (st .busy none))) := (KxD.of_below hw2).trans (KxD.put _ (by omega) hlL)
      have over : ∀ (jump : Option Code) (W3 : World), KxD bs w.heap.size D (W2.putObj (w.heap.size + 1) (.loop (st .busy none))) W3 →
          ∃ W4, (Instr.endRound (w.heap.size + 1) jump).run Tryd.prog W3 = .ok (.bool jump.isNone) W4 ∧ W4 = W3.putObj (w.heap.size + 1) (.loop (st (if jump.isNone then .ready else .done) jump)) ∧
            KxD bs V.heap.size D W1 W4 ∧ Bk (if jump.isNone then .ready else .done) jump W4 ∧ W3.heap[w.heap.size + 1]? = some (.loop (st .busy none)) := fun jump W3 h3 => by
        have hb4 := bkKx _ _ _ _ _ hVD hb3 h3
        have hl4 : W3.heap[w.heap.size + 1]? = some (.loop (st .busy none)) := by rw [hBk] at hb4; exact hb4.2.1
        have hend := run_endRound (P := Tryd.prog) jump hl4
        have hrec : ({ st .busy none with state := if jump.isNone then .ready else .done, pending := jump } : Loop) = st (if jump.isNone then .ready else .done) jump := by rw [hst]
        rw [hrec] at hend
        exact ⟨_, hend, rfl, (kx1.trans (h3.up hVw.size)).trans (KxD.put _ (by omega) hlL), bkPut _ _ _ _ _ hb4, hl4⟩
      rintro e a3 W3 hp
      cases e with
      | normal =>
        obtain ⟨W4, h1, h2, h3, h4, h5⟩ := over none W3 hp.1
        exact ⟨_, W4, h1, h3, .inl ⟨rfl, by rw [h2]; exact iPut _ hVD hp.2, h4⟩⟩
      | ret =>
        obtain ⟨W4, h1, h2, h3, h4, h5⟩ := over (some .ret) W3 hp.1
        exact ⟨_, W4, h1, h3, .inr ⟨rfl, by rw [h2]; exact xPut _ hVD h5 hp.2, h4⟩⟩
      | exit id => exact hp.elim
      | goto t => exact hp.elim
      | panic ch => exact hp.elim
      | outgrown => exact hp.elim
    · rintro e W2 ⟨⟨v, rfl⟩, D, hVD, hDW, h2⟩
      rcases h2 with ⟨hi, hb⟩ | ⟨pre, x, rest, hall, hi, hb⟩
      · rw [hBk] at hb
        have hend := run_endLoop (P := Tryd.prog) hb.2.1 (by rw [hst]; simp)
        rw [hst] at hend
        exact ⟨none, _, hend, hdone _ D _ (Nat.le_refl _) (by omega) (by simpa using hDW) (iPut _ hVD hi) ((World.putObj_heap_other (by omega)).trans hb.2.2)⟩
      · rw [hBk] at hb
        have hend := run_endLoop (P := Tryd.prog) hb.2.1 (by rw [hst]; simp)
        rw [hst] at hend
        exact ⟨some .ret, _, hend, hstop _ D pre x rest _ (Nat.le_refl _) (by omega) (by simpa using hDW) hall (xPut _ hVD hb.2.1 hi) ((World.putObj_heap_other (by omega)).trans hb.2.2)⟩
end Go.Proofs.YtckffliiidgilaaDoor
/- A scope with two labels, one jumped to from everywhere, the other run into from it. -/
namespace Go.Proofs.YtckffliiidgilaaDoor
set_option linter.unusedVariables false
set_option linter.unusedSimpArgs false
open Go Go.RowKit
theorem jumpsTo_mono {J J' : Nat → Act → World → Prop} {Q : Exit → Act → World → Prop} (h : ∀ l a w, J l a w → J' l a w) : ∀ e a w, jumpsTo J Q e a w → jumpsTo J' Q e a w := by
  intro e a w hq
  cases e with
  | goto l => exact h _ _ _ hq
  | _ => exact hq
theorem wpIn_scope_two {P : Program} {F : Fence} {n : Nat} {a : Act} {w : World} {Q : Exit → Act → World → Prop} {c R1 R0 : Code} {ι : Type} (hf1 : findLabel c 1 = some (.seq .skip R1)) (hf0 : findLabel c 0 = some (.seq .skip R0))
    (J1 J0 : ι → Act → World → Prop) (μ1 μ0 : ι → Nat)
    (back : ∀ i a w, J0 i a w → R0.wpIn F n P (jumpsTo (fun l a' w' => l = 1 ∧ ∃ i', J1 i' a' w' ∧ μ1 i' < μ0 i) Q) a w)
    (pass : ∀ i a w, J1 i a w → (∀ i0 a w, J0 i0 a w → μ0 i0 ≤ μ1 i → R0.wpIn F n P (jumpsTo (fun l a' w' => (l = 1 ∧ ∃ i', J1 i' a' w' ∧ μ1 i' < μ1 i) ∨ (l = 0 ∧ ∃ i', J0 i' a' w' ∧ μ0 i' < μ1 i)) Q) a w) →
      R1.wpIn F n P (jumpsTo (fun l a' w' => (l = 1 ∧ ∃ i', J1 i' a' w' ∧ μ1 i' < μ1 i) ∨ (l = 0 ∧ ∃ i', J0 i' a' w' ∧ μ0 i' < μ1 i)) Q) a w)
    (first : (∀ i a w, J1 i a w → R1.wpIn F n P (jumpsTo (fun l a' w' => (l = 1 ∧ ∃ i', J1 i' a' w') ∨ (l = 0 ∧ ∃ i', J0 i' a' w')) Q) a w) →
      c.wpIn F n P (jumpsTo (fun l a' w' => (l = 1 ∧ ∃ i', J1 i' a' w') ∨ (l = 0 ∧ ∃ i', J0 i' a' w')) Q) a w) : (Code.scope c).wpIn F n P Q a w := by
  have hp : ∀ i a w, J1 i a w → R1.wpIn F n P (jumpsTo (fun l a' w' => (l = 1 ∧ ∃ i', J1 i' a' w' ∧ μ1 i' < μ1 i) ∨ (l = 0 ∧ ∃ i', J0 i' a' w' ∧ μ0 i' < μ1 i)) Q) a w := fun i a w hJ =>
    pass i a w hJ fun i0 a0 w0 h0 hμ => wpIn_mono (back i0 a0 w0 h0) (jumpsTo_mono fun l a' w' ⟨hl, i', h1, h2⟩ => .inl ⟨hl, i', h1, Nat.lt_of_lt_of_le h2 hμ⟩)
  refine wpIn_scope_jumps (ι := Bool × ι) (fun i => if i.1 then 1 else 0) (fun i => .seq .skip (if i.1 then R1 else R0)) (fun i a w => if i.1 then J1 i.2 a w else J0 i.2 a w) (fun i => if i.1 then μ1 i.2 else μ0 i.2) (fun i => ?_) ?_ (fun i a w hJ => ?_)
  · obtain ⟨b, i⟩ := i
    cases b
    · exact hf0
    · exact hf1
  · refine wpIn_mono (first fun i a w hJ => wpIn_mono (hp i a w hJ) (jumpsTo_mono fun l a' w' h => ?_)) (jumpsTo_mono fun l a' w' h => ?_)
    · rcases h with ⟨hl, i', h1, _⟩ | ⟨hl, i', h1, _⟩
      · exact .inl ⟨hl, i', h1⟩
      · exact .inr ⟨hl, i', h1⟩
    · rcases h with ⟨rfl, i', h1⟩ | ⟨rfl, i', h1⟩
      · exact ⟨(true, i'), rfl, h1⟩
      · exact ⟨(false, i'), rfl, h1⟩
  · obtain ⟨b, i⟩ := i
    refine wpIn_seq (wpIn_skip ?_)
    cases b
    · refine wpIn_mono (back i a w hJ) ?_
      intro e a' w' hq
      cases e with
      | goto l =>
        obtain ⟨rfl, i', h1, h2⟩ := hq
        exact ⟨(true, i'), rfl, h1, h2⟩
      | _ => exact hq
    · refine wpIn_mono (hp i a w hJ) ?_
      intro e a' w' hq
      cases e with
      | goto l =>
        rcases hq with ⟨rfl, i', h1, h2⟩ | ⟨rfl, i', h1, h2⟩
        · exact ⟨(true, i'), rfl, h1, h2⟩
        · exact ⟨(false, i'), rfl, h1, h2⟩
      | _ => exact hq
end Go.Proofs.YtckffliiidgilaaDoor
/- The extensions, one behind the other: what has been given, what is left, and a number that falls. -/
namespace Go.Proofs.YtckffliiidgilaaDoor
set_option linter.unusedVariables false
set_option linter.unusedSimpArgs false
open Go Go.RowKit
theorem fm_congr {α β : Type} {f g : α → List β} : ∀ {L : List α}, (∀ x ∈ L, f x = g x) → L.flatMap f = L.flatMap g
  | [], _ => rfl
  | x :: L, h => by
    rw [List.flatMap_cons, List.flatMap_cons, h x List.mem_cons_self, fm_congr fun y hy => h y (List.mem_cons_of_mem _ hy)]
/-- A set of points may get a colour with the point n besides. -/
def okf (fr : Nat → Nat → Bool) (c n T : Nat) : Bool := fr c (T ||| 2 ^ n)
theorem exL_free {bs : List Nat} {N K : Nat} {zs : List Int} (h2 : no1 zs K) : ∀ (r : Nat), r ≤ N → ∀ (s : Nat → Nat) (cs : List Int), (∀ c, c < K → fre bs N zs c (s c) = true) → (∀ c, c < K → s c < 2 ^ (N - r)) → exL (okx bs N zs) K N r s cs = exL (okf (fre bs N zs)) K N r s cs
  | 0, _, s, cs, _, _ => rfl
  | r + 1, hr, s, cs, hf, hs => by
    unfold exL
    refine fm_congr fun c hc => ?_
    rw [List.mem_range] at hc
    have hT : s c < 2 ^ (N - (r + 1)) := hs c hc
    have e : okx bs N zs c (N - (r + 1)) (s c) = okf (fre bs N zs) c (N - (r + 1)) (s c) := fre_ok h2 c _ _ hc (by omega) hT (hf c hc)
    rw [e]
    by_cases ho : okf (fre bs N zs) c (N - (r + 1)) (s c) = true
    · rw [if_pos ho, if_pos ho]
      refine exL_free h2 r (by omega) _ _ (fun c' hc' => ?_) (fun c' hc' => ?_)
      · by_cases h : c' = c
        · rw [h, setF_same]; exact ho
        · rw [setF_ne _ _ h]; exact hf c' hc'
      · have h22 : 2 ^ (N - (r + 1)) < 2 ^ (N - r) := Nat.pow_lt_pow_right (by omega) (by omega)
        by_cases h : c' = c
        · rw [h, setF_same]; exact Nat.or_lt_two_pow (Nat.lt_trans hT h22) h22
        · rw [setF_ne _ _ h]; exact Nat.lt_trans (hs c' hc') h22
    · rw [if_neg ho, if_neg ho]
/-- The points by colour, when the colours have been given (the last one first). -/
def stO : List Nat → Nat → Nat
  | [] => fun _ => 0
  | d :: ds => setF (stO ds) d (stO ds d ||| 2 ^ ds.length)
def colI (ds : List Nat) : List Int := ds.reverse.map fun d : Nat => (d : Int)
theorem colI_len (ds : List Nat) : (colI ds).length = ds.length := by simp [colI]
theorem colI_cons (d : Nat) (ds : List Nat) : colI (d :: ds) = colI ds ++ [(d : Int)] := by simp [colI]
theorem stO_lt (ds : List Nat) (c : Nat) : stO ds c < 2 ^ ds.length := by
  induction ds with
  | nil => simp [stO]
  | cons d ds ih =>
    have h22 : 2 ^ ds.length < 2 ^ (ds.length + 1) := Nat.pow_lt_pow_right (by omega) (by omega)
    have hT : ∀ c, stO ds c < 2 ^ (ds.length + 1) → stO (d :: ds) c < 2 ^ (ds.length + 1) ∨ c = d := fun c h => by
      by_cases e : c = d
      · exact .inr e
      · left; unfold stO; rw [setF_ne _ _ e]; exact h
    show stO (d :: ds) c < 2 ^ (ds.length + 1)
    by_cases e : c = d
    · subst e
      have h1 : stO ds c < 2 ^ ds.length := ih
      unfold stO; rw [setF_same]
      exact Nat.or_lt_two_pow (Nat.lt_trans h1 h22) h22
    · unfold stO; rw [setF_ne _ _ e]; exact Nat.lt_trans ih h22
section
variable (ok : Nat → Nat → Nat → Bool) (K N : Nat)
/-- All that begin so. -/
def exX (ds : List Nat) : List (List Int) := exL ok K N (N - ds.length) (stO ds) (colI ds)
/-- Those of them whose next colour is at least c. -/
def exT (ds : List Nat) (c : Nat) : List (List Int) := ((List.range K).drop c).flatMap fun c' => if ok c' ds.length (stO ds c') = true then exX ok K N (c' :: ds) else []
/-- What is left behind them. -/
def exB : List Nat → List (List Int)
  | [] => []
  | d :: ds => exT ok K N ds (d + 1) ++ exB ds
end
section
variable {ok : Nat → Nat → Nat → Bool} {K N : Nat}
theorem exX_nil : exX ok K N [] = exL ok K N N (fun _ => 0) [] := rfl
theorem exX_full {ds : List Nat} (h : ds.length = N) : exX ok K N ds = [colI ds] := by unfold exX; rw [h, Nat.sub_self]; rfl
theorem exX_next {ds : List Nat} (h : ds.length < N) : exX ok K N ds = exT ok K N ds 0 := by
  unfold exX exT
  obtain ⟨r, hr⟩ : ∃ r, N - ds.length = r + 1 := ⟨N - ds.length - 1, by omega⟩
  have e : N - (r + 1) = ds.length := by omega
  rw [hr, exL, e]
  rw [List.drop_zero]
  refine fm_congr fun c hc => ?_
  by_cases ho : ok c ds.length (stO ds c) = true
  · rw [if_pos ho, if_pos ho]
    unfold exX
    rw [colI_cons, show N - (c :: ds).length = r by simp; omega]
    rfl
  · rw [if_neg ho, if_neg ho]
theorem exT_end {ds : List Nat} : exT ok K N ds K = [] := by unfold exT; rw [List.drop_eq_nil_of_le (by simp)]; rfl
theorem exT_step {ds : List Nat} {c : Nat} (h : c < K) : exT ok K N ds c = (if ok c ds.length (stO ds c) = true then exX ok K N (c :: ds) else []) ++ exT ok K N ds (c + 1) := by
  unfold exT
  rw [List.drop_eq_getElem_cons (by simpa using h)]
  simp
theorem exT_no {ds : List Nat} {c : Nat} (h : c < K) (ho : ok c ds.length (stO ds c) = false) : exT ok K N ds c = exT ok K N ds (c + 1) := by
  rw [exT_step h, if_neg (by rw [ho]; simp), List.nil_append]
theorem exT_yes {ds : List Nat} {c : Nat} (h : c < K) (ho : ok c ds.length (stO ds c) = true) : exT ok K N ds c ++ exB ok K N ds = exX ok K N (c :: ds) ++ exB ok K N (c :: ds) := by
  rw [exT_step h, if_pos ho, exB, List.append_assoc]
/-- What is left at a jump forward. -/
def exR (ok : Nat → Nat → Nat → Bool) (K N : Nat) (ds : List Nat) (c : Nat) : List (List Int) := (if ds.length = N then [colI ds] else exT ok K N ds c) ++ exB ok K N ds
theorem exR_full {ds : List Nat} {c : Nat} (h : ds.length = N) : exR ok K N ds c = colI ds :: exB ok K N ds := by unfold exR; rw [if_pos h]; rfl
theorem exR_in {ds : List Nat} {c : Nat} (h : ds.length < N) : exR ok K N ds c = exT ok K N ds c ++ exB ok K N ds := by unfold exR; rw [if_neg (by omega)]
theorem exR_new {ds : List Nat} (h : ds.length ≤ N) : exR ok K N ds 0 = exX ok K N ds ++ exB ok K N ds := by
  unfold exR
  by_cases e : ds.length = N
  · rw [if_pos e, exX_full e]
  · rw [if_neg e, exX_next (by omega)]
theorem exB_cons {d : Nat} {ds : List Nat} (h : ds.length < N) : exB ok K N (d :: ds) = exR ok K N ds (d + 1) := by rw [exR_in h]; rfl
end
/-- All extensions, as the program finds them. -/
theorem exA_f {bs : List Nat} {N K : Nat} {zs : List Int} (hN : N ≤ 17) (h2 : no1 zs K) : exA bs N K zs = exR (okf (fre bs N zs)) K N [] 0 := by
  rw [exR_new (Nat.zero_le _)]
  unfold exA
  rw [exX_nil, exL_free h2 N (Nat.le_refl _) _ _ (fun c hc => fre_empty hN h2 hc) (fun c hc => Nat.two_pow_pos _)]
  rw [show exB (okf (fre bs N zs)) K N [] = [] from rfl, List.append_nil]
/-- The number that grows. -/
def dgO (K : Nat) : List Nat → Nat
  | [] => 0
  | d :: ds => dgO K ds * (K + 1) + d
theorem dgO_lt {K : Nat} : ∀ ds : List Nat, (∀ d ∈ ds, d < K) → dgO K ds < (K + 1) ^ ds.length
  | [], _ => by simp [dgO]
  | d :: ds, h => by
    have h1 := dgO_lt ds (fun x hx => h x (List.mem_cons_of_mem _ hx))
    have h2 := h d List.mem_cons_self
    have h3 : (dgO K ds + 1) * (K + 1) ≤ (K + 1) ^ ds.length * (K + 1) := Nat.mul_le_mul_right _ h1
    rw [dgO, List.length_cons, Nat.pow_succ]
    rw [Nat.add_mul] at h3
    omega
def xvO (K N : Nat) (ds : List Nat) (c : Nat) : Nat := (dgO K ds * (K + 1) + c) * (K + 1) ^ (N - ds.length)
theorem xvO_down {K N c c0 : Nat} {ds : List Nat} (h : ds.length < N) (hc : c0 ≤ c) : xvO K N ds c0 ≤ xvO K N (c :: ds) 0 := by
  unfold xvO
  have e : (dgO K (c :: ds) * (K + 1) + 0) * (K + 1) ^ (N - (c :: ds).length) = (dgO K ds * (K + 1) + c) * (K + 1) ^ (N - ds.length) := by
    obtain ⟨q, hq⟩ : ∃ q, N - ds.length = q + 1 := ⟨N - ds.length - 1, by omega⟩
    rw [dgO, Nat.add_zero, List.length_cons, show N - (ds.length + 1) = q by omega, hq, Nat.pow_succ', Nat.mul_assoc]
  rw [e]
  exact Nat.mul_le_mul_right _ (by omega)
theorem xvO_up {K N c d : Nat} {ds : List Nat} (h : ds.length < N) (hc : c ≤ K) : xvO K N (d :: ds) c < xvO K N ds (d + 1) := by
  unfold xvO
  rw [dgO, List.length_cons]
  obtain ⟨q, hq⟩ : ∃ q, N - ds.length = q + 1 := ⟨N - ds.length - 1, by omega⟩
  rw [show N - (ds.length + 1) = q by omega, hq, Nat.pow_succ', ← Nat.mul_assoc]
  refine Nat.mul_lt_mul_of_pos_right ?_ (Nat.pow_pos (by omega))
  rw [← Nat.add_assoc, Nat.add_mul (dgO K ds * (K + 1) + d) 1 (K + 1)]
  omega
theorem xvO_le {K N d : Nat} {ds : List Nat} (h : ds.length ≤ N) (hd : ∀ d ∈ ds, d < K) (hk : d ≤ K) : xvO K N ds d ≤ (K + 1) ^ (N + 1) := by
  unfold xvO
  have h1 := dgO_lt ds hd
  have h3 : (dgO K ds + 1) * (K + 1) ≤ (K + 1) ^ ds.length * (K + 1) := Nat.mul_le_mul_right _ h1
  rw [Nat.add_mul] at h3
  have h4 : dgO K ds * (K + 1) + d ≤ (K + 1) ^ (ds.length + 1) := by rw [Nat.pow_succ]; omega
  have h5 : (K + 1) ^ (N + 1) = (K + 1) ^ (ds.length + 1) * (K + 1) ^ (N - ds.length) := by rw [← Nat.pow_add]; congr 1; omega
  rw [h5]
  exact Nat.mul_le_mul_right _ h4
/-- The number that falls: at a jump forward (true) or back (false). -/
def muO (K N : Nat) (f : Bool) (ds : List Nat) (c : Nat) : Nat := 2 * (((K + 1) ^ (N + 1) - xvO K N ds c) * (N + 1) + (N - ds.length)) + if f then 1 else 0
theorem muO_down {K N c c0 : Nat} {ds : List Nat} (h : ds.length < N) (hc : c0 ≤ c) : muO K N true (c :: ds) 0 < muO K N true ds c0 := by
  unfold muO
  have h1 := xvO_down (K := K) h hc
  have h2 : ((K + 1) ^ (N + 1) - xvO K N (c :: ds) 0) * (N + 1) ≤ ((K + 1) ^ (N + 1) - xvO K N ds c0) * (N + 1) := Nat.mul_le_mul_right _ (by omega)
  rw [List.length_cons]
  simp only [if_true]
  omega
theorem muO_leaf {K N : Nat} {ds : List Nat} : muO K N false ds 0 < muO K N true ds 0 := by unfold muO; simp
theorem muO_up {K N c d : Nat} {f : Bool} {ds : List Nat} (h : ds.length < N) (hc : c ≤ K) (hds : ∀ d ∈ ds, d < K) (hd : d < K) : muO K N true ds (d + 1) < muO K N f (d :: ds) c := by
  unfold muO
  have h1 := xvO_up (d := d) h hc
  have h2 := xvO_le (N := N) (d := d + 1) (by omega) hds (by omega)
  have h3 : ((K + 1) ^ (N + 1) - xvO K N ds (d + 1) + 1) * (N + 1) ≤ ((K + 1) ^ (N + 1) - xvO K N (d :: ds) c) * (N + 1) := Nat.mul_le_mul_right _ (by omega)
  rw [Nat.add_mul] at h3
  rw [List.length_cons]
  simp only [if_true]
  cases f <;> simp <;> omega
end Go.Proofs.YtckffliiidgilaaDoor
/- l05Count: the extensions that go on, counted by degree. -/
namespace Go.Proofs.YtckffliiidgilaaDoor
set_option linter.unusedVariables false
set_option linter.unusedSimpArgs false
open Go Go.RowKit Go.Shelf
theorem BgL.put {w : World} {g K c : Nat} {s : Nat → Nat} (h : BgL w (some ⟨g, 0, none⟩) (dgL K s)) (hc : c < K) (v : Nat) : BgL (w.setCell ⟨g, c, none⟩ (.int .i64 (v : Int))) (some ⟨g, 0, none⟩) (dgL K (setF s c v)) := by
  obtain ⟨g', C, h1, h2, h3, h4⟩ := h
  cases h1
  rw [dgL_len] at h3 h4
  refine ⟨g, C.setIfInBounds c (.int .i64 (v : Int)), rfl, h2.same c _, by rw [dgL_len]; simpa using h3, fun j hj => ?_⟩
  rw [dgL_len] at hj
  rw [Array.getElem?_setIfInBounds, dgL_get hj]
  by_cases e : c = j
  · subst e
    rw [if_pos rfl, if_pos (by omega), setF_same]
  · rw [if_neg e, setF_ne _ _ (fun x => e x.symm), h4 j hj, dgL_get hj]
theorem BgL.fro {w : World} {g : Nat} {zs : List Int} (h : BgL w (some ⟨g, 0, none⟩) zs) (j : Nat) : w.frozen? ⟨g, j, none⟩ = false := by
  obtain ⟨g', C, h1, h2, _⟩ := h
  cases h1
  exact h2.fro j
theorem BgL.lt {w : World} {g : Nat} {zs : List Int} (h : BgL w (some ⟨g, 0, none⟩) zs) : g < w.heap.size := by
  obtain ⟨g', C, h1, h2, _⟩ := h
  cases h1
  exact h2.lt
theorem BgL.far {w w' : World} {g : Nat} {zs : List Int} {row : Option Nat} (h : BgL w (some ⟨g, 0, none⟩) zs) (hg : w.grownBy w' row) (hne : some g ≠ row) : BgL w' (some ⟨g, 0, none⟩) zs := by
  obtain ⟨g', C, h1, h2, h3⟩ := h
  cases h1
  exact ⟨g, C, rfl, (hg.block g h2.lt hne).trans h2, h3⟩
theorem Blk.far {w w' : World} {b : Nat} {C : Array Value} {t : TypeId} {row : Option Nat} (h : Blk w b C t) (hg : w.grownBy w' row) (hne : some b ≠ row) : Blk w' b C t := (hg.block b h.lt hne).trans h
theorem grown_set {w w' : World} {row : Option Nat} (hg : w.grownBy w' row) {b : Nat} (hb : w.heap.size ≤ b ∨ row = some b) (o : Nat) (v : Value) : w.grownBy (w'.setCell ⟨b, o, none⟩ v) row :=
  ⟨hg.os, hg.tape, hg.output, by have := hg.size; simp [World.setCell]; omega, fun k hk hne => (heap_setCell_other w' ⟨b, o, none⟩ k v (by
    show k ≠ b
    rcases hb with h | h
    · omega
    · intro e; subst e; exact hne h.symm)).trans (hg.block k hk hne)⟩
theorem dg_cellL {w : World} {b M i : Nat} {f : Nat → Nat} (h : Blk w b (icells (dgL M f)).toArray 2) (hi : i < M) : w.cell? ⟨b, i, none⟩ = some (.int .i64 (f i : Int)) := by
  refine h.cell ?_
  have h1 := icells_get (zs := dgL M f) (j := i) (by rw [dgL_len]; exact hi)
  rw [dgL_get hi] at h1
  simpa using h1
/-- The memory that a call of the search is handed. -/
structure Lc (bs : List Nat) (N K : Nat) (zs : List Int) (bl off gs gc : Nat) (s f : Nat → Nat) (w : World) : Prop where
  zc : ∀ j, j < K → w.cell? ⟨bl, off + j, none⟩ = some (.int .i64 (zs.getD j 0))
  st : BgL w (some ⟨gs, 0, none⟩) (dgL K s)
  ct : Blk w gc (icells (dgL (N + 1) f)).toArray 2
  ns : gs ≠ gc
  nz : bl ≠ gc
set_option maxRecDepth 100000 in
set_option maxHeartbeats 4000000 in
theorem lcn_leaf (N K : Nat) (bs : List Nat) (hb : Bys bs) (zs : List Int) (bl off cap : Nat) (n1 : 1 ≤ N) (hN12 : N ≤ 12) (hK1 : 1 ≤ K) (s f : Nat → Nat) (gs cs gc : Nat) (w : World)
    (hL : Lc bs N K zs bl off gs gc s f w) (hs : s 0 < 2 ^ N) (hf : ∀ d, f d + 1 ≤ 4611686018427387904) :
    Calls Tryd.prog 82 #[.agg (ccells (N : Int) (K : Int) bs).toArray, .slice (some ⟨bl, off, none⟩) K cap, .int .i64 (N : Int), .slice (some ⟨gs, 0, none⟩) K cs, .slice (some ⟨gc, 0, none⟩) (N + 1) (N + 1)] w fun e w' => e = .returned (.tuple #[]) ∧
      Blk w' gc (icells (dgL (N + 1) (fun d => f d + fnd d (s 0)))).toArray 2 ∧ w.grownBy w' (some gc) := by
  have hs17 : s 0 < 2 ^ 17 := Nat.lt_of_lt_of_le hs (Nat.pow_le_pow_right (by decide) (by omega))
  have HO := hidd (fun W => ones65 (s 0) W (by omega))
  have hon : ones (s 0) ≤ N := by rw [ones_cnt hs]; exact cnt_le _ _
  have e0 := hL.st.cell (j := 0) (x := (s 0 : Int)) (by rw [dgL_len]; omega) (by rw [dgL_get (by omega)])
  have e1 := dg_cellL hL.ct (show ones (s 0) < N + 1 by omega)
  have e2 := hL.ct.fro (ones (s 0))
  have hfo := hf (ones (s 0))
  have HG := hidd (show Blk ((w.alloc (.cells (ccells (N : Int) (K : Int) bs).toArray 28)).setCell ⟨gc, ones (s 0), none⟩ (.int .i64 ((f (ones (s 0)) : Int) + 1))) gc (icells (dgL (N + 1) (fun d => f d + fnd d (s 0)))).toArray 2 ∧ w.grownBy ((w.alloc (.cells (ccells (N : Int) (K : Int) bs).toArray 28)).setCell ⟨gc, ones (s 0), none⟩ (.int .i64 ((f (ones (s 0)) : Int) + 1))) (some gc) from by
    have h1 := (hL.ct.alloc (.cells (ccells (N : Int) (K : Int) bs).toArray 28)).same (ones (s 0)) (.int .i64 ((f (ones (s 0)) + 1 : Nat) : Int))
    rw [icells_set, dgL_set] at h1
    rw [show ((f (ones (s 0)) : Int) + 1) = ((f (ones (s 0)) + 1 : Nat) : Int) by omega]
    refine ⟨?_, grown_set (below_grown ((Below.refl w.heap.size w).alloc (Nat.le_refl _) _) _) (.inr rfl) _ _⟩
    rw [show (fun d => f d + fnd d (s 0)) = (fun p => if p = ones (s 0) then f (ones (s 0)) + 1 else f p) from by
      funext d
      unfold fnd
      by_cases h : d = ones (s 0)
      · rw [if_pos h, if_pos h.symm, h]
      · rw [if_neg h, if_neg (fun x => h x.symm)]; rfl]
    exact h1)
  have a0 := (below_grown ((Below.refl w.heap.size w).alloc (Nat.le_refl _) (.cells (ccells (N : Int) (K : Int) bs).toArray 28)) none).block
  have c0 := (Blk.new w (ccells (N : Int) (K : Int) bs).toArray 28 _ rfl).cell (j := 0) (show _ = some (Value.int .i64 (N : Int)) from rfl)
  have e0' : (w.alloc (.cells (ccells (N : Int) (K : Int) bs).toArray 28)).cell? ⟨gs, 0, none⟩ = some (.int .i64 (s 0 : Int)) := by rw [World.cell?_of_block (a0 gs hL.st.lt (by simp))]; exact e0
  have e1' : (w.alloc (.cells (ccells (N : Int) (K : Int) bs).toArray 28)).cell? ⟨gc, ones (s 0), none⟩ = some (.int .i64 (f (ones (s 0)) : Int)) := by rw [World.cell?_of_block (a0 gc hL.ct.lt (by simp))]; exact e1
  have e2' : (w.alloc (.cells (ccells (N : Int) (K : Int) bs).toArray 28)).frozen? ⟨gc, ones (s 0), none⟩ = false := by rw [World.frozen?_of_block (a0 gc hL.ct.lt (by simp))]; exact e2
  obtain ⟨o, ho⟩ : ∃ o, o = ones (s 0) := ⟨_, rfl⟩
  obtain ⟨x, hx⟩ : ∃ x, x = s 0 := ⟨_, rfl⟩
  rw [← ho, ← hx] at HO
  rw [← ho] at HG e1' e2' hfo hon
  rw [← hx] at e0'
  obtain ⟨y, hy⟩ : ∃ y, y = f o := ⟨_, rfl⟩
  rw [← hy] at HG e1' hfo
  have hsum : IntKind.i64.wrap ((y : Int) + 1) = (y : Int) + 1 := IntWalk.i64_in _ (by omega)
  have hsum2 : wrap64 ((y : Int) + 1) = (y : Int) + 1 := IntWalk.wrap64_in _ ⟨by omega, by omega⟩
  have hnn : ((N : Int) == (N : Int)) = true := by simp
  obtain ⟨F2, hF2⟩ : ∃ F2, F2 = dgL (N + 1) (fun d => f d + fnd d (s 0)) := ⟨_, rfl⟩
  rw [← hF2] at HG ⊢
  have hoD : o < N + 1 := by omega
  clear hL e0 e1 e2 a0 ho hx hy hF2 hf hs hs17
  go_enter Tryd.func82, Tryd.ntmps82
  go_wp2_with (go_at_call 94; refine (HO.out _).mono ?_; rintro e w' ⟨rfl, rfl⟩)
  try simp only [Exit.inBlock, Exit.then]
  refine bodyPost_ret (results_none rfl _ _ _) rfl ?_
  exact ⟨rfl, HG.out.1, HG.out.2⟩
theorem Lc.far {bs : List Nat} {N K : Nat} {zs : List Int} {bl off gs gc : Nat} {s f g : Nat → Nat} {w w' : World} (h : Lc bs N K zs bl off gs gc s f w) (hK : 1 ≤ K) (hg : w.grownBy w' (some gc)) (hc : Blk w' gc (icells (dgL (N + 1) g)).toArray 2) : Lc bs N K zs bl off gs gc s g w' :=
  ⟨fun j hj => by rw [hg.cell_far ⟨bl, off + j, none⟩ (World.block_lt_of_cell? w _ (h.zc j hj)) (by show some bl ≠ some gc; intro e; cases e; exact h.nz rfl)]; exact h.zc j hj,
    h.st.far hg (by intro e; cases e; exact h.ns rfl), hc, h.ns, h.nz⟩
/-- What the counts are when the first c colours have been tried. -/
def pfC (bs : List Nat) (N K : Nat) (zs : List Int) (r : Nat) (s f : Nat → Nat) (c d : Nat) : Nat := f d + sm (fun c => if okx bs N zs c (N - (r + 1)) (s c) = true then dcn (okx bs N zs) K N (fnd d) r (setF s c (s c ||| 2 ^ (N - (r + 1)))) else 0) c
theorem pfC_0 (bs : List Nat) (N K : Nat) (zs : List Int) (r : Nat) (s f : Nat → Nat) : f = pfC bs N K zs r s f 0 := by funext d; simp [pfC, sm]
theorem pfC_K (bs : List Nat) (N K : Nat) (zs : List Int) (r : Nat) (s f : Nat → Nat) : pfC bs N K zs r s f K = fun d => f d + dcn (okx bs N zs) K N (fnd d) (r + 1) s := rfl
theorem pfC_no {bs : List Nat} {N K : Nat} {zs : List Int} {r c : Nat} {s f : Nat → Nat} (h : okx bs N zs c (N - (r + 1)) (s c) = false) : pfC bs N K zs r s f (c + 1) = pfC bs N K zs r s f c := by
  funext d; unfold pfC; rw [sm, if_neg (by rw [h]; simp), Nat.add_zero]
theorem pfC_yes {bs : List Nat} {N K : Nat} {zs : List Int} {r c : Nat} {s f : Nat → Nat} (h : okx bs N zs c (N - (r + 1)) (s c) = true) : pfC bs N K zs r s f (c + 1) = fun d => pfC bs N K zs r s f c d + dcn (okx bs N zs) K N (fnd d) r (setF s c (s c ||| 2 ^ (N - (r + 1)))) := by
  funext d; unfold pfC; rw [sm, if_pos h]; omega
theorem pfC_le {bs : List Nat} {N K : Nat} {zs : List Int} {r c : Nat} {s f : Nat → Nat} (hc : c ≤ K) (d : Nat) : pfC bs N K zs r s f c d ≤ pfC bs N K zs r s f K d := by
  unfold pfC
  have := sm_mono (f := fun c => if okx bs N zs c (N - (r + 1)) (s c) = true then dcn (okx bs N zs) K N (fnd d) r (setF s c (s c ||| 2 ^ (N - (r + 1)))) else 0) K hc
  omega
def LcPost (bs : List Nat) (N K : Nat) (zs : List Int) (gc r : Nat) (s f : Nat → Nat) (w : World) (e : Ending) (w' : World) : Prop :=
  e = .returned (.tuple #[]) ∧ Blk w' gc (icells (dgL (N + 1) (fun d => f d + dcn (okx bs N zs) K N (fnd d) r s))).toArray 2 ∧ w.grownBy w' (some gc)
def LcCall (bs : List Nat) (N K : Nat) (zs : List Int) (bl off cap gc r : Nat) : Prop :=
  ∀ (s f : Nat → Nat) (gs cs : Nat) (w : World), Lc bs N K zs bl off gs gc s f w → (∀ c, c < K → s c < 2 ^ (N - r)) → (∀ d, f d + dcn (okx bs N zs) K N (fnd d) r s + 1 ≤ 4611686018427387904) →
    Calls Tryd.prog 82 #[.agg (ccells (N : Int) (K : Int) bs).toArray, .slice (some ⟨bl, off, none⟩) K cap, .int .i64 ((N - r : Nat) : Int), .slice (some ⟨gs, 0, none⟩) K cs, .slice (some ⟨gc, 0, none⟩) (N + 1) (N + 1)] w (LcPost bs N K zs gc r s f w)
set_option maxRecDepth 100000 in
set_option maxHeartbeats 8000000 in
theorem lcn_step (N K : Nat) (bs : List Nat) (hb : Bys bs) (zs : List Int) (bl off cap gc : Nat) (n1 : 1 ≤ N) (hN12 : N ≤ 12) (hK1 : 1 ≤ K) (hK : K ≤ 4) (h2 : no1 zs K) (hsz : szP zs K = true) (r : Nat) (hr : r + 1 ≤ N) (IH : LcCall bs N K zs bl off cap gc r) : LcCall bs N K zs bl off cap gc (r + 1) := by
  intro s f gs cs w hL hs hf
  have HIH := hidd IH
  have HS := hidd (size_c26 (N : Int) (K : Int) hb)
  have HC0 := hidd (show (ccells (N : Int) (K : Int) bs).toArray[0]? = some (.int .i64 (N : Int)) from rfl)
  have HC1 := hidd (show (ccells (N : Int) (K : Int) bs).toArray[1]? = some (.int .i64 (K : Int)) from rfl)
  have HLE := hidd (fun c d (hc : c ≤ K) => (show pfC bs N K zs r s f c d + 1 ≤ 4611686018427387904 by
    have h1 : pfC bs N K zs r s f c d ≤ f d + dcn (okx bs N zs) K N (fnd d) (r + 1) s := by
      have h4 := pfC_le (bs := bs) (N := N) (K := K) (zs := zs) (r := r) (s := s) (f := f) hc d
      rw [pfC_K] at h4
      exact h4
    exact Nat.le_trans (Nat.succ_le_succ h1) (hf d)))
  have HF0 := pfC_0 bs N K zs r s f
  have hgcl := hL.ct.lt
  have HG := hidd (show Blk (w.alloc (.cells (ccells (N : Int) (K : Int) bs).toArray 28)) w.heap.size (ccells (N : Int) (K : Int) bs).toArray 28 ∧ Lc bs N K zs bl off gs gc s (pfC bs N K zs r s f 0) (w.alloc (.cells (ccells (N : Int) (K : Int) bs).toArray 28)) ∧ w.grownBy (w.alloc (.cells (ccells (N : Int) (K : Int) bs).toArray 28)) (some gc) from by
    rw [← HF0]
    have hg := below_grown ((Below.refl w.heap.size w).alloc (Nat.le_refl _) (.cells (ccells (N : Int) (K : Int) bs).toArray 28)) (some gc)
    exact ⟨Blk.new _ _ _ _ rfl, hL.far hK1 hg (hL.ct.alloc _), hg⟩)
  obtain ⟨n, hn⟩ : ∃ n, n = N - (r + 1) := ⟨_, rfl⟩
  have hnN : n < N := by omega
  have hr1 : N - r = n + 1 := by omega
  have hnn : ((n : Int) == (N : Int)) = false := by rw [beq_eq_false_iff_ne]; omega
  rw [← hn] at hs ⊢
  obtain ⟨p, hp⟩ : ∃ p : Nat → Nat → Nat, p = pfC bs N K zs r s f := ⟨_, rfl⟩
  have HPN := hidd (fun c (h : okx bs N zs c n (s c) = false) => (show p (c + 1) = p c by rw [hp]; exact pfC_no (by rw [← hn]; exact h)))
  have HPY := hidd (fun c (h : okx bs N zs c n (s c) = true) => (show p (c + 1) = fun d => p c d + dcn (okx bs N zs) K N (fnd d) r (setF s c (s c ||| 2 ^ n)) by rw [hp, pfC_yes (by rw [← hn]; exact h), ← hn]))
  have HPK := hidd (show p K = fun d => f d + dcn (okx bs N zs) K N (fnd d) (r + 1) s by rw [hp]; exact pfC_K bs N K zs r s f)
  rw [← hp] at HLE HG
  have HSZ := hidd (fun c (hc : c < K) => inB_bd (szP_get hsz hc))
  have HN1 := hidd h2
  have HSS := hidd hs
  obtain ⟨W0, hW0⟩ : ∃ W0, W0 = w.alloc (.cells (ccells (N : Int) (K : Int) bs).toArray 28) := ⟨_, rfl⟩
  rw [← hW0] at HG
  have HGL := hidd hgcl
  have HN := hidd hn
  clear hL hs hf HF0 hp IH hsz h2 hgcl hn
  go_enter Tryd.func82, Tryd.ntmps82
  go_upto_region 1 with fail
  rw [← hW0]
  clear hW0
  have c0 := HG.out.1.cell HC0.out
  go_wp2_with fail
  clear c0
  go_loopw [10] (fun e wr => ∃ c : Nat, c ≤ K ∧ e = .int .i64 (c : Int) ∧ Hid (Blk wr w.heap.size (ccells (N : Int) (K : Int) bs).toArray 28 ∧ Lc bs N K zs bl off gs gc s (p c) wr ∧ w.grownBy wr (some gc))) (fun e _ => K - (intOf e).toNat)
  case atStart => exact ⟨0, Nat.zero_le _, rfl, HG.out⟩
  case round =>
  obtain ⟨c, hc, rfl, HK⟩ := hrel
  have c1 := HK.out.1.cell HC1.out
  by_cases hlt : c < K
  · have hz := HSZ.out c hlt
    have hz2 := HN1.out c hlt
    have hsc := HSS.out c hlt
    obtain ⟨m, hm⟩ : ∃ m : Nat, zs.getD c 0 = (m : Int) + 2 := ⟨(zs.getD c 0).toNat - 2, by omega⟩
    have hm17 : m ≤ 15 := by omega
    have hok : okx bs N zs c n (s c) = !hasK (rwN bs (c : Int) N) N m (s c &&& rwN bs (c : Int) N n) := by unfold okx; rw [hm]; congr 2
    have cz := HK.out.2.1.zc c hlt
    rw [hm] at cz
    have cs0 := HK.out.2.1.st.cell (j := c) (x := (s c : Int)) (by rw [dgL_len]; exact hlt) (by rw [dgL_get hlt])
    have HCZ := hidd (fun W (h : Below wr.heap.size wr W) => cell_below cz h)
    have HCS := hidd (fun W (h : Below wr.heap.size wr W) => cell_below cs0 h)
    have HAR := hidd (fun W => around63 (N : Int) (K : Int) bs hb (n : Int) (c : Int) W (by omega) (by omega) (by omega) (by omega))
    obtain ⟨rw', hrw⟩ : ∃ rw', rw' = rwN bs (c : Int) N n := ⟨_, rfl⟩
    rw [Int.toNat_natCast, show arK (nbB bs (n : Int) (c : Int)) N = rwN bs (c : Int) N n from rfl, ← hrw] at HAR
    rw [← hrw] at hok
    obtain ⟨sc, hsce⟩ : ∃ sc, sc = s c := ⟨_, rfl⟩
    rw [← hsce] at hok hsc HCS
    have hs17 : sc < 2 ^ 12 := Nat.lt_of_lt_of_le hsc (Nat.pow_le_pow_right (by decide) (by omega))
    clear hsc
    have hr17 : rw' < 2 ^ 17 := by rw [hrw]; unfold rwN; exact Nat.lt_of_lt_of_le (arK_lt _ _) (Nat.pow_le_pow_right (by decide) (by omega))
    have hand := i64_and_nat sc rw' (by omega) (by omega)
    have hA17 : sc &&& rw' < 2 ^ 17 := Nat.lt_of_le_of_lt Nat.and_le_left (by omega)
    obtain ⟨A, hA⟩ : ∃ A, A = sc &&& rw' := ⟨_, rfl⟩
    rw [← hA] at hand hA17 hok
    have HCQ := hidd (fun W => clq69 N (K : Int) (c : Int) bs hb n1 (by omega) m (by omega) A hA17 W)
    obtain ⟨x, hx⟩ : ∃ x, x = hasK (rwN bs (c : Int) N) N m A := ⟨_, rfl⟩
    rw [← hx] at HCQ hok
    have hlt2 : decide ((m : Int) + 2 < 2) = false := by simp; omega
    have hmw : IntKind.i64.wrap (m : Int) = (m : Int) := IntWalk.i64_in _ (by omega)
    have HOK := hidd hok
    have HSE := hidd hsce
    clear hsce
    clear cz cs0 hm hz hz2 hrw hA hx hok
    go_wp2_with fail
    refine wp_region_quiet_at (fun w' => Below wr.heap.size wr w') rfl (by kernel_rfl) ((Below.refl _ _).drew) ?_
    refine qs rfl (fun KQ hKQ => ?_)
    apply Exists.intro
    refine ⟨fun w' hw' => ?_, ?_⟩
    · go_simp; exact rfl
    go_simp
    refine hKQ _ ?_
    clear hKQ KQ
    refine qs rfl (fun KQ hKQ => ?_)
    apply Exists.intro
    refine ⟨fun w' hw' => ?_, ?_⟩
    · go_simp; exact rfl
    go_simp
    refine hKQ _ ?_
    clear hKQ KQ
    refine qs rfl (fun KQ hKQ => ?_)
    apply Exists.intro
    refine ⟨fun w' hw' => ?_, ?_⟩
    · go_simp; exact rfl
    go_simp
    refine hKQ _ ?_
    clear hKQ KQ
    refine qs rfl (fun KQ hKQ => ?_)
    apply Exists.intro
    refine ⟨fun w' hw' => ?_, ?_⟩
    · have e1 := HCZ.out w' hw'; go_simp; exact rfl
    go_simp
    refine hKQ _ ?_
    clear hKQ KQ
    refine qs rfl (fun KQ hKQ => ?_)
    apply Exists.intro
    refine ⟨fun w' hw' => ?_, ?_⟩
    · go_simp; exact rfl
    go_simp
    refine hKQ _ ?_
    clear hKQ KQ
    refine qs rfl (fun KQ hKQ => ?_)
    apply Exists.intro
    refine ⟨fun w' hw' => ?_, ?_⟩
    · go_simp; exact rfl
    go_simp
    refine hKQ _ ?_
    clear hKQ KQ
    go_big_quiet_want
    rename_i KQ hKQ
    apply Exists.intro
    refine ⟨fun w' hw' => ?_, ?_⟩
    · exact quietRow 28 (.tmp 5) rfl w.heap.size rfl 28 _ _ (HK.out.1.below hw' HK.out.1.lt) Tryd.underlying28 rfl HS.out
    go_simp
    refine hKQ _ ?_
    clear hKQ KQ
    go_big_quiet_want
    rename_i KQ hKQ
    apply Exists.intro
    refine ⟨fun w' hw' => ?_, ?_⟩
    · go_simp; exact rfl
    go_simp
    refine hKQ _ ?_
    clear hKQ KQ
    go_big_quiet_want
    rename_i KQ hKQ
    apply Exists.intro
    refine ⟨fun w' hw' => ?_, ?_⟩
    · go_simp; exact rfl
    go_simp
    refine hKQ _ ?_
    clear hKQ KQ
    go_big_quiet_want
    rename_i KQ hKQ
    apply Exists.intro
    refine ⟨fun w' hw' => ?_, ?_⟩
    · go_simp; exact rfl
    go_simp
    refine hKQ _ ?_
    clear hKQ KQ
    go_big_quiet_want
    rename_i KQ hKQ
    apply Exists.intro
    refine ⟨fun w' hw' => ?_, ?_⟩
    · go_simp; exact rfl
    go_simp
    refine hKQ _ ?_
    clear hKQ KQ
    go_big_quiet_want
    rename_i KQ hKQ
    apply Exists.intro
    refine ⟨fun w' hw' => ?_, ?_⟩
    · have e1 := HCS.out w' hw'; go_simp; exact rfl
    go_simp
    refine hKQ _ ?_
    clear hKQ KQ
    go_big_quiet_want
    rename_i KQ hKQ
    apply Exists.intro
    refine ⟨fun w' hw' => ?_, ?_⟩
    · exact quietRow 28 (.tmp 5) rfl w.heap.size rfl 28 _ _ (HK.out.1.below hw' HK.out.1.lt) Tryd.underlying28 rfl HS.out
    go_simp
    refine hKQ _ ?_
    clear hKQ KQ
    go_big_quiet_want
    rename_i KQ hKQ
    apply Exists.intro
    refine ⟨fun w' hw' => ?_, ?_⟩
    · go_simp; exact rfl
    go_simp
    refine hKQ _ ?_
    clear hKQ KQ
    go_big_quiet_want
    rename_i KQ hKQ
    apply Exists.intro
    refine ⟨fun w' hw' => ?_, ?_⟩
    · go_simp; exact rfl
    go_simp
    refine hKQ _ ?_
    clear hKQ KQ
    go_big_quiet_want
    rename_i KQ hKQ
    apply Exists.intro
    refine ⟨fun w' hw' => ?_, ?_⟩
    · go_simp; exact (HAR.out _).mono fun _ _ h => ⟨h.1, hw'.trans (h.2.mono hw'.size)⟩
    go_simp
    refine hKQ _ ?_
    clear hKQ KQ
    go_big_quiet_want
    rename_i KQ hKQ
    apply Exists.intro
    refine ⟨fun w' hw' => ?_, ?_⟩
    · go_simp; exact rfl
    go_simp
    refine hKQ _ ?_
    clear hKQ KQ
    go_big_quiet_want
    rename_i KQ hKQ
    apply Exists.intro
    refine ⟨fun w' hw' => ?_, ?_⟩
    · go_simp; exact rfl
    go_simp
    refine hKQ _ ?_
    clear hKQ KQ
    go_big_quiet_want
    rename_i KQ hKQ
    apply Exists.intro
    refine ⟨fun w' hw' => ?_, ?_⟩
    · go_simp; exact rfl
    go_simp
    refine hKQ _ ?_
    clear hKQ KQ
    go_big_quiet_want
    rename_i KQ hKQ
    apply Exists.intro
    refine ⟨fun w' hw' => ?_, ?_⟩
    · go_simp; exact rfl
    go_simp
    refine hKQ _ ?_
    clear hKQ KQ
    go_big_quiet_want
    rename_i KQ hKQ
    apply Exists.intro
    refine ⟨fun w' hw' => ?_, ?_⟩
    · have e1 := HCZ.out w' hw'; go_simp; exact rfl
    go_simp
    refine hKQ _ ?_
    clear hKQ KQ
    go_big_quiet_want
    rename_i KQ hKQ
    apply Exists.intro
    refine ⟨fun w' hw' => ?_, ?_⟩
    · go_simp; exact rfl
    go_simp
    refine hKQ _ ?_
    clear hKQ KQ
    go_big_quiet_want
    rename_i KQ hKQ
    apply Exists.intro
    refine ⟨fun w' hw' => ?_, ?_⟩
    · go_simp; exact (HCQ.out _).mono fun _ _ h => ⟨h.1, hw'.trans (h.2.mono hw'.size)⟩
    go_simp
    refine hKQ _ ?_
    clear hKQ KQ
    refine qs rfl (fun KQ hKQ => ?_)
    apply Exists.intro
    refine ⟨fun w' hw' => ?_, ?_⟩
    · go_simp; exact rfl
    go_simp
    refine hKQ _ ?_
    clear hKQ KQ
    refine wpQuiet_nil ?_
    intro w' hw'
    have HW := hidd (show Blk w' w.heap.size (ccells (N : Int) (K : Int) bs).toArray 28 ∧ Lc bs N K zs bl off gs gc s (p c) w' ∧ w.grownBy w' (some gc) from
      ⟨HK.out.1.below hw' HK.out.1.lt, HK.out.2.1.far hK1 (below_grown hw' _) (HK.out.2.1.ct.below hw' HK.out.2.1.ct.lt), HK.out.2.2.trans (below_grown hw' _)⟩)
    clear hw'
    cases x with
    | true =>
      have hpn := HPN.out c (by rw [← HSE.out]; exact HOK.out)
      have H3 := hidd (show Blk w' w.heap.size (ccells (N : Int) (K : Int) bs).toArray 28 ∧ Lc bs N K zs bl off gs gc s (p (c + 1)) w' ∧ w.grownBy w' (some gc) by rw [hpn]; exact HW.out)
      clear hpn
      go_wp2_with fail
      go_roundw
      case rel => exact ⟨c + 1, by omega, by go_num, H3.out⟩
      case measure => simp [intOf]; omega
    | false =>
      have HPC := hidd (HPY.out c (by rw [← HSE.out]; exact HOK.out))
      have HOW := hidd (own63 (dgL K s) (some ⟨gs, 0, none⟩) cs w' HW.out.2.1.st (by rw [dgL_len]; omega))
      rw [dgL_len] at HOW
      go_wp2_with fail
      refine HOW.out.mono ?_
      rintro e w5 ⟨a5, c5, rfl, ho5, hb5⟩
      obtain ⟨a6, c6, hv6, hO⟩ := own_list (zs := dgL K s) (by rw [dgL_len]; exact ho5)
      rw [dgL_len] at hv6
      cases hv6
      rcases hO with hO | ⟨g, C5, hgB, rfl, hC5, hl5, hc5⟩
      · have := dgL_len K s; rw [hO] at this; simp at this; omega
      have hgc := HGL.out
      have hww := HW.out.2.2.size
      have hB5 : BgL w5 (some ⟨g, 0, none⟩) (dgL K s) := ⟨g, C5, rfl, hC5, hl5, hc5⟩
      have cO := hB5.cell (j := c) (x := (sc : Int)) (by rw [dgL_len]; exact hlt) (by rw [dgL_get hlt, HSE.out])
      have fO := hB5.fro c
      obtain ⟨V, hV⟩ : ∃ V, V = sc ||| 2 ^ n := ⟨_, rfl⟩
      have HOR := hidd (show bits .or .i64 (sc : Int) (wrap64 (2 ^ n)) = (V : Int) by rw [hV]; exact or_bit sc n (by omega) (by omega))
      have hPV : ∀ d, p (c + 1) d = p c d + dcn (okx bs N zs) K N (fnd d) r (setF s c V) := fun d => by rw [HPC.out, hV, HSE.out]
      have HV := hidd hV
      clear hV
      have hB6 := hB5.put hlt V
      have hg5 : w.grownBy w5 (some gc) := HW.out.2.2.trans (below_grown hb5 _)
      have hg6 : w.grownBy (w5.setCell ⟨g, c, none⟩ (.int .i64 (V : Int))) (some gc) := grown_set hg5 (.inl (by omega)) c _
      have hL5 := HW.out.2.1.far hK1 (below_grown hb5 _) (HW.out.2.1.ct.below hb5 HW.out.2.1.ct.lt)
      have hc6 : Blk (w5.setCell ⟨g, c, none⟩ (.int .i64 (V : Int))) gc (icells (dgL (N + 1) (p c))).toArray 2 := hL5.ct.other _ _ (by show gc ≠ g; omega)
      have hz6 : ∀ j, j < K → (w5.setCell ⟨g, c, none⟩ (.int .i64 (V : Int))).cell? ⟨bl, off + j, none⟩ = some (.int .i64 (zs.getD j 0)) := fun j hj => by
        have h1 := HW.out.2.1.zc j hj
        have h2 := World.block_lt_of_cell? w' _ h1
        have h2' : bl < w'.heap.size := h2
        rw [World.cell?_of_block (a := ⟨bl, off + j, none⟩) (heap_setCell_other w5 ⟨g, c, none⟩ bl _ (by show bl ≠ g; omega))]
        exact hL5.zc j hj
      have hL6 : Lc bs N K zs bl off g gc (setF s c V) (p c) (w5.setCell ⟨g, c, none⟩ (.int .i64 (V : Int))) := ⟨hz6, hB6, hc6, by omega, HK.out.2.1.nz⟩
      have hCl := HIH.out (setF s c V) (p c) g c5 _ hL6 (fun c' hc' => by
        rw [hr1]
        have h22 : 2 ^ n < 2 ^ (n + 1) := Nat.pow_lt_pow_right (by omega) (by omega)
        by_cases e : c' = c
        · subst e
          rw [setF_same, HV.out]
          exact Nat.or_lt_two_pow (by rw [HSE.out]; exact Nat.lt_trans (HSS.out c' hc') h22) h22
        · rw [setF_ne _ _ e]; exact Nat.lt_trans (HSS.out c' hc') h22) (fun d => by
        have h1 := HLE.out (c + 1) d (by omega)
        rw [hPV] at h1
        exact h1)
      rw [hr1, show ((n + 1 : Nat) : Int) = (n : Int) + 1 by omega] at hCl
      have HCL := hidd hCl
      have hfin : (fun d => p c d + dcn (okx bs N zs) K N (fnd d) r (setF s c V)) = p (c + 1) := by funext d; exact (hPV d).symm
      have HFI := hidd hfin
      have H28 := hidd (show Blk (w5.setCell ⟨g, c, none⟩ (.int .i64 (V : Int))) w.heap.size (ccells (N : Int) (K : Int) bs).toArray 28 from (HW.out.1.below hb5 HW.out.1.lt).other _ _ (by show w.heap.size ≠ g; have := HW.out.1.lt; omega))
      have HG6 := hidd hg6
      have HB5 := hidd hb5
      have HGB := hidd hgB
      have HL6 := hidd hL6
      have hu : IntKind.u64.wrap (n : Int) = (n : Int) := by unfold IntKind.wrap; simp [IntKind.signed, IntKind.bits]; omega
      have hmn : min n 64 = n := by omega
      have hor := HOR.out
      have hnw : IntKind.i64.wrap ((n : Int) + 1) = (n : Int) + 1 := IntWalk.i64_in _ (by omega)
      have hnw2 : wrap64 ((n : Int) + 1) = (n : Int) + 1 := IntWalk.wrap64_in _ ⟨by omega, by omega⟩
      clear hgB hb5 hCl hfin hPV hL6 hg6 hB6 hc6 hz6 hL5 hg5 hB5 ho5 hC5 hl5 hc5
      clear hand hA17 hs17 hr17 hlt2 hmw hm17 hgc hww hnw hnw2 c1 hnn
      go_upto_region 8 with fail
      go_upto_region 9 with fail
      clear cO fO hor hu hmn
      have hnw2 : wrap64 ((n : Int) + 1) = (n : Int) + 1 := IntWalk.wrap64_in _ ⟨by omega, by omega⟩
      have hnw : IntKind.i64.wrap ((n : Int) + 1) = (n : Int) + 1 := IntWalk.i64_in _ (by omega)
      go_wp2_with (refine wpList_load_row rfl 28 (.tmp 5) rfl w.heap.size rfl 28 _ (0,0) _ H28.out Tryd.underlying28 rfl HS.out ?_)
      refine HCL.out.mono ?_
      rintro e w7 ⟨rfl, k1, k2⟩
      rw [HFI.out] at k1
      have H7 := hidd (show Blk w7 w.heap.size (ccells (N : Int) (K : Int) bs).toArray 28 ∧ Lc bs N K zs bl off gs gc s (p (c + 1)) w7 ∧ w.grownBy w7 (some gc) from by
        have hgs : gs < w'.heap.size := HW.out.2.1.st.lt
        have hgw : w'.grownBy (w5.setCell ⟨g, c, none⟩ (.int .i64 (V : Int))) none := grown_set (below_grown HB5.out _) (.inl HGB.out) c _
        have hgw2 : w'.grownBy w7 (some gc) := (hgw.but _).trans k2
        exact ⟨H28.out.far k2 (by intro e; cases e; have := HGL.out; omega), HW.out.2.1.far hK1 hgw2 k1, HG6.out.trans k2⟩)
      clear k1 k2
      go_wp2_with fail
      go_roundw
      case rel => exact ⟨c + 1, by omega, by go_num, H7.out⟩
      case measure => simp [intOf]; omega
  · have hce : c = K := by omega
    subst hce
    have hltI : decide ((c : Int) < (c : Int)) = false := by simp
    have H3 := hidd (show Blk wr gc (icells (dgL (N + 1) (fun d => f d + dcn (okx bs N zs) c N (fnd d) (r + 1) s))).toArray 2 by rw [← HPK.out]; exact HK.out.2.1.ct)
    go_wp2_with fail
    go_end0
    exact ⟨rfl, H3.out, HK.out.2.2⟩
end Go.Proofs.YtckffliiidgilaaDoor
/- A region in whatever order: what is kept from operation to operation. -/
namespace Go.Proofs.YtckffliiidgilaaDoor
set_option linter.unusedVariables false
set_option linter.unusedSimpArgs false
open Go Go.RowKit
theorem unl_zero {L : Array Bool} (h : unl L = 0) (j : Nat) (hj : j < L.size) : L.getD j true = true := by
  unfold unl at h
  have := (List.countP_eq_zero.1 h) j (List.mem_range.2 hj)
  simpa using this
theorem getD_two {L : Array Bool} {j : Nat} (hj : j < L.size) : L.getD j true = L.getD j false := by
  simp [Array.getD, hj]
theorem getD_upd {L : Array Bool} {i : Nat} (hi : i < L.size) (j : Nat) : (L.setIfInBounds i true).getD j false = if i = j then true else L.getD j false := by
  by_cases e : i = j
  · subst e; rw [if_pos rfl]; simp [Array.getD, hi]
  · rw [if_neg e]
    simp only [Array.getD_eq_getD_getElem?, Array.getElem?_setIfInBounds]
    rw [if_neg e]
theorem all_of_none {md : Region.Mode} {ops : Array Oper} {L : Array Bool} (hs : L.size = ops.size) (ho : ∀ (i : Nat) (o : Oper), ops[i]? = some o → ∀ e ∈ o.after, e.on < i) (hr : Region.ready md ops L = []) : ∀ n j, j < n → j < ops.size → L.getD j false = true := by
  intro n
  induction n with
  | zero => intro j hj; omega
  | succ n ih =>
    intro j hj hjs
    by_cases hl : L.getD j true = true
    · rw [← getD_two (by omega)]; exact hl
    · exfalso
      have hm : j ∈ Region.ready md ops L := by
        refine mem_ready.2 ⟨by simpa using hl, ops[j], Array.getElem?_eq_getElem hjs, fun e he _ => ?_⟩
        have := ho j _ (Array.getElem?_eq_getElem hjs) e he
        exact ih e.on (by omega) (by omega)
      rw [hr] at hm
      cases hm
theorem wpAny_inv {P : Program} {md : Region.Mode} {ops : Array Oper} {Q : Exit → Act → World → Prop} (I : Array Bool → Act → World → Prop) (ho : ∀ (i : Nat) (o : Oper), ops[i]? = some o → ∀ e ∈ o.after, e.on < i)
    (hI : ∀ L a w, I L a w → L.size = ops.size)
    (hstep : ∀ L a w i, I L a w → i < ops.size → L.getD i true = false → (∀ o : Oper, ops[i]? = some o → ∀ e ∈ o.after, Region.binds md e = true → L.getD e.on false = true) → wpOp P ops Q i (fun a' w' => I (L.setIfInBounds i true) a' w') a w)
    (hend : ∀ L a w, I L a w → (∀ j, j < ops.size → L.getD j false = true) → Q .normal a w) :
    ∀ fuel L a w, I L a w → unl L ≤ fuel → wpAny P md ops Q fuel L a w
  | 0, L, a, w, h, hu => by
    have hs := hI _ _ _ h
    have hall : ∀ j, j < ops.size → L.getD j false = true := fun j hj => by
      rw [← getD_two (by omega)]; exact unl_zero (by omega) j (by omega)
    refine ⟨?_, hend _ _ _ h hall⟩
    refine List.eq_nil_iff_forall_not_mem.2 fun j hj => ?_
    obtain ⟨hun, oj, hoj, _⟩ := mem_ready.1 hj
    have hjs : j < ops.size := (Array.getElem?_eq_some_iff.1 hoj).1
    rw [unl_zero (by omega) j (by omega)] at hun
    cases hun
  | fuel + 1, L, a, w, h, hu => by
    have hs := hI _ _ _ h
    refine ⟨fun hr => hend _ _ _ h (fun j hj => all_of_none hs ho hr (j + 1) j (by omega) hj), fun i hi => ?_⟩
    obtain ⟨hun, oi, hoi, haf⟩ := mem_ready.1 hi
    have his : i < ops.size := (Array.getElem?_eq_some_iff.1 hoi).1
    refine wpOp_mono (fun a' w' h' => ?_) (hstep L a w i h his hun (fun o ho => by rw [hoi] at ho; cases ho; exact haf))
    have := unl_set (i := i) (by omega) hun
    exact wpAny_inv I ho hI hstep hend fuel _ _ _ h' (by omega)
theorem wpOp_of {P : Program} {ops : Array Oper} {Q : Exit → Act → World → Prop} {i : Nat} {o : Oper} {K : Act → World → Prop} {a : Act} {w : World} (ho : ops[i]? = some o) (hg : o.guard = none) (h : o.wp P a w K Q) : wpOp P ops Q i K a w := by
  unfold wpOp
  rw [ho]
  have : Region.wanted o (yielded ops a.tmps) = true := by unfold Region.wanted; rw [hg]
  simp only [this, if_true]
  exact .inl h
theorem wp_region_inv {P : Program} {id : Nat} {Q : Exit → Act → World → Prop} {a : Act} {w : World} {l : List Oper} (n : Nat) (hn : l.length = n) (I : Array Bool → Act → World → Prop) (hm : P.follows .mixedOrders = true)
    (ho : (l.zipIdx.all fun x => x.1.after.all fun e => decide (e.on < x.2)) = true)
    (hI : ∀ L a w, I L a w → L.size = n)
    (h0 : I (Array.replicate n false) a w.drew)
    (hstep : ∀ L a w i, I L a w → i < n → L.getD i true = false → (∀ o : Oper, l[i]? = some o → ∀ e ∈ o.after, Region.binds .any e = true → L.getD e.on false = true) → wpOp P l.toArray Q i (fun a' w' => I (L.setIfInBounds i true) a' w') a w)
    (hend : ∀ L a w, I L a w → (∀ j, j < n → L.getD j false = true) → Q .normal a w) : (Code.region id l.toArray true).wp P Q a w := by
  subst hn
  refine wp_region_any hm (wpAny_inv I (fun i o hio e he => ?_) (by simpa using hI) (by simpa using hstep) (by simpa using hend) _ _ _ _ (by simpa using h0) (by simpa using unl_none l.length))
  have h1 : l[i]? = some o := by simpa using hio
  have h2 : (o, i) ∈ l.zipIdx := by
    rw [List.mem_iff_getElem?]
    exact ⟨i, by rw [List.getElem?_zipIdx, h1]; simp⟩
  have h3 := List.all_eq_true.1 ho (o, i) h2
  have h4 := (Array.all_eq_true_iff_forall_mem.1 h3) e he
  exact of_decide_eq_true h4
end Go.Proofs.YtckffliiidgilaaDoor
/- l05Degrees: the extensions counted by degree, from the beginning. -/
namespace Go.Proofs.YtckffliiidgilaaDoor
set_option linter.unusedVariables false
set_option linter.unusedSimpArgs false
open Go Go.RowKit Go.Shelf
theorem lcn82 (N K : Nat) (bs : List Nat) (hb : Bys bs) (zs : List Int) (bl off cap gc : Nat) (n1 : 1 ≤ N) (hN12 : N ≤ 12) (hK1 : 1 ≤ K) (hK : K ≤ 4) (h2 : no1 zs K) (hsz : szP zs K = true) : ∀ r, r ≤ N → LcCall bs N K zs bl off cap gc r
  | 0, _ => fun s f gs cs w hL hs hf => lcn_leaf N K bs hb zs bl off cap n1 hN12 hK1 s f gs cs gc w hL (hs 0 (by omega)) (fun d => Nat.le_trans (Nat.succ_le_succ (Nat.le_add_right _ _)) (hf d))
  | r + 1, h => lcn_step N K bs hb zs bl off cap gc n1 hN12 hK1 hK h2 hsz r h (lcn82 N K bs hb zs bl off cap gc n1 hN12 hK1 hK h2 hsz r (by omega))
/-- What the operations of the call's region have answered. -/
def DgF (X : Value) (a : Option Addr) (K cap N g0 gc B : Nat) (w : World) (i : Nat) (v : Value) : Prop :=
  (i = 0 → v = X) ∧ (i = 1 → v = .slice a K cap) ∧ (i = 2 → v = .pointer (some ⟨g0, 1, none⟩)) ∧ (i = 3 → v = .int .i64 (K : Int)) ∧
  (i = 4 → ∃ g : Nat, v = .slice (some ⟨g, 0, none⟩) K K ∧ B ≤ g ∧ Blk w g (icells (dgL K fun _ => 0)).toArray 2) ∧ (i = 5 → v = .slice (some ⟨gc, 0, none⟩) (N + 1) (N + 1))
theorem DgF.below {X : Value} {a : Option Addr} {K cap N g0 gc B : Nat} {w w' : World} {i : Nat} {v : Value} (h : DgF X a K cap N g0 gc B w i v) (hb : Below w.heap.size w w') : DgF X a K cap N g0 gc B w' i v :=
  ⟨h.1, h.2.1, h.2.2.1, h.2.2.2.1, fun e => by obtain ⟨g, h1, h3, h4⟩ := h.2.2.2.2.1 e; exact ⟨g, h1, h3, h4.below hb h4.lt⟩, h.2.2.2.2.2⟩
def DgA (X0 : Act) (V : Nat → Value) : Act := { X0 with tmps := (((((((X0.tmps.setIfInBounds 23 (V 0)).setIfInBounds 24 (V 1)).setIfInBounds 25 (V 2)).setIfInBounds 26 (V 3)).setIfInBounds 27 (V 4)).setIfInBounds 28 (V 5)).setIfInBounds 29 (V 6)) }
def updV (V : Nat → Value) (i : Nat) (v : Value) : Nat → Value := fun j => if j = i then v else V j
def DgI (A : (Nat → Value) → Act) (X : Value) (a : Option Addr) (K cap N g0 gc : Nat) (W1 : World) (Fin : World → Prop) (L : Array Bool) (act : Act) (w : World) : Prop :=
  L.size = 7 ∧ ∃ V : Nat → Value, act = A V ∧ (∀ j, j < 6 → L.getD j false = true → DgF X a K cap N g0 gc W1.heap.size w j (V j)) ∧ (L.getD 6 false = false → Below W1.heap.size W1 w) ∧ (L.getD 6 false = true → Fin w ∧ ∀ j, j < 6 → L.getD j false = true) ∧ (L.getD 4 false = true → L.getD 3 false = true) ∧ (L.getD 3 false = true → L.getD 2 false = true)
theorem DgI.start {A : (Nat → Value) → Act} {X : Value} {a : Option Addr} {K cap N g0 gc : Nat} {W1 : World} {Fin : World → Prop} (V : Nat → Value) : DgI A X a K cap N g0 gc W1 Fin (Array.replicate 7 false) (A V) W1.drew := by
  refine ⟨rfl, V, rfl, fun j _ h => ?_, fun _ => below_drewN (Below.refl _ _) 1, fun h => ?_, fun h => ?_, fun h => ?_⟩
  · rw [getD_replicate_false] at h; cases h
  · rw [getD_replicate_false] at h; cases h
  · rw [getD_replicate_false] at h; cases h
  · rw [getD_replicate_false] at h; cases h
theorem DgI.head {A : (Nat → Value) → Act} {X : Value} {a : Option Addr} {K cap N g0 gc : Nat} {W1 : World} {Fin : World → Prop} {L : Array Bool} {V : Nat → Value} {w w' : World} (hs : L.size = 7)
    (hF : ∀ j, j < 6 → L.getD j false = true → DgF X a K cap N g0 gc W1.heap.size w j (V j)) (hB : L.getD 6 false = false → Below W1.heap.size W1 w) (hT : L.getD 6 false = true → Fin w ∧ ∀ j, j < 6 → L.getD j false = true) (hD1 : L.getD 4 false = true → L.getD 3 false = true) (hD2 : L.getD 3 false = true → L.getD 2 false = true)
    (i : Nat) (hi : i < 6) (hi4 : i = 4 → L.getD 3 false = true) (hi3 : i = 3 → L.getD 2 false = true) (hun : L.getD i true = false) (v : Value) (hw : Below w.heap.size w w') (hv : DgF X a K cap N g0 gc W1.heap.size w' i v) : DgI A X a K cap N g0 gc W1 Fin (L.setIfInBounds i true) (A (updV V i v)) w' := by
  have hif : L.getD i false = false := by rw [← getD_two (by omega)]; exact hun
  have h6 : L.getD 6 false = false := by
    cases h : L.getD 6 false with
    | false => rfl
    | true => rw [(hT h).2 i hi] at hif; cases hif
  refine ⟨by simpa using hs, _, rfl, fun j hj hl => ?_, fun _ => ?_, fun h => ?_, fun h => ?_, fun h => ?_⟩
  · rw [getD_upd (by omega)] at hl
    by_cases e : i = j
    · subst e; simp only [updV, if_true]; exact hv
    · rw [if_neg e] at hl
      simp only [updV]; rw [if_neg (fun x => e x.symm)]
      exact (hF j hj hl).below hw
  · have := hB h6
    exact this.trans (hw.mono this.size)
  · rw [getD_upd (by omega), if_neg (by omega), h6] at h; cases h
  · rw [getD_upd (by omega)] at h ⊢
    by_cases e : i = 3
    · rw [if_pos e]
    · rw [if_neg e]
      by_cases e4 : i = 4
      · exact hi4 e4
      · rw [if_neg e4] at h; exact hD1 h
  · rw [getD_upd (by omega)] at h ⊢
    by_cases e : i = 2
    · rw [if_pos e]
    · rw [if_neg e]
      by_cases e4 : i = 3
      · exact hi3 e4
      · rw [if_neg e4] at h; exact hD2 h
theorem Below.ofGrown {B g : Nat} {w W w' : World} (h1 : Below B w W) (hB : B ≤ W.heap.size) (hg : W.grownBy w' (some g)) (h : B ≤ g) : Below B w w' :=
  h1.trans ⟨hg.os, hg.tape, hg.output, hg.size, fun k hk => hg.block k (by omega) (by intro e; cases e; omega)⟩
end Go.Proofs.YtckffliiidgilaaDoor
/- l05Degrees: the walk. -/
namespace Go.Proofs.YtckffliiidgilaaDoor
set_option linter.unusedVariables false
set_option linter.unusedSimpArgs false
open Go Go.RowKit Go.Shelf
theorem opRow {P : Program} {o : Oper} {a : Act} {w : World} {next : Act → World → Prop} {Q : Exit → Act → World → Prop} (ty : TypeId) (x : Operand) (ho : o.op = .load ty x)
    (g : Nat) (hx : a.eval x = .pointer (some ⟨g, 0, none⟩)) (t : TypeId) (cs : Array Value) (d : TypeDesc) (hg : Blk w g cs t)
    (hu : P.underlying ty = some d) (hd : (match d with | .struct _ | .array _ _ => true | _ => false) = true) (hi : (P.info? ty).map (·.size) = some cs.size) (h : next (a.put o.dst (.agg cs)) w) : o.wp P a w next Q := by
  unfold Oper.wp execOp
  simp only [ho, hx, Instr.loadAt, Instr.sureAddr, Sem.run_bind, Sem.run_pure, Result.andThen_ok, run_loadVar_row w g t ty cs (0, 0) d hg hu hd hi]
  exact h
set_option maxRecDepth 100000 in
set_option maxHeartbeats 4000000 in
theorem deg52 (N K : Nat) (bs : List Nat) (hb : Bys bs) (zs : List Int) (a : Option Addr) (cap : Nat) (hl : zs.length = K) (n1 : 1 ≤ N) (hN12 : N ≤ 12) (hK1 : 1 ≤ K) (hK : K ≤ 4) (h2 : no1 zs K) (hsz : szP zs K = true) (w : World) (hs : SlI w a zs) :
    Calls Tryd.prog 52 #[.agg (ccells (N : Int) (K : Int) bs).toArray, .slice a K cap] w fun r w' => ∃ g : Nat, r = .returned (.slice (some ⟨g, 0, none⟩) (N + 1) (N + 1)) ∧ w.heap.size ≤ g ∧ Blk w' g (icells (cdL bs N K zs)).toArray 2 ∧ Below w.heap.size w w' := by
  rcases hs with hz | ⟨bl, off, rfl, hc⟩
  · rw [hz] at hl; simp at hl; omega
  have hblw : bl < w.heap.size := by have := World.block_lt_of_cell? w _ (hc 0 (by omega)); exact this
  have HC := hidd (fun W (h : Below w.heap.size w W) j (hj : j < K) => (show W.cell? ⟨bl, off + j, none⟩ = some (.int .i64 (zs.getD j 0)) from cell_below (hc j (by omega)) h))
  have hcd : (fun d => 0 + dcn (okx bs N zs) K N (fnd d) N (fun _ => 0)) = fun d => pdN bs N K zs d (2 ^ N) := by funext d; rw [Nat.zero_add]; exact cd_pd (by omega) hK1 h2 d
  have hbd : ∀ d, 0 + dcn (okx bs N zs) K N (fnd d) N (fun _ => 0) + 1 ≤ 4611686018427387904 := fun d => by
    have h1 := congrFun hcd d
    have h3 : (2 : Nat) ^ N ≤ 2 ^ 12 := Nat.pow_le_pow_right (by decide) hN12
    have h4 := pd_bd (bs := bs) (zs := zs) hN12 hK1 hK d (j := 2 ^ N) (by omega)
    rw [h1]
    omega
  have HLC := hidd (fun (gc gs cs : Nat) W (hL : Lc bs N K zs bl off gs gc (fun _ => 0) (fun _ => 0) W) => lcn82 N K bs hb zs bl off cap gc n1 hN12 hK1 hK h2 hsz N (Nat.le_refl _) (fun _ => 0) (fun _ => 0) gs cs W hL (fun _ _ => Nat.two_pow_pos _) hbd)
  unfold LcPost at HLC
  rw [hcd, show dgL (N + 1) (fun d => pdN bs N K zs d (2 ^ N)) = cdL bs N K zs from rfl, Nat.sub_self] at HLC
  obtain ⟨R, hR⟩ : ∃ R, R = (icells (cdL bs N K zs)).toArray := ⟨_, rfl⟩
  rw [← hR] at HLC ⊢
  have HS := hidd (size_c26 (N : Int) (K : Int) hb)
  have HN1 := hidd h2
  have hmk := make29 (N + 1) (by omega)
  rw [show ((N + 1 : Nat) : Int) = (N : Int) + 1 by omega] at hmk
  have hmk2 := make29 K (by omega)
  have hNw : IntKind.i64.wrap ((N : Int) + 1) = (N : Int) + 1 := IntWalk.i64_in _ (by omega)
  have hNw2 : wrap64 ((N : Int) + 1) = (N : Int) + 1 := IntWalk.wrap64_in _ ⟨by omega, by omega⟩
  obtain ⟨C, hC⟩ : ∃ C, C = (ccells (N : Int) (K : Int) bs).toArray := ⟨_, rfl⟩
  have hC0 : C[0]? = some (.int .i64 (N : Int)) := by rw [hC]; rfl
  have HC1 := hidd (show C[1]? = some (.int .i64 (K : Int)) by rw [hC]; rfl)
  rw [← hC] at HLC HS ⊢
  have HB := Blk.new w C 28 _ rfl
  have c0 := HB.cell hC0
  obtain ⟨W2, hW2⟩ : ∃ W2, W2 = (w.alloc (.cells C 28)).alloc (.cells (zrow (N + 1)) 2) := ⟨_, rfl⟩
  have G := hidd (show Blk W2 w.heap.size C 28 ∧ Blk W2 (w.heap.size + 1) (icells (dgL (N + 1) fun _ => 0)).toArray 2 ∧ Below w.heap.size w W2 from by
    rw [hW2]; exact ⟨HB.alloc _, by rw [← zrow_dg]; exact Blk.new _ _ _ _ (by simp), ((Below.refl _ _).alloc (Nat.le_refl _) _).alloc (by simp) _⟩)
  clear hC HB hcd hbd h2 hsz hb hR hC0 hc hl
  go_enter Tryd.func52, Tryd.ntmps52
  go_upto_region 2 with fail
  rw [← hW2]
  clear hW2 hNw hNw2 c0 hmk
  go_wp2_with fail
  go_loopw [6] (fun e wr => ∃ d : Nat, d ≤ K ∧ e = .int .i64 (d : Int) ∧ W2 = wr) (fun e _ => K - (intOf e).toNat)
  case atStart => exact ⟨0, Nat.zero_le _, rfl, rfl⟩
  case round =>
  obtain ⟨d, hd, rfl, hww⟩ := hrel
  obtain rfl : W2 = wr := hww
  by_cases hlt : d < K
  · have hltI : decide ((d : Int) < (K : Int)) = true := by simp; omega
    have cz := HC.out W2 G.out.2.2 d hlt
    obtain ⟨z, hz⟩ : ∃ z, z = zs.getD d 0 := ⟨_, rfl⟩
    have hne : (z == 1) = false := by rw [beq_eq_false_iff_ne, hz]; have := HN1.out d hlt; omega
    rw [← hz] at cz
    clear hz
    go_wp2_with fail
    go_roundw
    case rel => exact ⟨d + 1, by omega, by go_num, trivial⟩
    case measure => simp [intOf]; omega
  · have hltI : decide ((d : Int) < (K : Int)) = false := by simp; omega
    have c1 := G.out.1.cell HC1.out
    go_wp2_with fail
    refine wp_region_inv 7 rfl (DgI (fun V => { tmps := #[.agg C, .slice (some ⟨bl, off, none⟩) K cap, .pointer (some ⟨w.heap.size, 0, none⟩), undef, u4, .slice (some ⟨w.heap.size + 1, 0, none⟩) (N + 1) (N + 1), .int .i64 (d : Int), .pointer (some ⟨w.heap.size, 0, none⟩), .int .i64 (N : Int), .int .i64 ((N : Int) + 1), .slice (some ⟨w.heap.size + 1, 0, none⟩) (N + 1) (N + 1), .int .i64 (d : Int), .slice (some ⟨bl, off, none⟩) K cap, .int .i64 (K : Int), .bool false, u15, u16, u17, u18, u19, u20, u21, u22, V 0, V 1, V 2, V 3, V 4, V 5, V 6, undef], defers := [] }) (.agg C) (some ⟨bl, off, none⟩) K cap N w.heap.size (w.heap.size + 1) W2 (fun w' => Blk w' (w.heap.size + 1) R 2 ∧ Below w.heap.size w w')) rfl (by kernel_rfl) (fun L a w h => h.1) (DgI.start (fun _ => undef)) ?_ ?_
    · rintro L a w1 i ⟨hs, V, rfl, hF, hB, hT, hD1, hD2⟩ hi hun haf
      have hi7 : i = 0 ∨ i = 1 ∨ i = 2 ∨ i = 3 ∨ i = 4 ∨ i = 5 ∨ i = 6 := by omega
      have HH := hidd (fun (i : Nat) (hi : i < 6) hi4 hi3 (hun : L.getD i true = false) v w' hw hv => DgI.head (Fin := fun w' => Blk w' (w.heap.size + 1) R 2 ∧ Below w.heap.size w w') (A := fun V => { tmps := #[.agg C, .slice (some ⟨bl, off, none⟩) K cap, .pointer (some ⟨w.heap.size, 0, none⟩), undef, u4, .slice (some ⟨w.heap.size + 1, 0, none⟩) (N + 1) (N + 1), .int .i64 (d : Int), .pointer (some ⟨w.heap.size, 0, none⟩), .int .i64 (N : Int), .int .i64 ((N : Int) + 1), .slice (some ⟨w.heap.size + 1, 0, none⟩) (N + 1) (N + 1), .int .i64 (d : Int), .slice (some ⟨bl, off, none⟩) K cap, .int .i64 (K : Int), .bool false, u15, u16, u17, u18, u19, u20, u21, u22, V 0, V 1, V 2, V 3, V 4, V 5, V 6, undef], defers := [] }) hs hF hB hT hD1 hD2 i hi hi4 hi3 hun v (w' := w') hw hv)
      have HB := hidd hB
      have HT := hidd hT
      have HF := hidd hF
      have HD := hidd (And.intro hD1 hD2)
      have HW := hidd (fun (j : Nat) (hj : j < 6) (hun : L.getD j true = false) => (show Below W2.heap.size W2 w1 from by
        refine HB.out ?_
        have hif : L.getD j false = false := by rw [← getD_two (by omega)]; exact hun
        cases h : L.getD 6 false with
        | false => rfl
        | true => rw [(HT.out h).2 j hj] at hif; cases hif))
      clear hi hB hT hF hD1 hD2
      rcases hi7 with rfl | rfl | rfl | rfl | rfl | rfl | rfl
      · clear haf
        refine wpOp_of (o := _) rfl rfl ?_
        refine opRow 28 (.tmp 2) rfl w.heap.size rfl 28 C _ (G.out.1.below (HW.out 0 (by omega) hun) G.out.1.lt) Tryd.underlying28 rfl HS.out ?_
        exact HH.out 0 (by omega) (fun h => absurd h (by decide)) (fun h => absurd h (by decide)) hun _ _ (Below.refl _ _) ⟨fun _ => rfl, fun h => absurd h (by decide), fun h => absurd h (by decide), fun h => absurd h (by decide), fun h => absurd h (by decide), fun h => absurd h (by decide)⟩
      · clear haf
        refine wpOp_of (o := _) rfl rfl ?_
        go_simp
        exact HH.out 1 (by omega) (fun h => absurd h (by decide)) (fun h => absurd h (by decide)) hun _ _ (Below.refl _ _) ⟨fun h => absurd h (by decide), fun _ => rfl, fun h => absurd h (by decide), fun h => absurd h (by decide), fun h => absurd h (by decide), fun h => absurd h (by decide)⟩
      · clear haf
        refine wpOp_of (o := _) rfl rfl ?_
        go_simp
        exact HH.out 2 (by omega) (fun h => absurd h (by decide)) (fun h => absurd h (by decide)) hun _ _ (Below.refl _ _) ⟨fun h => absurd h (by decide), fun h => absurd h (by decide), fun _ => rfl, fun h => absurd h (by decide), fun h => absurd h (by decide), fun h => absurd h (by decide)⟩
      · have ha := haf _ rfl ⟨2, .data⟩ (by simp) rfl
        clear haf
        have e2 := (HF.out 2 (by omega) ha).2.2.1 rfl
        have c1 := (G.out.1.below (HW.out 3 (by omega) hun) G.out.1.lt).cell HC1.out
        refine wpOp_of (o := _) rfl rfl ?_
        simp only [e2]
        go_simp
        have e2 := e2.symm
        simp only [e2]
        exact HH.out 3 (by omega) (fun h => absurd h (by decide)) (fun _ => ha) hun _ _ (Below.refl _ _) ⟨fun h => absurd h (by decide), fun h => absurd h (by decide), fun h => absurd h (by decide), fun _ => rfl, fun h => absurd h (by decide), fun h => absurd h (by decide)⟩
      · have ha := haf _ rfl ⟨3, .data⟩ (by simp) rfl
        clear haf
        have e3 := (HF.out 3 (by omega) ha).2.2.2.1 rfl
        have hB2 := HW.out 4 (by omega) hun
        refine wpOp_of (o := _) rfl rfl ?_
        simp only [e3]
        go_simp
        have hZ : Blk (w1.alloc (.cells (zrow K) 2)) w1.heap.size (icells (dgL K fun _ => 0)).toArray 2 := by rw [← zrow_dg]; exact Blk.new _ _ _ _ rfl
        have h := HH.out 4 (by omega) (fun _ => ha) (fun h => absurd h (by decide)) hun _ _ ((Below.refl w1.heap.size w1).alloc (Nat.le_refl _) (.cells (zrow K) 2)) ⟨fun h => absurd h (by decide), fun h => absurd h (by decide), fun h => absurd h (by decide), fun h => absurd h (by decide), fun _ => ⟨w1.heap.size, rfl, hB2.size, hZ⟩, fun h => absurd h (by decide)⟩
        simpa [updV, e3] using h
      · clear haf
        refine wpOp_of (o := _) rfl rfl ?_
        go_simp
        exact HH.out 5 (by omega) (fun h => absurd h (by decide)) (fun h => absurd h (by decide)) hun _ _ (Below.refl _ _) ⟨fun h => absurd h (by decide), fun h => absurd h (by decide), fun h => absurd h (by decide), fun h => absurd h (by decide), fun h => absurd h (by decide), fun _ => rfl⟩
      · have a0 := haf _ rfl ⟨0, .data⟩ (by simp) rfl
        have a1 := haf _ rfl ⟨1, .data⟩ (by simp) rfl
        have a4 := haf _ rfl ⟨4, .data⟩ (by simp) rfl
        have a5 := haf _ rfl ⟨5, .data⟩ (by simp) rfl
        have a3 := HD.out.1 a4
        have a2 := HD.out.2 a3
        clear haf
        have e0 := (HF.out 0 (by omega) a0).1 rfl
        have e1 := (HF.out 1 (by omega) a1).2.1 rfl
        obtain ⟨g, e4, lg, kg⟩ := (HF.out 4 (by omega) a4).2.2.2.2.1 rfl
        have e5 := (HF.out 5 (by omega) a5).2.2.2.2.2 rfl
        have h6f : L.getD 6 false = false := by rw [← getD_two (by omega)]; exact hun
        have hBw := HB.out h6f
        have hW2 : w.heap.size + 1 < W2.heap.size := G.out.2.1.lt
        have hL : Lc bs N K zs bl off g (w.heap.size + 1) (fun _ => 0) (fun _ => 0) w1 :=
          ⟨fun j hj => HC.out w1 (G.out.2.2.trans (hBw.mono G.out.2.2.size)) j hj, ⟨g, _, rfl, kg, by simp [dgL_len, icells], fun j hj => by
            rw [dgL_len] at hj
            have h1 := icells_get (zs := dgL K fun _ => 0) (j := j) (by rw [dgL_len]; exact hj)
            simpa using h1⟩, G.out.2.1.below hBw G.out.2.1.lt, by omega, by omega⟩
        refine wpOp_of (o := _) rfl rfl ?_
        simp only [e0, e1, e4, e5]
        go_simp
        refine (HLC.out (w.heap.size + 1) g K w1 hL).mono ?_
        rintro e w' ⟨rfl, k1, k2⟩
        have hgg : (some g : Option Nat) ≠ some (w.heap.size + 1) := by intro e; cases e; omega
        have hall : ∀ j, j < 6 → L.getD j false = true := fun j hj => by
          rcases (show j = 0 ∨ j = 1 ∨ j = 2 ∨ j = 3 ∨ j = 4 ∨ j = 5 by omega) with rfl | rfl | rfl | rfl | rfl | rfl
          · exact a0
          · exact a1
          · exact a2
          · exact a3
          · exact a4
          · exact a5
        have hF2 : ∀ j, j < 6 → DgF (.agg C) (some ⟨bl, off, none⟩) K cap N w.heap.size (w.heap.size + 1) W2.heap.size w' j (updV V 6 (.tuple #[]) j) := fun j hj => by
          have h := HF.out j hj (hall j hj)
          simp only [updV]
          rw [if_neg (by omega)]
          exact ⟨h.1, h.2.1, h.2.2.1, h.2.2.2.1, fun e => by obtain ⟨g', h1, h3, h4⟩ := h.2.2.2.2.1 e; exact ⟨g', h1, h3, h4.far k2 (by intro e; cases e; omega)⟩, h.2.2.2.2.2⟩
        have hfin : Blk w' (w.heap.size + 1) R 2 ∧ Below w.heap.size w w' := ⟨k1, Below.ofGrown (G.out.2.2.trans (hBw.mono G.out.2.2.size)) (by have := hBw.size; omega) k2 (by omega)⟩
        refine ⟨by simpa using hs, updV V 6 (.tuple #[]), ?_, fun j hj _ => hF2 j hj, fun h => ?_, fun _ => ⟨hfin, fun j hj => ?_⟩, fun _ => ?_, fun _ => ?_⟩
        · simp [updV, e0, e1, e4, e5]
        · rw [getD_upd (by omega), if_pos rfl] at h; cases h
        · rw [getD_upd (by omega), if_neg (by omega)]; exact hall j hj
        · rw [getD_upd (by omega), if_neg (by omega)]; exact a3
        · rw [getD_upd (by omega), if_neg (by omega)]; exact a2
    · rintro L a w1 ⟨hs, V, rfl, hF, hB, hT, hD1, hD2⟩ hall
      obtain ⟨k1, k2⟩ := (hT (hall 6 (by omega))).1
      have G2 := hidd (And.intro k1 k2)
      clear k1 k2 hF hB hT hall hs hD1 hD2
      go_wp2_with fail
      go_ret
      exact ⟨w.heap.size + 1, rfl, by omega, G2.out.1, G2.out.2⟩
end Go.Proofs.YtckffliiidgilaaDoor
