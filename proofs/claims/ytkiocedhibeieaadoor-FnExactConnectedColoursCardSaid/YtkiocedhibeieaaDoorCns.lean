/- ConnectedColours: the model. -/
import Derived.Test.YtkiocedhibeieaaDoorCno
namespace Go.Proofs.YtkiocedhibeieaaDoor
set_option linter.unusedVariables false
set_option linter.unusedSimpArgs false
open Go Go.RowKit Go.Shelf
/-- A list that grows in blocks of its own from w on. -/
def RelCj (C : Array Value) (p : Nat → Bool) (w : World) (j : Nat) (v : Value) (wr : World) : Prop :=
  Blk wr w.heap.size C 28 ∧ wr.ownsRow (w.heap.size + 1) 2 1 v (nbK p j).length (icells (nbK p j)) ∧ Below w.heap.size w wr
theorem RelCj.below {C : Array Value} {p : Nat → Bool} {w wr w2 : World} {j : Nat} {v : Value} (h : RelCj C p w j v wr) (hb : Below wr.heap.size wr w2) : RelCj C p w j v w2 :=
  ⟨h.1.below hb h.1.lt, own_below h.2.1 hb (Nat.le_refl _), h.2.2.trans (hb.mono h.2.2.size)⟩
theorem RelCj.skip {C : Array Value} {p : Nat → Bool} {w wr : World} {j : Nat} {v : Value} (h : RelCj C p w j v wr) (hp : p j = false) : RelCj C p w (j + 1) v wr := by
  unfold RelCj at h ⊢
  rw [nbK, hp]
  exact h
theorem RelCj.more {C : Array Value} {p : Nat → Bool} {w wr w2 : World} {j : Nat} {v v' : Value} {o : Obj} (h : RelCj C p w j v wr) (hp : p j = true) (hg : (wr.alloc o).grownBy w2 v.ownBlock) (hown : w2.ownsRow (w.heap.size + 1) 2 1 v' ((nbK p j).length + 1) (icells (nbK p j) ++ [.int .i64 (j : Int)])) : RelCj C p w (j + 1) v' w2 := by
  have hlt := h.1.lt
  have hb1 := grown_step h.2.1 hg (by omega)
  have e : nbK p (j + 1) = nbK p j ++ [(j : Int)] := by rw [nbK, hp]; rfl
  refine ⟨h.1.below hb1 (by omega), ?_, h.2.2.trans (hb1.mono (by omega))⟩
  rw [e, icells_app, List.length_append]
  exact hown
set_option maxRecDepth 100000 in
set_option maxHeartbeats 4000000 in
theorem spec37_good (N K : Nat) (bs : List Nat) (hb : Bys bs) (n1 : 1 ≤ N) (n2 : N ≤ 17) (k2 : K ≤ 4) (hi : isCol (N : Int) (K : Int) bs = true) (w : World) :
    Calls Tryd.prog 37 #[.agg (ccells (N : Int) (K : Int) bs).toArray] w (LOut w (nbK (cnB N bs) K) 0) := by
  have HS := hidd (size_c26 (N : Int) (K : Int) hb)
  have HSL := hidd (show (Tryd.prog.info? 28).map (·.size) = some (ccells (N : Int) (K : Int) bs).length by rw [size26]; simp [ccells_len, hb.len])
  have HC0 := hidd (show (ccells (N : Int) (K : Int) bs).toArray[0]? = some (.int .i64 (N : Int)) from rfl)
  have HC1 := hidd (show (ccells (N : Int) (K : Int) bs).toArray[1]? = some (.int .i64 (K : Int)) from rfl)
  have HIS := hidd (fun W => l01Is_any (N : Int) (K : Int) bs hb W)
  rw [hi] at HIS
  have HR := hidd (fun (j : Nat) W => rows74 N (K : Int) bs hb (j : Int) n1 n2 W)
  have hu : IntKind.u64.wrap (N : Int) = (N : Int) := by unfold IntKind.wrap; simp [IntKind.signed, IntKind.bits]; omega
  have hmn : min N 64 = N := by omega
  obtain ⟨Y, hY⟩ : ∃ Y : Nat, Y = 2 ^ N := ⟨_, rfl⟩
  have hYv : Y ≤ 131072 := by rw [hY]; exact Nat.pow_le_pow_right (by omega) n2
  have hY1 : 1 ≤ Y := by rw [hY]; exact Nat.two_pow_pos N
  have hsh : IntKind.i64.wrap (2 ^ N) = (Y : Int) := by rw [show (2 : Int) ^ N = ((2 ^ N : Nat) : Int) by simp, ← hY]; exact IntWalk.i64_in _ (by omega)
  have HYE := hidd hY
  have hwy : IntKind.i64.wrap ((Y : Int) - 1) = (Y : Int) - 1 := IntWalk.i64_in _ (by omega)
  obtain ⟨t0, hi2, hz0, hz1, hz3⟩ := info_parts info2
  have HIF := hidd (And.intro hi2 (And.intro hz0 (And.intro hz1 hz3)))
  clear hi hY hi2 hz0 hz1 hz3
  go_enter Tryd.func37, Tryd.ntmps37
  go_wp2_with (refine wpList_load_row rfl 28 (.tmp 1) rfl w.heap.size rfl 28 _ (0,0) _ (Blk.new _ _ _ _ rfl) Tryd.underlying28 rfl HS.out ?_)
  refine (HIS.out _).mono ?_
  rintro e w1 ⟨rfl, hb1⟩
  have HR0 : RelCj (ccells (N : Int) (K : Int) bs).toArray (cnB N bs) w 0 (.slice (some ⟨w1.heap.size, 0, none⟩) 0 0) (w1.alloc (.cells #[] 2)) := by
    have g0 := (Blk.new w (ccells (N : Int) (K : Int) bs).toArray 28 _ rfl).below hb1 (by simp)
    have g1 := ((Below.refl w.heap.size w).alloc (Nat.le_refl _) (.cells (ccells (N : Int) (K : Int) bs).toArray 28)).trans (hb1.mono (by simp))
    have a2 : Below w1.heap.size w1 (w1.alloc (.cells #[] 2)) := (Below.refl _ _).alloc (Nat.le_refl _) _
    have hs : w.heap.size < w1.heap.size := g0.lt
    exact ⟨g0.below a2 g0.lt, ⟨rfl, .inr ⟨w1.heap.size, 0, #[], rfl, by omega, Blk.new _ _ _ _ rfl, Nat.le_refl _, by simp [maxLen], rfl, rfl⟩⟩, g1.trans (a2.mono g1.size)⟩
  have HR0 := hidd HR0
  clear hb1
  go_wp2_with fail
  go_loopw [4, 5] (fun eo ej wr => ∃ (j : Nat) (vo : Value), j ≤ K ∧ ej = .int .i64 (j : Int) ∧ vo = eo ∧ Hid (RelCj (ccells (N : Int) (K : Int) bs).toArray (cnB N bs) w j vo wr)) (fun _ ej _ => K - (intOf ej).toNat)
  case atStart => exact ⟨0, _, by omega, rfl, rfl, HR0⟩
  case round =>
    clear HR0
    obtain ⟨j, vo, hj, rfl, rfl, HK⟩ := hrel
    have c1 := HK.out.1.cell HC1.out
    have c0 := HK.out.1.cell HC0.out
    by_cases hlt : j < K
    · have hltI : decide ((j : Int) < (K : Int)) = true := by simp; omega
      obtain ⟨C, hC⟩ : ∃ C, C = cmC (cpG bs (j : Int) N) N 0 := ⟨_, rfl⟩
      have hC17 : C < 2 ^ 17 := by rw [hC]; exact cmC_lt (cpG_17 bs _ n2) (by omega)
      have hcn : cnB N bs j = decide (C = Y - 1) := by unfold cnB; rw [hC, HYE.out]
      have HCM := hidd (fun (W : World) ar cap (ho : OwnL W wr.heap.size ar (fillA (rowF N bs (j : Int)) N)) => comp67 N (cpG bs (j : Int) N) 0 ar cap _ W n2 (by omega) (cpG_17 bs _ n2) (fillA_len _ _) (fun i hi => fillA_get _ hi) ho.sl)
      simp only [← hC, fillA_len] at HCM
      have HSB := hidd (fun (W W' : World) (h : Blk W w.heap.size (ccells (N : Int) (K : Int) bs).toArray 28) (hb : Below W.heap.size W W') => h.below hb h.lt)
      have HRG := hidd (fun (W : World) (h : Blk W w.heap.size (ccells (N : Int) (K : Int) bs).toArray 28) => h.range 0 (ccells (N : Int) (K : Int) bs) (fun i v hv => by rw [Nat.zero_add]; simpa using hv))
      have HCX := hidd (fun (W : World) (h : Blk W w.heap.size (ccells (N : Int) (K : Int) bs).toArray 28) => h.cell HC0.out)
      have hlen : (nbK (cnB N bs) j).length ≤ 4 := by have := nbK_len (cnB N bs) j; omega
      cases hq : ((C : Int) == (Y : Int) - 1) with
      | true =>
        have hCY : C = Y - 1 := by have := eq_of_beq hq; omega
        have HP := hidd (show cnB N bs j = true by rw [hcn]; exact decide_eq_true hCY)
        clear hcn hCY hC
        go_wp2_with fail
        refine wp_region_held_drew (S := (fun W => Blk W w.heap.size (ccells (N : Int) (K : Int) bs).toArray 28)) (by kernel_rfl) ?_ (fun hHeld => ?_)
        · exact HK.out.1
        refine wpAnyH_take (i := 0) (oi := _) (v := _) rfl (by kernel_rfl) (by kernel_rfl) (by kernel_rfl) (fun _ _ _ h => h) (yieldsIf_load_mid (by rfl) _ _ rfl _ _ rfl _ _ (HRG.out) Tryd.underlying28 rfl (HSL.out)) (by assumption) ?_
        simp only [List.getElem_toArray, List.getElem_cons_succ, List.getElem_cons_zero, Act.put, List.setIfInBounds_toArray, List.set_cons_zero, List.set_cons_succ]
        refine wpAnyH_take (i := 1) (oi := _) (v := ?_) rfl (by kernel_rfl) (by kernel_rfl) (by kernel_rfl) (fun _ _ _ h => h) (Or.inl ⟨by rfl, ?_⟩) (by assumption) ?_
        rotate_left
        · intro wX hSw; (try dsimp only at hSw); go_simp; first | done | with_reducible rfl
        simp only [List.getElem_toArray, List.getElem_cons_succ, List.getElem_cons_zero, Act.put, List.setIfInBounds_toArray, List.set_cons_zero, List.set_cons_succ]
        refine wpAnyH_take (i := 4) (oi := _) (v := ?_) rfl (by kernel_rfl) (by kernel_rfl) (by kernel_rfl) (fun _ _ _ h => h) (Or.inl ⟨by rfl, ?_⟩) (by assumption) ?_
        rotate_left
        · intro wX hSw; (try dsimp only at hSw); go_simp; first | done | with_reducible rfl
        simp only [List.getElem_toArray, List.getElem_cons_succ, List.getElem_cons_zero, Act.put, List.setIfInBounds_toArray, List.set_cons_zero, List.set_cons_succ]
        refine wpAnyH_take (i := 5) (oi := _) (v := ?_) rfl (by kernel_rfl) (by kernel_rfl) (by kernel_rfl) (fun _ _ _ h => h) (Or.inl ⟨by rfl, ?_⟩) (by assumption) ?_
        rotate_left
        · intro wX hSw; have e1 := HCX.out wX hSw; go_simp; first | done | with_reducible rfl
        simp only [List.getElem_toArray, List.getElem_cons_succ, List.getElem_cons_zero, Act.put, List.setIfInBounds_toArray, List.set_cons_zero, List.set_cons_succ]
        refine wpAnyH_take (i := 6) (oi := _) (v := ?_) rfl (by kernel_rfl) (by kernel_rfl) (by kernel_rfl) (fun _ _ _ h => h) (Or.inl ⟨by rfl, ?_⟩) (by assumption) ?_
        rotate_left
        · intro wX hSw; (try dsimp only at hSw); go_simp; first | done | with_reducible rfl
        simp only [List.getElem_toArray, List.getElem_cons_succ, List.getElem_cons_zero, Act.put, List.setIfInBounds_toArray, List.set_cons_zero, List.set_cons_succ]
        refine wpAnyH_take (i := 7) (oi := _) (v := ?_) rfl (by kernel_rfl) (by kernel_rfl) (by kernel_rfl) (fun _ _ _ h => h) (Or.inl ⟨by rfl, ?_⟩) (by assumption) ?_
        rotate_left
        · intro wX hSw; (try dsimp only at hSw); go_simp; first | done | with_reducible rfl
        simp only [List.getElem_toArray, List.getElem_cons_succ, List.getElem_cons_zero, Act.put, List.setIfInBounds_toArray, List.set_cons_zero, List.set_cons_succ]
        refine wpAnyH_take (i := 8) (oi := _) (v := ?_) rfl (by kernel_rfl) (by kernel_rfl) (by kernel_rfl) (fun _ _ _ h => h) (Or.inl ⟨by rfl, ?_⟩) (by assumption) ?_
        rotate_left
        · intro wX hSw; (try dsimp only at hSw); go_simp; first | done | with_reducible rfl
        simp only [List.getElem_toArray, List.getElem_cons_succ, List.getElem_cons_zero, Act.put, List.setIfInBounds_toArray, List.set_cons_zero, List.set_cons_succ]
        refine wpAnyH_ready (rs := [2]) (by kernel_rfl) (by simp) (AllReadyH.cons (o := _) rfl (fun KQ hKQ => ?_) AllReadyH.nil)
        go_simp
        refine (HR.out j _).mono ?_
        rintro e W1 ⟨ar, cr, rfl, ho, hbY⟩
        have hbX : Below wr.heap.size wr W1 := ((Below.refl wr.heap.size wr).drew).trans hbY
        have hB1 := HSB.out _ _ HK.out.1 hbX
        refine hKQ.out _ _ ?_ (fun hNext => ?_)
        · exact hB1
        clear hKQ KQ hHeld
        have hHeld := hNext
        clear hNext
        refine wpAnyH_ready (rs := [3]) (by kernel_rfl) (by simp) (AllReadyH.cons (o := _) rfl (fun KQ hKQ => ?_) AllReadyH.nil)
        go_simp
        refine (HCM.out W1 ar cr ho).mono ?_
        rintro e W2 ⟨rfl, hW2⟩
        subst hW2
        refine hKQ.out _ _ ?_ (fun hNext => ?_)
        · exact hB1
        clear hKQ KQ hHeld
        have hHeld := hNext
        clear hNext
        refine wpAnyH_take (i := 9) (oi := _) (v := ?_) rfl (by kernel_rfl) (by kernel_rfl) (by kernel_rfl) (fun _ _ _ h => h) (Or.inl ⟨by rfl, ?_⟩) (by assumption) ?_
        rotate_left
        · intro wX hSw; (try dsimp only at hSw); go_simp; first | done | with_reducible rfl
        simp only [List.getElem_toArray, List.getElem_cons_succ, List.getElem_cons_zero, Act.put, List.setIfInBounds_toArray, List.set_cons_zero, List.set_cons_succ]
        refine wpAnyH_done (by kernel_rfl) ?_ _
        have K1 := hidd (HK.out.below hbX)
        clear hHeld hB1 hbX hbY ho c0 c1
        have hown := K1.out.2.1
        have hsz := K1.out.2.2.size
        have hlt1 := K1.out.1.lt
        go_wp2_with (at_builtin; refine wpList_append_own _ rfl _ _ 25 rfl (w.heap.size + 1) 2 t0 (.int .i64 0) 1 8 Tryd.underlying25 HIF.out.1 HIF.out.2.1 HIF.out.2.2.1 HIF.out.2.2.2 rfl (by decide) _ _ _ rfl (hown.alloc _) ⟨_, 0, none⟩ 1 1 [.int .i64 (j : Int)] rfl rfl ?c1 ?c2 ?c3 ?c4 ?c5 ?_)
        case c1 => exact one_new _ _ _
        case c2 => intro u hu; simp at hu; subst hu; rfl
        case c3 => unfold maxLen; omega
        case c4 => omega
        case c5 => simp; omega
        intro v' w3 hown' hgrow _
        have K3 := hidd (K1.out.more HP.out hgrow hown')
        clear hown' hgrow hown
        go_wp2
        go_roundw
        case rel => exact ⟨j + 1, v', by omega, by go_num, rfl, K3⟩
        case measure => simp [intOf]; omega
      | false =>
        have hCY : ¬ C = Y - 1 := by
          have h1 : ¬ (C : Int) = (Y : Int) - 1 := by simpa using hq
          omega
        have HP := hidd (show cnB N bs j = false by rw [hcn]; exact decide_eq_false hCY)
        clear hcn hCY hC
        go_wp2_with fail
        refine wp_region_held_drew (S := (fun W => Blk W w.heap.size (ccells (N : Int) (K : Int) bs).toArray 28)) (by kernel_rfl) ?_ (fun hHeld => ?_)
        · exact HK.out.1
        refine wpAnyH_take (i := 0) (oi := _) (v := _) rfl (by kernel_rfl) (by kernel_rfl) (by kernel_rfl) (fun _ _ _ h => h) (yieldsIf_load_mid (by rfl) _ _ rfl _ _ rfl _ _ (HRG.out) Tryd.underlying28 rfl (HSL.out)) (by assumption) ?_
        simp only [List.getElem_toArray, List.getElem_cons_succ, List.getElem_cons_zero, Act.put, List.setIfInBounds_toArray, List.set_cons_zero, List.set_cons_succ]
        refine wpAnyH_take (i := 1) (oi := _) (v := ?_) rfl (by kernel_rfl) (by kernel_rfl) (by kernel_rfl) (fun _ _ _ h => h) (Or.inl ⟨by rfl, ?_⟩) (by assumption) ?_
        rotate_left
        · intro wX hSw; (try dsimp only at hSw); go_simp; first | done | with_reducible rfl
        simp only [List.getElem_toArray, List.getElem_cons_succ, List.getElem_cons_zero, Act.put, List.setIfInBounds_toArray, List.set_cons_zero, List.set_cons_succ]
        refine wpAnyH_take (i := 4) (oi := _) (v := ?_) rfl (by kernel_rfl) (by kernel_rfl) (by kernel_rfl) (fun _ _ _ h => h) (Or.inl ⟨by rfl, ?_⟩) (by assumption) ?_
        rotate_left
        · intro wX hSw; (try dsimp only at hSw); go_simp; first | done | with_reducible rfl
        simp only [List.getElem_toArray, List.getElem_cons_succ, List.getElem_cons_zero, Act.put, List.setIfInBounds_toArray, List.set_cons_zero, List.set_cons_succ]
        refine wpAnyH_take (i := 5) (oi := _) (v := ?_) rfl (by kernel_rfl) (by kernel_rfl) (by kernel_rfl) (fun _ _ _ h => h) (Or.inl ⟨by rfl, ?_⟩) (by assumption) ?_
        rotate_left
        · intro wX hSw; have e1 := HCX.out wX hSw; go_simp; first | done | with_reducible rfl
        simp only [List.getElem_toArray, List.getElem_cons_succ, List.getElem_cons_zero, Act.put, List.setIfInBounds_toArray, List.set_cons_zero, List.set_cons_succ]
        refine wpAnyH_take (i := 6) (oi := _) (v := ?_) rfl (by kernel_rfl) (by kernel_rfl) (by kernel_rfl) (fun _ _ _ h => h) (Or.inl ⟨by rfl, ?_⟩) (by assumption) ?_
        rotate_left
        · intro wX hSw; (try dsimp only at hSw); go_simp; first | done | with_reducible rfl
        simp only [List.getElem_toArray, List.getElem_cons_succ, List.getElem_cons_zero, Act.put, List.setIfInBounds_toArray, List.set_cons_zero, List.set_cons_succ]
        refine wpAnyH_take (i := 7) (oi := _) (v := ?_) rfl (by kernel_rfl) (by kernel_rfl) (by kernel_rfl) (fun _ _ _ h => h) (Or.inl ⟨by rfl, ?_⟩) (by assumption) ?_
        rotate_left
        · intro wX hSw; (try dsimp only at hSw); go_simp; first | done | with_reducible rfl
        simp only [List.getElem_toArray, List.getElem_cons_succ, List.getElem_cons_zero, Act.put, List.setIfInBounds_toArray, List.set_cons_zero, List.set_cons_succ]
        refine wpAnyH_take (i := 8) (oi := _) (v := ?_) rfl (by kernel_rfl) (by kernel_rfl) (by kernel_rfl) (fun _ _ _ h => h) (Or.inl ⟨by rfl, ?_⟩) (by assumption) ?_
        rotate_left
        · intro wX hSw; (try dsimp only at hSw); go_simp; first | done | with_reducible rfl
        simp only [List.getElem_toArray, List.getElem_cons_succ, List.getElem_cons_zero, Act.put, List.setIfInBounds_toArray, List.set_cons_zero, List.set_cons_succ]
        refine wpAnyH_ready (rs := [2]) (by kernel_rfl) (by simp) (AllReadyH.cons (o := _) rfl (fun KQ hKQ => ?_) AllReadyH.nil)
        go_simp
        refine (HR.out j _).mono ?_
        rintro e W1 ⟨ar, cr, rfl, ho, hbY⟩
        have hbX : Below wr.heap.size wr W1 := ((Below.refl wr.heap.size wr).drew).trans hbY
        have hB1 := HSB.out _ _ HK.out.1 hbX
        refine hKQ.out _ _ ?_ (fun hNext => ?_)
        · exact hB1
        clear hKQ KQ hHeld
        have hHeld := hNext
        clear hNext
        refine wpAnyH_ready (rs := [3]) (by kernel_rfl) (by simp) (AllReadyH.cons (o := _) rfl (fun KQ hKQ => ?_) AllReadyH.nil)
        go_simp
        refine (HCM.out W1 ar cr ho).mono ?_
        rintro e W2 ⟨rfl, hW2⟩
        subst hW2
        refine hKQ.out _ _ ?_ (fun hNext => ?_)
        · exact hB1
        clear hKQ KQ hHeld
        have hHeld := hNext
        clear hNext
        refine wpAnyH_take (i := 9) (oi := _) (v := ?_) rfl (by kernel_rfl) (by kernel_rfl) (by kernel_rfl) (fun _ _ _ h => h) (Or.inl ⟨by rfl, ?_⟩) (by assumption) ?_
        rotate_left
        · intro wX hSw; (try dsimp only at hSw); go_simp; first | done | with_reducible rfl
        simp only [List.getElem_toArray, List.getElem_cons_succ, List.getElem_cons_zero, Act.put, List.setIfInBounds_toArray, List.set_cons_zero, List.set_cons_succ]
        refine wpAnyH_done (by kernel_rfl) ?_ _
        have K1 := hidd (HK.out.below hbX)
        clear hHeld hB1 hbX hbY ho c0 c1
        have K3 := hidd (K1.out.skip HP.out)
        go_wp2_with fail
        go_roundw
        case rel => exact ⟨j + 1, vo, by omega, by go_num, rfl, K3⟩
        case measure => simp [intOf]; omega
    · have hltI : decide ((j : Int) < (K : Int)) = false := by simp; omega
      have hjK : j = K := by omega
      subst hjK
      obtain ⟨a9, c9, rfl, hLO⟩ := own_list HK.out.2.1
      have K9 := hidd (And.intro (ownL_base hLO (Nat.le_succ _)) HK.out.2.2)
      clear hLO c0
      go_wp2_with fail
      go_ret2
      exact ⟨a9, c9, rfl, K9.out.1, K9.out.2⟩
end Go.Proofs.YtkiocedhibeieaaDoor
