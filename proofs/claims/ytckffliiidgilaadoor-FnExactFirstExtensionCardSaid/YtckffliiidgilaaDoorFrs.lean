/- freeSets. -/
import Derived.Test.YtckffliiidgilaaDoorFsq
import Derived.Test.YtckffliiidgilaaDoorAvs
import Derived.Test.YtckffliiidgilaaDoorLsp
import Derived.Scope
import Derived.WalkMore
namespace Go.Proofs.YtckffliiidgilaaDoor
set_option linter.unusedVariables false
set_option linter.unusedSimpArgs false
open Go Go.RowKit Go.Shelf
/-- Truth values of which the first j are told. -/
def bcl (f : Nat → Bool) (M j : Nat) : List Value := (List.range M).map fun i => .bool (decide (i < j) && f i)
theorem bcl_len (f : Nat → Bool) (M j : Nat) : (bcl f M j).length = M := by simp [bcl]
theorem bcl_get (f : Nat → Bool) {M j i : Nat} (h : i < M) : (bcl f M j).toArray[i]? = some (.bool (decide (i < j) && f i)) := by simp [bcl, h]
theorem bcl_skip {f : Nat → Bool} {M j : Nat} (h : f j = false) : bcl f M (j + 1) = bcl f M j := by
  unfold bcl
  refine List.map_congr_left fun i hi => ?_
  by_cases e : i = j
  · subst e; rw [h]; simp
  · by_cases h2 : i < j
    · rw [decide_eq_true h2, decide_eq_true (by omega)]
    · rw [decide_eq_false h2, decide_eq_false (by omega)]
theorem bcl_set {f : Nat → Bool} {M j : Nat} (h : f j = true) : (bcl f M j).toArray.setIfInBounds j (.bool true) = (bcl f M (j + 1)).toArray := by
  rw [List.setIfInBounds_toArray]
  congr 1
  apply List.ext_getElem
  · simp [bcl]
  · intro i h1 h2
    rw [List.getElem_set]
    by_cases e : j = i
    · subst e; rw [if_pos rfl]; simp [bcl, h]
    · rw [if_neg e]
      simp only [bcl, List.getElem_map, List.getElem_range]
      by_cases h3 : i < j
      · rw [decide_eq_true h3, decide_eq_true (by omega)]
      · rw [decide_eq_false h3, decide_eq_false (by omega)]
theorem info4 : (Tryd.prog.info? 4).map (fun i => (i.zero, i.size, i.bytes)) = some (some (.bool false), 1, 1) := by kernel_rfl
theorem make101 (f : Nat → Bool) (n : Nat) (h : n ≤ 1048576) (w : World) : (Instr.makeSlice 101 (.int .i64 n) (.int .i64 n)).run Tryd.prog w = .ok (.slice (some ⟨w.heap.size, 0, none⟩) n n) (w.alloc (.cells (bcl f n 0).toArray 4)) := by
  obtain ⟨i, hi, hz0, hz1, hz2⟩ := info_parts info4
  have := run_make (P := Tryd.prog) w 101 4 i (.bool false) Tryd.underlying101 hi hz0 .i64 .i64 n n (by omega) (by omega) (by rw [hz2]; omega) (by omega)
  rw [this, hz1]
  have e : madeCells #[Value.bool false] n = (bcl f n 0).toArray := by
    apply Array.ext_getElem?
    intro j
    by_cases hj : j < n
    · rw [bcl_get f hj]
      simp [madeCells, hj, Nat.mod_one]
    · simp [madeCells, bcl, hj]
  simp [Value.cells, e]
theorem quietMid {P : Program} {C : World → Prop} {o : Oper} {a : Act} {w : World} (ty : TypeId) (x : Operand) (ho : o.op = .load ty x)
    (b off : Nat) (hx : a.eval x = .pointer (some ⟨b, off, none⟩)) (cs : List Value) (d : TypeDesc) (hc : w.rangeAt b off cs)
    (hu : P.underlying ty = some d) (hd : d.isRow = true) (hi : (P.info? ty).map (·.size) = some cs.length) : o.quietAt P a C w (.agg cs.toArray) := by
  unfold Oper.quietAt execOp
  simp only [ho, hx, Instr.loadAt, Instr.sureAddr, Sem.run_bind, Sem.run_pure, Result.andThen_ok, run_loadVar_mid w b off ty cs d hc hu hd hi]
  exact ⟨rfl, rfl⟩
def RelFs (fr : Nat → Bool) (W1 : World) (M j : Nat) (wr : World) : Prop := Blk wr W1.heap.size (bcl fr M j).toArray 4 ∧ Below W1.heap.size W1 wr
set_option maxRecDepth 100000 in
set_option maxHeartbeats 4000000 in
theorem frs85 (N K c : Nat) (bs : List Nat) (hb : Bys bs) (zs : List Int) (a : Option Addr) (cap : Nat) (w : World) (hs : SlI w a zs) (hl : zs.length = K) (n1 : 1 ≤ N) (hN17 : N ≤ 17) (hK : K ≤ 4) (h2 : no1 zs K) (hsz : szP zs K = true) (hc : c < K) :
    Calls Tryd.prog 85 #[.agg (scl (N : Int) (K : Int) bs a K cap).toArray, .int .i64 (c : Int)] w fun e w' => ∃ g : Nat, e = .returned (.slice (some ⟨g, 0, none⟩) (2 ^ N) (2 ^ N)) ∧ w.heap.size ≤ g ∧ Blk w' g (bcl (fre bs N zs c) (2 ^ N) (2 ^ N)).toArray 4 ∧ Below w.heap.size w w' := by
  have HSL := hidd hs
  have hz2 := h2 c hc
  have hz17 := (inB_bd (szP_get hsz hc)).2
  have HNO := hidd (fun S s hs ha => fre_no (bs := bs) (c := c) (S := S) hN17 h2 hc (s := s) hs ha)
  have HYE := hidd (fun S h => fre_yes (bs := bs) (c := c) (S := S) hN17 h2 hc h)
  obtain ⟨z, hz⟩ : ∃ z, z = zs.getD c 0 := ⟨_, rfl⟩
  rw [← hz] at hz2 hz17 HNO HYE
  have hwz : IntKind.i64.wrap (z - 1) = z - 1 := IntWalk.i64_in _ (by omega)
  have HCO := hidd (fun W => cos75 N (K : Int) (c : Int) (z - 1) bs hb W n1 hN17)
  obtain ⟨fr, hfr⟩ : ∃ fr, fr = fre bs N zs c := ⟨_, rfl⟩
  rw [← hfr] at HNO HYE ⊢
  obtain ⟨L, hL⟩ : ∃ L, L = csL (nsF bs (c : Int) (eseq N)) N (z - 1) := ⟨_, rfl⟩
  rw [← hL] at HNO HYE HCO
  have hLM : L.length ≤ 131072 := by rw [hL]; unfold csL; exact Nat.le_trans (List.length_filter_le _ _) (cqR_many _ hN17)
  have HSH := hidd (fun s (hs : s ∈ L) => show ∀ q ∈ s, q < 17 by
    rw [hL] at hs
    intro q hq
    have := (mem_cqE.1 (cs_mem hN17 hs).1).2.2 q hq
    omega)
  obtain ⟨FU, Y, hFU, hFU17, hY, hmn, hu, hsh, hsh2, hfu, hfu2⟩ := full_facts n1 hN17
  have hYN : Y = 2 ^ N := by rw [hY, hFU]; exact Nat.sub_add_cancel Nat.one_le_two_pow
  have hY17 : Y ≤ 131072 := by rw [hYN]; exact Nat.pow_le_pow_right (by decide) hN17
  rw [← hYN]
  clear hFU hfu hfu2 hY
  have HMK := hidd (fun W => make101 fr Y (Nat.le_trans hY17 (by decide)) W)
  have S1 := hidd (size_l28 (N : Int) (K : Int) hb)
  obtain ⟨C, hC⟩ : ∃ C, C = (scl (N : Int) (K : Int) bs a K cap).toArray := ⟨_, rfl⟩
  have hC0 := hidd (show C[0]? = some (.int .i64 (N : Int)) by rw [hC]; exact scl_fst 0 _ rfl)
  have hC1 := hidd (show C[138]? = some (.slice a K cap) by rw [hC]; exact scl_snd hb)
  have HR := hidd (fun W (h : Blk W w.heap.size C 56) => h.range 0 (ccells (N : Int) (K : Int) bs) (fun j v hj => by rw [hC]; exact scl_fst j v hj))
  rw [← hC]
  rcases hs with hzz | ⟨bl, off, ha, hcell⟩
  · rw [hzz] at hl; simp at hl; omega
  · subst ha
    have hcz := hcell c (by omega)
    rw [← hz] at hcz
    have HG := hidd (And.intro (Blk.new w C 56 _ rfl) ((Below.refl w.heap.size w).alloc (Nat.le_refl _) (.cells C 56)))
    have HSS := hidd (fun W (h1 : Blk W w.heap.size C 56) (h2 : Below w.heap.size w W) => (⟨h1, h1.cell hC1.out, cell_below hcz h2⟩ : Blk W w.heap.size C 56 ∧ W.cell? ⟨w.heap.size, 138, none⟩ = some (.slice (some ⟨bl, off, none⟩) K cap) ∧ W.cell? ⟨bl, off + c, none⟩ = some (.int .i64 z)))
    have HRG := hidd (fun W (h : Blk W w.heap.size C 56 ∧ W.cell? ⟨w.heap.size, 138, none⟩ = some (.slice (some ⟨bl, off, none⟩) K cap) ∧ W.cell? ⟨bl, off + c, none⟩ = some (.int .i64 z)) => HR.out W h.1)
    clear hC hcell hcz hL hfr hz hsz h2 hl hYN hb
    go_enter Tryd.func85, Tryd.ntmps85
    obtain ⟨W0, hW0⟩ : ∃ W0, W0 = w.alloc (.cells C 56) := ⟨_, rfl⟩
    rw [← hW0] at HG
    go_wp2_with fail
    rw [← hW0]
    clear hW0
    refine wp_scope_straight ?_
    go_wp2_with fail
    refine wp_region_held_drew (S := (fun W => Blk W w.heap.size C 56 ∧ W.cell? ⟨w.heap.size, 138, none⟩ = some (.slice (some ⟨bl, off, none⟩) K cap) ∧ W.cell? ⟨bl, off + c, none⟩ = some (.int .i64 z))) (by kernel_rfl) ?_ (fun hHeld => ?_)
    · exact HSS.out _ HG.out.1.drew (below_drewN HG.out.2 1)
    refine wpAnyH_take (i := 0) (oi := _) (v := ?_) rfl (by kernel_rfl) (by kernel_rfl) (by kernel_rfl) (fun _ _ _ h => h) (Or.inl ⟨by rfl, ?_⟩) (by assumption) ?_
    rotate_left
    · intro wX hSw; (try dsimp only at hSw); go_simp; first | done | with_reducible rfl
    simp only [List.getElem_toArray, List.getElem_cons_succ, List.getElem_cons_zero, Act.put, List.setIfInBounds_toArray, List.set_cons_zero, List.set_cons_succ]
    refine wpAnyH_take (i := 1) (oi := _) (v := _) rfl (by kernel_rfl) (by kernel_rfl) (by kernel_rfl) (fun _ _ _ h => h) (yieldsIf_load_mid (by rfl) _ _ rfl _ _ rfl _ _ (HRG.out) Tryd.underlying28 rfl (S1.out)) (by assumption) ?_
    simp only [List.getElem_toArray, List.getElem_cons_succ, List.getElem_cons_zero, Act.put, List.setIfInBounds_toArray, List.set_cons_zero, List.set_cons_succ]
    refine wpAnyH_take (i := 2) (oi := _) (v := ?_) rfl (by kernel_rfl) (by kernel_rfl) (by kernel_rfl) (fun _ _ _ h => h) (Or.inl ⟨by rfl, ?_⟩) (by assumption) ?_
    rotate_left
    · intro wX hSw; (try dsimp only at hSw); go_simp; first | done | with_reducible rfl
    simp only [List.getElem_toArray, List.getElem_cons_succ, List.getElem_cons_zero, Act.put, List.setIfInBounds_toArray, List.set_cons_zero, List.set_cons_succ]
    refine wpAnyH_take (i := 3) (oi := _) (v := ?_) rfl (by kernel_rfl) (by kernel_rfl) (by kernel_rfl) (fun _ _ _ h => h) (Or.inl ⟨by rfl, ?_⟩) (by assumption) ?_
    rotate_left
    · intro wX hSw; (try dsimp only at hSw); go_simp; first | done | with_reducible rfl
    simp only [List.getElem_toArray, List.getElem_cons_succ, List.getElem_cons_zero, Act.put, List.setIfInBounds_toArray, List.set_cons_zero, List.set_cons_succ]
    refine wpAnyH_take (i := 4) (oi := _) (v := ?_) rfl (by kernel_rfl) (by kernel_rfl) (by kernel_rfl) (fun _ _ _ h => h) (Or.inl ⟨by rfl, ?_⟩) (by assumption) ?_
    rotate_left
    · intro wX hSw; (try dsimp only at hSw); go_simp; first | done | with_reducible rfl
    simp only [List.getElem_toArray, List.getElem_cons_succ, List.getElem_cons_zero, Act.put, List.setIfInBounds_toArray, List.set_cons_zero, List.set_cons_succ]
    refine wpAnyH_take (i := 5) (oi := _) (v := ?_) rfl (by kernel_rfl) (by kernel_rfl) (by kernel_rfl) (fun _ _ _ h => h) (Or.inl ⟨by rfl, ?_⟩) (by assumption) ?_
    rotate_left
    · intro wX hSw; (try dsimp only at hSw); go_simp; first | done | with_reducible rfl
    simp only [List.getElem_toArray, List.getElem_cons_succ, List.getElem_cons_zero, Act.put, List.setIfInBounds_toArray, List.set_cons_zero, List.set_cons_succ]
    refine wpAnyH_take (i := 6) (oi := _) (v := ?_) rfl (by kernel_rfl) (by kernel_rfl) (by kernel_rfl) (fun _ _ _ h => h) (Or.inl ⟨by rfl, ?_⟩) (by assumption) ?_
    rotate_left
    · intro wX hSw; (try dsimp only at hSw); go_simp; first | done | with_reducible rfl
    simp only [List.getElem_toArray, List.getElem_cons_succ, List.getElem_cons_zero, Act.put, List.setIfInBounds_toArray, List.set_cons_zero, List.set_cons_succ]
    refine wpAnyH_take (i := 7) (oi := _) (v := ?_) rfl (by kernel_rfl) (by kernel_rfl) (by kernel_rfl) (fun _ _ _ h => h) (Or.inl ⟨by rfl, ?_⟩) (by assumption) ?_
    rotate_left
    · intro wX hSw; (try dsimp only at hSw); go_simp; first | done | with_reducible rfl
    simp only [List.getElem_toArray, List.getElem_cons_succ, List.getElem_cons_zero, Act.put, List.setIfInBounds_toArray, List.set_cons_zero, List.set_cons_succ]
    refine wpAnyH_take (i := 8) (oi := _) (v := ?_) rfl (by kernel_rfl) (by kernel_rfl) (by kernel_rfl) (fun _ _ _ h => h) (Or.inl ⟨by rfl, ?_⟩) (by assumption) ?_
    rotate_left
    · intro wX hSw; (try dsimp only at hSw); go_simp; first | done | with_reducible rfl
    simp only [List.getElem_toArray, List.getElem_cons_succ, List.getElem_cons_zero, Act.put, List.setIfInBounds_toArray, List.set_cons_zero, List.set_cons_succ]
    refine wpAnyH_ready (rs := [9]) (by kernel_rfl) (by simp) (AllReadyH.cons (o := _) rfl (fun KQ hKQ => ?_) AllReadyH.nil)
    go_simp
    refine (HCO.out _).mono ?_
    rintro e W1 ⟨aL, cL, rfl, hSU, hbX⟩
    have hbD : Below W0.heap.size W0 W1 := (Below.refl W0.heap.size W0).drew.trans hbX
    have K1 := hidd (And.intro (HG.out.1.below hbD HG.out.1.lt) (And.intro (HG.out.2.trans (hbD.mono HG.out.2.size)) hSU))
    clear hSU hbX hbD
    go_wp2_with fail
    refine hKQ.out _ _ ?_ (fun hNext => ?_)
    · exact HSS.out _ K1.out.1 K1.out.2.1
    clear hKQ KQ hHeld
    have hHeld := hNext
    clear hNext
    refine wpAnyH_ready (rs := [10]) (by kernel_rfl) (by simp) (AllReadyH.cons (o := _) rfl (fun KQ hKQ => ?_) AllReadyH.nil)
    go_simp
    refine hKQ.out _ _ ?_ (fun hNext => ?_)
    · exact hHeld
    clear hKQ KQ hHeld
    have hHeld := hNext
    clear hNext
    refine wpAnyH_done (by kernel_rfl) ?_ _
    clear hHeld
    have c0 := K1.out.1.cell hC0.out
    have hmk := HMK.out
    have K2 := hidd (show RelFs fr W1 Y 0 (W1.alloc (.cells (bcl fr Y 0).toArray 4)) from ⟨Blk.new _ _ _ _ rfl, (Below.refl _ _).alloc (Nat.le_refl _) _⟩)
    have HSU := hidd (K1.out.2.2)
    have HW1 := hidd (show w.heap.size ≤ W1.heap.size from K1.out.2.1.size)
    go_wp2_with fail
    refine wp_label ?_
    clear hsh hsh2 hu hmn hwz hmk c0 hFU17
    go_wp2_with fail
    go_loopw [27] (fun e wr => ∃ j : Nat, j ≤ Y ∧ e = .int .i64 (j : Int) ∧ Hid (RelFs fr W1 Y j wr)) (fun e _ => Y - (intOf e).toNat)
    case atStart => exact ⟨0, Nat.zero_le _, rfl, K2.out⟩
    case round =>
      obtain ⟨j, hj, rfl, HK⟩ := hrel
      by_cases hlt : j < Y
      · have hltI : decide ((j : Int) < (Y : Int)) = true := by simp; omega
        have hw32 : IntKind.u32.wrap (j : Int) = (j : Int) := u32_in (by omega) (by omega)
        obtain ⟨wo, rfl⟩ : ∃ wo, wo = wr := ⟨_, rfl⟩
        go_wp2_with fail
        go_loopw [32] (fun e wr => ∃ i : Nat, i ≤ L.length ∧ e = .int .i64 (i : Int) ∧ Hid ((∀ i' s, i' < i → L[i']? = some s → adn (bitS s) j ≠ 0) ∧ wo = wr)) (fun e _ => L.length - (intOf e).toNat)
        case atStart => exact ⟨0, Nat.zero_le _, rfl, fun i' s h => by omega, rfl⟩
        case round =>
          obtain ⟨i, hi, rfl, HI, hww⟩ := hrel
          obtain rfl : wo = wr := hww
          have HI' := hidd HI
          clear HI
          by_cases hil : i < L.length
          · have hiI : decide ((i : Int) < (L.length : Int)) = true := by simp; omega
            have hget : L[i]? = some L[i] := List.getElem?_eq_getElem hil
            have hmem : L[i] ∈ L := List.getElem_mem hil
            obtain ⟨s, hse⟩ : ∃ s, s = L[i] := ⟨_, rfl⟩
            rw [← hse] at hget hmem
            have hs17 := HSH.out s hmem
            have hXl : bitS s < 2 ^ 17 := bitS_lt s hs17
            have hand := u32_andnot_nat (bitS s) j (by omega) (by omega)
            obtain ⟨X, hX⟩ : ∃ X, X = bitS s := ⟨_, rfl⟩
            obtain ⟨A, hA⟩ : ∃ A, A = adn (bitS s) j := ⟨_, rfl⟩
            rw [← hA, ← hX] at hand
            rcases HSU.out with hz0 | ⟨g, hg, hgl, hcell⟩
            · rw [hz0] at hil; simp at hil
            · subst hg
              have ce := hcell i _ hget
              rw [← HK.out.2.cell (p := ⟨g, i, none⟩) hgl, ← hX] at ce
              by_cases hA0 : A = 0
              · have hAI : ((A : Int) == 0) = true := by rw [hA0]; rfl
                have hfj : fr j = false := HNO.out j s hmem (by rw [← hA]; exact hA0)
                have K3 := hidd (show RelFs fr W1 Y (j + 1) wo from ⟨by rw [bcl_skip hfj]; exact HK.out.1, HK.out.2⟩)
                clear hcell hfj hA0 hX hse hmem hget
                go_wp2_with fail
                go_roundw
                case rel => exact ⟨j + 1, by omega, by go_num, K3.out⟩
                case measure => simp [intOf]; omega
              · have hAI : ((A : Int) == 0) = false := by rw [beq_eq_false_iff_ne]; omega
                have HST := hidd (show ∀ i' s, i' < i + 1 → L[i']? = some s → adn (bitS s) j ≠ 0 from fun i' s' hi' hg' => by
                  by_cases e : i' = i
                  · subst e
                    rw [hget] at hg'
                    cases hg'
                    rw [← hA]; exact hA0
                  · exact HI'.out i' s' (by omega) hg')
                clear hcell hA0 hX hse hmem hget
                go_wp2_with fail
                go_roundw
                case rel => exact ⟨i + 1, by omega, by go_num, HST.out, trivial⟩
                case measure => simp [intOf]; omega
          · have hiI : decide ((i : Int) < (L.length : Int)) = false := by simp; omega
            have hie : i = L.length := by omega
            subst hie
            have hfj : fr j = true := HYE.out j (fun s hs => by
              obtain ⟨i', hi', he⟩ := List.getElem_of_mem hs
              exact HI'.out i' s hi' (by rw [List.getElem?_eq_getElem hi', he]))
            have h4 := HK.out.1.fro j
            have h5 := HK.out.1.cell (bcl_get fr hlt)
            have h6 := HK.out.1.same j (.bool true)
            rw [bcl_set hfj] at h6
            have hlg := HW1.out
            have K3 := hidd (show RelFs fr W1 Y (j + 1) (wo.setCell ⟨W1.heap.size, j, none⟩ (.bool true)) from ⟨h6, HK.out.2.setCell (Nat.le_refl _) _⟩)
            clear h6 hfj
            go_wp2_with fail
            go_roundw
            case rel => exact ⟨j + 1, by omega, by go_num, K3.out⟩
            case measure => simp [intOf]; omega
      · have hltI : decide ((j : Int) < (Y : Int)) = false := by simp; omega
        have hje : j = Y := by omega
        subst hje
        go_wp2_with fail
        rw [Exit.noGoto_ret]
        go_ret
        exact ⟨W1.heap.size, rfl, HW1.out, HK.out.1, K1.out.2.1.trans (HK.out.2.mono HW1.out)⟩
end Go.Proofs.YtckffliiidgilaaDoor
