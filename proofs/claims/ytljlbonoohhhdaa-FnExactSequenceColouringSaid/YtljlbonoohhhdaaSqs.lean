/- The colouring of a sequence: the model. -/
import Derived.Test.YtljlbonoohhhdaaSqm
import Derived.Test.YtljlbonoohhhdaaLsr
namespace Go.Proofs.Ytljlbonoohhhdaa
set_option linter.unusedVariables false
set_option linter.unusedSimpArgs false
open Go Go.RowKit Go.Shelf
attribute [local go_sem] Oper.semAt_some
/-- No two numbers before place j are equal, nor is one of the first i that at place j. -/
def NodK (zs : List Int) (j i : Nat) : Prop := ∀ p q, p < q → (q < j ∨ (q = j ∧ p < i)) → zs.getD p 0 ≠ zs.getD q 0
theorem NodK.step {zs : List Int} {j i : Nat} (h : NodK zs j i) (hn : zs.getD i 0 ≠ zs.getD j 0) : NodK zs j (i + 1) := by
  intro p q hp hq
  by_cases e : q = j ∧ p = i
  · obtain ⟨rfl, rfl⟩ := e; exact hn
  · exact h p q hp (by omega)
theorem NodK.row {zs : List Int} {j : Nat} (h : NodK zs j j) : NodK zs (j + 1) 0 := fun p q hp hq => h p q hp (by omega)
theorem NodK.done {zs : List Int} (h : NodK zs zs.length 0) : zs.Nodup := by
  unfold List.Nodup
  rw [List.pairwise_iff_getElem]
  intro p q hp hq hpq
  have := h p q hpq (.inl hq)
  simpa [List.getD, List.getElem?_eq_getElem hp, List.getElem?_eq_getElem hq] using this
theorem nod_no {zs : List Int} {i j : Nat} (hij : i < j) (hj : j < zs.length) (h : zs.getD i 0 = zs.getD j 0) : decide zs.Nodup = false := by
  rw [decide_eq_false_iff_not]
  unfold List.Nodup
  rw [List.pairwise_iff_getElem]
  intro k
  have := k i j (by omega) hj hij
  simp [List.getD, List.getElem?_eq_getElem (show i < zs.length by omega), List.getElem?_eq_getElem hj] at h
  exact this h
/-- What is set lies below. -/
theorem set_high (M : Nat) (r : Nat → Nat → Int) : ∀ (l : List (Nat × Nat × Nat)) (b : List Nat), (∀ t ∈ l, t.1 < M) → (l.foldl (fun b t => b.set t.1 (r t.2.1 t.2.2).toNat) b)[M]? = b[M]?
  | [], _, _ => rfl
  | t :: l, b, h => by
    rw [List.foldl_cons, set_high M r l _ (fun t' ht => h t' (List.mem_cons_of_mem _ ht)), List.getElem?_set_ne]
    have := h t (List.mem_cons_self ..)
    omega
theorem ptB_here (r : Nat → Nat → Int) {j i : Nat} (hi : i < j) (hj : j < 17) : (ptB r j i)[eN j + i]? = some 0 := by
  unfold ptB
  rw [set_high]
  · have h1 := eN_17 (show j + 1 ≤ 17 by omega)
    have h2 : eN (j + 1) = eN j + j := rfl
    unfold zbl
    rw [List.getElem?_replicate, if_pos (by omega)]
  · intro t ht
    rcases List.mem_append.1 ht with h | h
    · have : t.1 ∈ (eseq j).map (·.1) := List.mem_map_of_mem h
      rw [eseq_nums] at this
      have := List.mem_range.1 this
      omega
    · unfold rowE at h
      obtain ⟨m, hm, rfl⟩ := List.mem_map.1 h
      have := List.mem_range.1 hm
      show eN j + m < _
      omega
theorem ptB_zero {r : Nat → Nat → Int} {j i : Nat} (hi : i < j) (hj : j < 17) (hr : r i j = 0) : ptB r j (i + 1) = ptB r j i := by
  rw [ptB_step, hr]
  apply List.ext_getElem?
  intro m
  rw [List.getElem?_set]
  split
  · rename_i e
    subst e
    rw [ptB_here r hi hj]
    split <;> simp_all
    rename_i hlt
    have := ptB_here r hi hj
    rw [List.getElem?_eq_none (by omega)] at this
    cases this
  · rfl
/-- The cell of the answer, the colouring that is being made, the list. -/
def RelSq (zs : List Int) (b off : Nat) (w : World) (j i : Nat) (wr : World) : Prop :=
  Blk wr w.heap.size (ccells 0 0 zbl).toArray 25 ∧ Blk wr (w.heap.size + 1) (ccells (zs.length : Int) 2 (ptB (sqR zs) j i)).toArray 25 ∧ (∀ m, m < zs.length → wr.cell? ⟨b, off + m, none⟩ = some (.int .i64 (zs.getD m 0))) ∧ b < w.heap.size ∧ Below w.heap.size w wr
theorem RelSq.more {zs : List Int} {b off : Nat} {w wr w2 : World} {j i : Nat} (h : RelSq zs b off w j i wr) (hb : Below wr.heap.size wr w2) : RelSq zs b off w j i w2 := by
  refine ⟨h.1.below hb h.1.lt, h.2.1.below hb h.2.1.lt, fun m hm => ?_, h.2.2.2.1, h.2.2.2.2.trans (hb.mono h.2.2.2.2.size)⟩
  have hs : SlI wr (some ⟨b, off, none⟩) zs := .inr ⟨b, off, rfl, h.2.2.1⟩
  rcases hs.below hb (Nat.le_refl _) with hz | ⟨b', off', ha, hc⟩
  · subst hz; simp at hm
  · cases ha; exact hc m hm
theorem RelSq.drew {zs : List Int} {b off : Nat} {w wr : World} {j i : Nat} (h : RelSq zs b off w j i wr) : RelSq zs b off w j i wr.drew := h.more (Below.refl _ _).drew
theorem RelSq.set {zs : List Int} {b off : Nat} {w wr : World} {j i : Nat} (h : RelSq zs b off w j i wr) (hi : i < j) (hj : j < 17) (hr : sqR zs i j = 1) : RelSq zs b off w j (i + 1) (wr.setCell ⟨w.heap.size + 1, 2 + (eN j + i), none⟩ (.int .u8 1)) := by
  obtain ⟨h1, h2, h3, h4, h5⟩ := h
  refine ⟨h1.other _ _ (by show w.heap.size ≠ w.heap.size + 1; omega), ?_, fun m hm => ?_, h4, h5.setCell (p := ⟨w.heap.size + 1, 2 + (eN j + i), none⟩) (by show w.heap.size ≤ w.heap.size + 1; omega) _⟩
  · have s := h2.same (2 + (eN j + i)) (.int .u8 1)
    rw [show (Value.int .u8 1) = .int .u8 ((1 : Nat) : Int) from rfl, ccells_set] at s
    rw [ptB_step, hr]
    exact s
  · have hs : SlI wr (some ⟨b, off, none⟩) zs := .inr ⟨b, off, rfl, h3⟩
    have hbl := (Below.refl w.heap.size wr).setCell (p := ⟨w.heap.size + 1, 2 + (eN j + i), none⟩) (by show w.heap.size ≤ w.heap.size + 1; omega) (.int .u8 1)
    rw [Below.cell hbl (by exact h4)]
    exact h3 m hm
set_option maxRecDepth 100000 in
set_option maxHeartbeats 4000000 in
theorem spec7 (zs : List Int) (a : Option Addr) (cap : Nat) (w : World) (hs : SlI w a zs) (hl : zs.length ≤ 9223372036854775807) :
    Calls Try.prog 7 #[.slice a zs.length cap] w fun e w' => e = .returned (sqOut zs) ∧ Below w.heap.size w w' := by
  have Hz := zero26
  have HZS := hidd size_z26
  have HZ1 := hidd (ccells_one 0 0 zbl)
  have hset : ((ccells 0 0 zbl).set 0 (Value.int .i64 (zs.length : Int))).set 1 (Value.int .i64 2) = ccells (zs.length : Int) 2 zbl := rfl
  have HNS := hidd (size_c26 (zs.length : Int) 2 zbl_bys)
  have HNO := hidd (size_cc 0 0 (zs.length : Int) 2 zbl_bys zbl_bys)
  have HNA := hidd (ccells_one (zs.length : Int) 2 zbl)
  have HB0 := hidd (And.intro (Blk.new w (ccells 0 0 zbl).toArray 25 _ rfl) ((Below.refl w.heap.size w).alloc (Nat.le_refl _) (.cells (ccells 0 0 zbl).toArray 25)))
  have R0 := hidd (And.intro (HB0.out.1.rowSame (ccells 0 0 zbl).toArray) (below_setRow HB0.out.2 (Nat.le_refl _) (ccells 0 0 zbl).toArray))
  cases hin : inB zs.length 1 17 with
  | false =>
    have H := hidd (sqOut_bad (zs := zs) (by unfold sqOk; rw [hin]; rfl))
    have HI := hidd hin
    clear hin hs
    go_enter Try.func7, Try.ntmps7
    go_wp2_with (first
      | (go_at_call 22; refine (in49 _ _ _ _).mono ?_; rintro e _ ⟨rfl, rfl⟩; rw [HI.out])
      | (refine wpList_zero26 rfl rfl ?_)
      | (refine wpList_store_row rfl 25 (.tmp 2) (.tmp 13) rfl w.heap.size _ rfl rfl 25 _ HB0.out.1 HZS.out rfl HZ1.out ?_))
    exact ret_col rfl zbl_bys rfl R0.out.1 rfl rfl ⟨by rw [H.out]; rfl, R0.out.2⟩
  | true =>
    have hb := inB_bd hin
    have HI := hidd hin
    have hz1 : 1 ≤ zs.length := by omega
    have hz2 : zs.length ≤ 17 := by omega
    have HOK := hidd (show sqOk zs = decide zs.Nodup by unfold sqOk; rw [hin]; rfl)
    rcases hs with hz | ⟨b, off, ha, hc⟩
    · subst hz; simp at hz1
    subst ha
    have hbw : b < w.heap.size := block_lt_of_cell (hc 0 (by omega))
    have G := hidd (show ∀ W, W = ((w.alloc (.cells (ccells 0 0 zbl).toArray 25)).alloc (.cells (ccells 0 0 zbl).toArray 25)).setRow (w.heap.size + 1) (ccells (zs.length : Int) 2 zbl).toArray → RelSq zs b off w 1 0 W by
      rintro W rfl
      have hb1 := ((Below.refl w.heap.size w).alloc (Nat.le_refl _) (.cells (ccells 0 0 zbl).toArray 25)).alloc (by simp) (.cells (ccells 0 0 zbl).toArray 25)
      have hb2 := below_setRow hb1 (g := w.heap.size + 1) (by omega) (ccells (zs.length : Int) 2 zbl).toArray
      refine ⟨((Blk.new _ _ _ _ rfl).alloc _).rowOther _ _ (by omega), (Blk.new _ _ _ _ (by simp)).rowSame _, fun m hm => ?_, hbw, hb2⟩
      have hs : SlI w (some ⟨b, off, none⟩) zs := .inr ⟨b, off, rfl, hc⟩
      rcases hs.below hb2 (Nat.le_refl _) with hz | ⟨b', off', ha, hc⟩
      · subst hz; simp at hm
      · cases ha; exact hc m hm)
    have HN1 := hidd ((Blk.new (w.alloc (.cells (ccells 0 0 zbl).toArray 25)) (ccells 0 0 zbl).toArray 25 (w.heap.size + 1) (by simp)))
    clear hin hb hc
    go_enter Try.func7, Try.ntmps7
    go_wp2_with (first
      | (go_at_call 22; refine (in49 _ _ _ _).mono ?_; rintro e _ ⟨rfl, rfl⟩; rw [HI.out])
      | (refine wpList_store_row rfl 25 (.tmp 5) (.tmp 15) rfl (w.heap.size + 1) _ rfl rfl 25 _ HN1.out HNS.out HNO.out HNA.out ?_))
    go_loopw [6] (fun e wr => ∃ j : Nat, 1 ≤ j ∧ j ≤ zs.length ∧ e = .int .i64 j ∧ Hid (NodK zs j 0) ∧ RelSq zs b off w j 0 wr) (fun e _ => zs.length - (intOf e).toNat)
    case atStart => exact ⟨1, by omega, hz1, rfl, fun p q h1 h2 => by omega, G.out _ rfl⟩
    case round =>
      obtain ⟨j, hj1, hj, rfl, HC, HR⟩ := hrel
      have HK := hidd HR
      clear HR
      by_cases hlt : j < zs.length
      · go_wp2_with fail
        go_loopw [7] (fun e wr => ∃ i : Nat, i ≤ j ∧ e = .int .i64 i ∧ Hid (NodK zs j i) ∧ RelSq zs b off w j i wr) (fun e _ => j - (intOf e).toNat)
        case atStart => exact ⟨0, by omega, rfl, HC.out, HK.out⟩
        case round =>
          obtain ⟨i, hi, rfl, HC2, HR⟩ := hrel
          have HK2 := hidd HR
          clear HR
          by_cases hil : i < j
          · have HCX := hidd (fun wX (h : RelSq zs b off w j i wX) => h.2.2.1 i (by omega))
            have HCY := hidd (fun wX (h : RelSq zs b off w j i wX) => h.2.2.1 j hlt)
            obtain ⟨x, hx⟩ : ∃ y, y = zs.getD i 0 := ⟨_, rfl⟩
            obtain ⟨y, hy⟩ : ∃ y, y = zs.getD j 0 := ⟨_, rfl⟩
            rw [← hx] at HCX
            rw [← hy] at HCY
            have HE := hidd (And.intro hx hy)
            have hilen : i < zs.length := by omega
            clear hx hy
            go_wp2_with fail
            refine wp_region_quiet_at (fun w' => RelSq zs b off w j i w') rfl (by kernel_rfl) (HK2.out.drew) ?_
            refine qs rfl (fun KQ hKQ => ?_)
            apply Exists.intro
            refine ⟨fun w' hw' => ?_, ?_⟩
            · go_simp; exact rfl
            go_simp
            refine hKQ _ ?_
            clear hKQ KQ
            refine qs rfl (fun KQ hKQ => ?_)
            apply Exists.intro
            refine ⟨fun w' hw' => ?_, ?_⟩
            · go_simp; exact rfl
            go_simp
            refine hKQ _ ?_
            clear hKQ KQ
            refine qs rfl (fun KQ hKQ => ?_)
            apply Exists.intro
            refine ⟨fun w' hw' => ?_, ?_⟩
            · go_simp; exact rfl
            go_simp
            refine hKQ _ ?_
            clear hKQ KQ
            refine qs rfl (fun KQ hKQ => ?_)
            apply Exists.intro
            refine ⟨fun w' hw' => ?_, ?_⟩
            · have hc := HCX.out w' hw'; go_simp; exact rfl
            go_simp
            refine hKQ _ ?_
            clear hKQ KQ
            refine qs rfl (fun KQ hKQ => ?_)
            apply Exists.intro
            refine ⟨fun w' hw' => ?_, ?_⟩
            · go_simp; exact rfl
            go_simp
            refine hKQ _ ?_
            clear hKQ KQ
            refine qs rfl (fun KQ hKQ => ?_)
            apply Exists.intro
            refine ⟨fun w' hw' => ?_, ?_⟩
            · go_simp; exact rfl
            go_simp
            refine hKQ _ ?_
            clear hKQ KQ
            refine qs rfl (fun KQ hKQ => ?_)
            apply Exists.intro
            refine ⟨fun w' hw' => ?_, ?_⟩
            · go_simp; exact rfl
            go_simp
            refine hKQ _ ?_
            clear hKQ KQ
            refine qs rfl (fun KQ hKQ => ?_)
            apply Exists.intro
            refine ⟨fun w' hw' => ?_, ?_⟩
            · have hc := HCY.out w' hw'; go_simp; exact rfl
            go_simp
            refine hKQ _ ?_
            clear hKQ KQ
            refine qs rfl (fun KQ hKQ => ?_)
            apply Exists.intro
            refine ⟨fun w' hw' => ?_, ?_⟩
            · go_simp; exact rfl
            go_simp
            refine hKQ _ ?_
            clear hKQ KQ
            refine wpQuiet_nil ?_
            intro w' hw'
            have HW := hidd hw'
            clear hw'
            by_cases hxy : x = y
            · have hd : (x == y) = true := by simpa using hxy
              have H := hidd (sqOut_bad (zs := zs) (by rw [HOK.out]; exact nod_no hil hlt (by rw [← HE.out.1, ← HE.out.2, hxy])))
              have R := hidd (And.intro (HW.out.1.rowSame (ccells 0 0 zbl).toArray) (below_setRow HW.out.2.2.2.2 (Nat.le_refl _) (ccells 0 0 zbl).toArray))
              clear hxy
              go_wp2_with (first
                | (refine wpList_zero26 rfl rfl ?_)
                | (refine wpList_store_row rfl 25 (.tmp 2) (.tmp 35) rfl w.heap.size _ rfl rfl 25 _ HW.out.1 HZS.out rfl HZ1.out ?_))
              exact ret_col rfl zbl_bys rfl R.out.1 rfl rfl ⟨by rw [H.out]; rfl, R.out.2⟩
            · have hd : (x == y) = false := by rw [beq_eq_false_iff_ne]; exact hxy
              have HC3 := hidd (HC2.out.step (by rw [← HE.out.1, ← HE.out.2]; exact hxy))
              obtain ⟨wq, hwq⟩ : ∃ wq, wq = w' := ⟨_, rfl⟩
              rw [← hwq] at HW ⊢
              clear hwq
              go_wp2_with fail
              refine wp_region_quiet_at (fun w' => RelSq zs b off w j i w') rfl (by kernel_rfl) (HW.out.drew) ?_
              refine qs rfl (fun KQ hKQ => ?_)
              apply Exists.intro
              refine ⟨fun w' hw' => ?_, ?_⟩
              · go_simp; exact rfl
              go_simp
              refine hKQ _ ?_
              clear hKQ KQ
              refine qs rfl (fun KQ hKQ => ?_)
              apply Exists.intro
              refine ⟨fun w' hw' => ?_, ?_⟩
              · go_simp; exact rfl
              go_simp
              refine hKQ _ ?_
              clear hKQ KQ
              refine qs rfl (fun KQ hKQ => ?_)
              apply Exists.intro
              refine ⟨fun w' hw' => ?_, ?_⟩
              · go_simp; exact rfl
              go_simp
              refine hKQ _ ?_
              clear hKQ KQ
              refine qs rfl (fun KQ hKQ => ?_)
              apply Exists.intro
              refine ⟨fun w' hw' => ?_, ?_⟩
              · have hc := HCX.out w' hw'; go_simp; exact rfl
              go_simp
              refine hKQ _ ?_
              clear hKQ KQ
              refine qs rfl (fun KQ hKQ => ?_)
              apply Exists.intro
              refine ⟨fun w' hw' => ?_, ?_⟩
              · go_simp; exact rfl
              go_simp
              refine hKQ _ ?_
              clear hKQ KQ
              refine qs rfl (fun KQ hKQ => ?_)
              apply Exists.intro
              refine ⟨fun w' hw' => ?_, ?_⟩
              · go_simp; exact rfl
              go_simp
              refine hKQ _ ?_
              clear hKQ KQ
              refine qs rfl (fun KQ hKQ => ?_)
              apply Exists.intro
              refine ⟨fun w' hw' => ?_, ?_⟩
              · go_simp; exact rfl
              go_simp
              refine hKQ _ ?_
              clear hKQ KQ
              refine qs rfl (fun KQ hKQ => ?_)
              apply Exists.intro
              refine ⟨fun w' hw' => ?_, ?_⟩
              · have hc := HCY.out w' hw'; go_simp; exact rfl
              go_simp
              refine hKQ _ ?_
              clear hKQ KQ
              refine qs rfl (fun KQ hKQ => ?_)
              apply Exists.intro
              refine ⟨fun w' hw' => ?_, ?_⟩
              · go_simp; exact rfl
              go_simp
              refine hKQ _ ?_
              clear hKQ KQ
              refine wpQuiet_nil ?_
              intro w' hw'
              have HV := hidd hw'
              clear hw'
              by_cases hgt : y < x
              · have hd2 : y < x := hgt
                have HR1 := hidd (show sqR zs i j = 1 by unfold sqR; rw [← HE.out.1, ← HE.out.2, if_neg (by omega)])
                have h136 := eN_17 (show j + 1 ≤ 17 by omega)
                rw [show eN (j + 1) = eN j + j from rfl] at h136
                have HS := hidd (HV.out.set hil (by omega) HR1.out)
                obtain ⟨E, hE⟩ : ∃ E, E = eN j + i := ⟨_, rfl⟩
                have HEX := hidd (show eix (i : Int) (j : Int) = (E : Int) by rw [eix_eN hil, hE])
                rw [← hE] at HS
                have hE136 : E < 136 := by omega
                have hEI : (E : Int) < 136 := by omega
                obtain ⟨old, cE⟩ : ∃ old, w'.cell? ⟨w.heap.size + 1, 2 + E, none⟩ = some old := ⟨_, HV.out.2.1.cell ((ptB_bys (sqR_bd zs) j i).cget (zs.length : Int) 2 hE136)⟩
                have fE := HV.out.2.1.fro (2 + E)
                have hj16 : (j : Int) ≤ 16 := by omega
                have hi16 : (i : Int) ≤ 16 := by omega
                clear hgt h136 hE
                go_wp2_with (go_at_call 23; refine (edge79 _ _ _ (by omega) hi16 (by omega) hj16).mono ?_; rintro e _ ⟨rfl, rfl⟩; rw [HEX.out])
                go_roundw
                case rel => exact ⟨i + 1, by omega, by go_num, HC3, HS.out⟩
                case measure => simp [intOf]; omega
              · have hd2 : x ≤ y := by omega
                have HR1 := hidd (show sqR zs i j = 0 by unfold sqR; rw [← HE.out.1, ← HE.out.2, if_pos (by omega)])
                have HS := hidd (show RelSq zs b off w j (i + 1) w' by
                  have h := HV.out
                  unfold RelSq at h ⊢
                  rw [ptB_zero hil (by omega) HR1.out]
                  exact h)
                clear hgt
                go_wp2_with fail
                go_roundw
                case rel => exact ⟨i + 1, by omega, by go_num, HC3, HS.out⟩
                case measure => simp [intOf]; omega
          · obtain rfl : i = j := by omega
            have HL := hidd HC2.out.row
            have HS := hidd (show RelSq zs b off w (i + 1) 0 wr by
              have h := HK2.out
              unfold RelSq at h ⊢
              rw [← ptB_row]
              exact h)
            go_wp2_with fail
            go_roundw
            case rel => exact ⟨i + 1, by omega, by omega, by go_num, HL, HS.out⟩
            case measure => simp [intOf]; omega
      · obtain rfl : j = zs.length := by omega
        have H := hidd (sqOut_good (zs := zs) (by rw [HOK.out]; exact decide_eq_true HC.out.done))
        have HF := hidd (show Blk wr (w.heap.size + 1) (ccells (zs.length : Int) 2 (paintB zs.length (sqR zs))).toArray 25 by
          have h := HK.out.2.1
          rw [ptB_done] at h
          exact h)
        have HPB := hidd (paintB_bys (N := zs.length) (sqR_bd zs))
        have HPS := hidd (size_c26 (zs.length : Int) 2 HPB.out)
        have HPO := hidd (size_cc 0 0 (zs.length : Int) 2 zbl_bys HPB.out)
        have HPA := hidd (ccells_one (zs.length : Int) 2 (paintB zs.length (sqR zs)))
        have R := hidd (And.intro (HK.out.1.rowSame (ccells (zs.length : Int) 2 (paintB zs.length (sqR zs))).toArray) (below_setRow HK.out.2.2.2.2 (Nat.le_refl _) (ccells (zs.length : Int) 2 (paintB zs.length (sqR zs))).toArray))
        go_wp2_with (first
          | (refine wpList_load_row rfl 25 (.tmp 5) rfl (w.heap.size + 1) rfl 25 _ (0,0) _ HF.out Try.underlying25 rfl HPS.out ?_)
          | (refine wpList_store_row rfl 25 (.tmp 2) (.tmp 50) rfl w.heap.size _ rfl rfl 25 _ HK.out.1 HPS.out HPO.out HPA.out ?_))
        exact ret_col rfl HPB.out rfl R.out.1 rfl rfl ⟨by rw [H.out]; rfl, R.out.2⟩
end Go.Proofs.Ytljlbonoohhhdaa
