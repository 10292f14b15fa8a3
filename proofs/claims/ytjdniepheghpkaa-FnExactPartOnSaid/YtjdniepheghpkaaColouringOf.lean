/- ColouringOf: the program and its model. -/
import Derived.Test.YtjdniepheghpkaaPaint
import Derived.Test.YtjdniepheghpkaaPutPoint
namespace Go.Proofs.Ytjdniepheghpkaa
set_option linter.unusedVariables false
set_option linter.unusedSimpArgs false
open Go Go.RowKit Go.Shelf
def coCode (n k : Int) (zs : List Int) : Int := if shapeB n k = true ∧ (zs.length : Int) = edg n ∧ allB zs k = true then 0 else 2
def coN (n k : Int) (zs : List Int) : Int := if coCode n k zs = 0 then n else 0
def coK (n k : Int) (zs : List Int) : Int := if coCode n k zs = 0 then k else 0
def coB (n k : Int) (zs : List Int) : List Nat := if coCode n k zs = 0 then putK zbl 0 zs zs.length else zbl
/-- What ColouringOf returns. -/
def coOut (n k : Int) (zs : List Int) : Value := .tuple #[.agg (ccells (coN n k zs) (coK n k zs) (coB n k zs)).toArray, .int .i64 (coCode n k zs)]
theorem coOut_bad {n k : Int} {zs : List Int} (h : ¬ (shapeB n k = true ∧ (zs.length : Int) = edg n ∧ allB zs k = true)) : coOut n k zs = .tuple #[.agg (ccells 0 0 zbl).toArray, .int .i64 2] := by
  have e : coCode n k zs = 2 := if_neg h
  simp [coOut, coN, coK, coB, e]
theorem coOut_good {n k : Int} {zs : List Int} (h : shapeB n k = true ∧ (zs.length : Int) = edg n ∧ allB zs k = true) : coOut n k zs = .tuple #[.agg (ccells n k (putK zbl 0 zs zs.length)).toArray, .int .i64 0] := by
  have e : coCode n k zs = 0 := if_pos h
  simp [coOut, coN, coK, coB, e]
theorem all_lt {zs : List Int} {k : Int} (h : allB zs k = true) (hk : k ≤ 4) : ∀ j, j < zs.length → 0 ≤ zs.getD j 0 ∧ zs.getD j 0 < 256 := fun j hj => by have := allB_get h hj; omega
theorem coB_bys (n k : Int) (zs : List Int) : Bys (coB n k zs) := by
  unfold coB
  split
  · rename_i h
    unfold coCode at h
    split at h
    · rename_i h2
      exact putK_bys zbl_bys 0 (all_lt h2.2.2 (shape_bd h2.1).2.2.2) _ (Nat.le_refl _)
    · omega
  · exact zbl_bys
theorem putK_range (zs : List Int) : ∀ m, putK zbl 0 zs m = (List.range m).foldl (fun b j => b.set j (zs.getD j 0).toNat) zbl
  | 0 => rfl
  | m + 1 => by rw [List.range_succ, List.foldl_append, ← putK_range zs m, putK, Nat.zero_add]; rfl
theorem eseq_mem {h : Nat} {t : Nat × Nat × Nat} (ht : t ∈ eseq h) : t.1 = eN t.2.2 + t.2.1 := by
  induction h with
  | zero => simp [eseq] at ht
  | succ h ih =>
    rw [eseq, List.mem_append] at ht
    rcases ht with ht | ht
    · exact ih ht
    · simp only [rowE, List.mem_map] at ht
      obtain ⟨m, _, rfl⟩ := ht
      rfl
theorem foldl_congr {α β : Type} {f g : β → α → β} : ∀ (l : List α) (b : β), (∀ x ∈ l, ∀ b, f b x = g b x) → l.foldl f b = l.foldl g b
  | [], _, _ => rfl
  | x :: l, b, h => by
    rw [List.foldl_cons, List.foldl_cons, h x (by simp) b]
    exact foldl_congr l _ (fun y hy => h y (by simp [hy]))
theorem paint_list (N : Nat) (zs : List Int) : paintB N (fun lo hi => zs.getD (eN hi + lo) 0) = putK zbl 0 zs (eN N) := by
  rw [putK_range, ← eseq_nums, List.foldl_map]
  unfold paintB
  exact foldl_congr _ _ (fun t ht b => by show b.set t.1 (zs.getD (eN t.2.2 + t.2.1) 0).toNat = _; rw [← eseq_mem ht])
theorem len_eN {N : Nat} {zs : List Int} (h : (zs.length : Int) = edg (N : Int)) : zs.length = eN N := by rw [← eN_edg] at h; omega
def Rel18 (n k : Int) (zs : List Int) (a : Option Addr) (w : World) (j : Nat) (wr : World) : Prop :=
  Blk wr w.heap.size (ccells 0 0 zbl).toArray 26 ∧ Blk wr (w.heap.size + 1) (ccells n k (putK zbl 0 zs j)).toArray 26 ∧ SlI wr a zs ∧ Below w.heap.size w wr
set_option maxRecDepth 100000 in
set_option maxHeartbeats 2000000 in
theorem spec18 (n k : Int) (zs : List Int) (a : Option Addr) (cap : Nat) (w : World) (hs : SlI w a zs) (hl : zs.length ≤ 9223372036854775807) :
    Calls Try.prog 18 #[.int .i64 n, .int .i64 k, .slice a zs.length cap] w fun e w' => e = .returned (coOut n k zs) ∧ Below w.heap.size w w' := by
  have Hz := zero26
  have HZS := hidd size_z26
  have HZ1 := hidd (ccells_one 0 0 zbl)
  have HSL := hidd hs
  have hset : ((ccells 0 0 zbl).set 0 (Value.int .i64 n)).set 1 (Value.int .i64 k) = ccells n k zbl := rfl
  have hb0 : Below w.heap.size w (w.alloc (.cells (ccells 0 0 zbl).toArray 26)) := (Below.refl _ _).alloc (Nat.le_refl _) _
  have hB0 := Blk.new w (ccells 0 0 zbl).toArray 26 _ rfl
  have G := hidd (And.intro (hB0.rowSame (ccells 0 0 zbl).toArray) (below_setRow hb0 (Nat.le_refl _) (ccells 0 0 zbl).toArray))
  have HB0 := hidd (And.intro hB0 hb0)
  clear hs hB0 hb0
  have hbad : ¬ (shapeB n k = true ∧ (zs.length : Int) = edg n ∧ allB zs k = true) → ∀ w', Below w.heap.size w w' → Below w.heap.size w w' := fun _ _ h => h
  clear hbad
  by_cases c1 : inB n 1 17 = true
  · have H1 := hidd c1
    obtain ⟨n1, n2⟩ := inB_bd c1
    by_cases c2 : inB k 1 4 = true
    · have H2 := hidd c2
      obtain ⟨k1, k2⟩ := inB_bd c2
      have hsh := shape_mk n1 n2 k1 k2
      obtain ⟨m0, m1⟩ := mul_bd n1 n2
      obtain ⟨E, hE⟩ := Int.eq_ofNat_of_zero_le (edg_bd n1 n2).1
      have HM := hidd (show n * (n - 1) / 2 = (E : Int) from hE)
      have hE136 : E ≤ 136 := by have := (edg_bd n1 n2).2; omega
      by_cases c3 : zs.length = E
      · cases c4 : allB zs k with
        | true =>
          have H4 := hidd c4
          have hgood : shapeB n k = true ∧ (zs.length : Int) = edg n ∧ allB zs k = true := ⟨hsh, by rw [hE, c3], c4⟩
          have H := hidd (coOut_good hgood)
          have HZ := hidd (all_lt c4 k2)
          subst c3
          have hq : ((zs.length : Int) != (zs.length : Int)) = false := by simp
          have hM := HM.out
          have HK := hidd (putK_bys zbl_bys 0 HZ.out)
          have HNS := hidd (size_c26 n k zbl_bys)
          have HNO := hidd (size_cc 0 0 n k zbl_bys zbl_bys)
          have HNA := hidd (ccells_one n k zbl)
          have HPS := hidd (size_c26 n k (HK.out zs.length (Nat.le_refl _)))
          have HPO := hidd (size_cc 0 0 n k zbl_bys (HK.out zs.length (Nat.le_refl _)))
          have HPA := hidd (ccells_one n k (putK zbl 0 zs zs.length))
          clear c1 c2 c4 hgood hsh hE
          go_enter Try.func18, Try.ntmps18
          go_wp2_with (first
            | (go_at_call 49; refine (in49 _ _ _ _).mono ?_; rintro e w' ⟨rfl, rfl⟩; first | rw [H1.out] | rw [H2.out])
            | (go_at_call 50; refine (all50 _ _ _ _ _ (HSL.out.below HB0.out.2 (Nat.le_refl _)) hl (by omega) (by omega)).mono ?_; rintro e w' ⟨rfl, rfl⟩; rw [H4.out])
            | (refine wpList_store_row rfl 26 (.tmp 8) (.tmp 37) rfl (w.heap.size + 1) _ rfl rfl 26 _ (Blk.new _ _ _ _ (by simp)) HNS.out HNO.out HNA.out ?_))
          go_loopw [9] (fun i wr => ∃ j : Nat, j ≤ zs.length ∧ i = .int .i64 j ∧ Rel18 n k zs a w j wr) (fun i _ => zs.length - (intOf i).toNat)
          case atStart =>
            have hbe : Below w.heap.size w (((w.alloc (.cells (ccells 0 0 zbl).toArray 26)).alloc (.cells (ccells 0 0 zbl).toArray 26)).setRow (w.heap.size + 1) (ccells n k zbl).toArray) := below_setRow (((Below.refl _ _).alloc (Nat.le_refl _) _).alloc (by simp) _) (by omega) _
            exact ⟨0, by omega, rfl, ((Blk.new _ _ _ _ rfl).alloc _).rowOther _ _ (by omega), (Blk.new _ _ _ _ (by simp)).rowSame _, HSL.out.below hbe (Nat.le_refl _), hbe⟩
          case round =>
            obtain ⟨j, hj, rfl, HR⟩ := hrel
            by_cases hlt : j < zs.length
            · rcases HR.2.2.1 with hz | ⟨b, off, ha, hc⟩
              · subst hz; simp at hlt
              · subst ha
                have hcj := hc j hlt
                have hzj := HZ.out j hlt
                obtain ⟨z, hz⟩ : ∃ z, z = zs.getD j 0 := ⟨_, rfl⟩
                rw [← hz] at hcj hzj
                obtain ⟨z0, z1⟩ := hzj
                have hwr : IntKind.u8.wrap z = z := u8_in z0 z1
                have hbj := HK.out j hj
                have hj136 : j < 136 := by omega
                obtain ⟨old, hwE⟩ : ∃ old, wr.cell? ⟨w.heap.size + 1, 2 + j, none⟩ = some old := ⟨_, HR.2.1.cell (hbj.cget n k hj136)⟩
                have hfE := HR.2.1.fro (2 + j)
                obtain ⟨x, hx⟩ := Int.eq_ofNat_of_zero_le z0
                have hst : Blk (wr.setCell ⟨w.heap.size + 1, 2 + j, none⟩ (.int .u8 z)) (w.heap.size + 1) (ccells n k (putK zbl 0 zs (j + 1))).toArray 26 := by
                  have := HR.2.1.same (2 + j) (.int .u8 z)
                  rw [hx, ccells_set] at this
                  rw [putK, ← hz, hx, Nat.zero_add]; exact this
                have hbe := HR.2.2.2.setCell (p := ⟨w.heap.size + 1, 2 + j, none⟩) (by show w.heap.size ≤ w.heap.size + 1; omega) (.int .u8 z)
                have K := hidd (show Rel18 n k zs (some ⟨b, off, none⟩) w (j + 1) _ from ⟨HR.1.other _ _ (by show w.heap.size ≠ w.heap.size + 1; omega), hst, HSL.out.below hbe (Nat.le_refl _), hbe⟩)
                have hji : (j : Int) < 136 := by omega
                clear hz hc hst hbe HR hbj hx
                go_wp2_with fail
                go_roundw
                case rel => exact ⟨j + 1, by omega, by go_num, K.out⟩
                case measure => simp [intOf]; omega
            · have hje : j = zs.length := by omega
              subst hje
              have R := hidd (And.intro HR.1 (And.intro HR.2.1 (And.intro (HR.1.rowSame (ccells n k (putK zbl 0 zs zs.length)).toArray) (below_setRow HR.2.2.2 (g := w.heap.size) (Nat.le_refl _) (ccells n k (putK zbl 0 zs zs.length)).toArray))))
              clear HR
              go_wp2_with (first
                | (refine wpList_load_row rfl 26 (.tmp 8) rfl (w.heap.size + 1) rfl 26 _ (0,0) _ R.out.2.1 Try.underlying26 rfl HPS.out ?_)
                | (refine wpList_store_row rfl 26 (.tmp 6) (.tmp 52) rfl w.heap.size _ rfl rfl 26 _ R.out.1 HPS.out HPO.out HPA.out ?_))
              exact ret_col rfl (HK.out zs.length (Nat.le_refl _)) rfl R.out.2.2.1 rfl rfl ⟨by rw [H.out]; rfl, R.out.2.2.2⟩
        | false =>
          have H4 := hidd c4
          have H := hidd (coOut_bad (n := n) (k := k) (zs := zs) (fun h => by rw [c4] at h; exact absurd h.2.2 (by simp)))
          subst c3
          have hq : ((zs.length : Int) != (zs.length : Int)) = false := by simp
          have hM := HM.out
          clear c1 c2 c4 hsh hE
          go_enter Try.func18, Try.ntmps18
          go_wp2_with (first
            | (go_at_call 49; refine (in49 _ _ _ _).mono ?_; rintro e w' ⟨rfl, rfl⟩; first | rw [H1.out] | rw [H2.out])
            | (go_at_call 50; refine (all50 _ _ _ _ _ (HSL.out.below HB0.out.2 (Nat.le_refl _)) hl (by omega) (by omega)).mono ?_; rintro e w' ⟨rfl, rfl⟩; rw [H4.out])
            | (refine wpList_zero26 rfl rfl ?_)
            | (refine wpList_store_row rfl 26 (.tmp 6) (.tmp 34) rfl w.heap.size _ rfl rfl 26 _ HB0.out.1 HZS.out rfl HZ1.out ?_))
          exact ret_col rfl zbl_bys rfl G.out.1 rfl rfl ⟨by rw [H.out]; rfl, G.out.2⟩
      · have hq : ((zs.length : Int) != (E : Int)) = true := by rw [bne_iff_ne]; omega
        have H := hidd (coOut_bad (n := n) (k := k) (zs := zs) (fun h => c3 (by have := h.2.1; omega)))
        have hM := HM.out
        clear c1 c2 c3 hsh hE
        go_enter Try.func18, Try.ntmps18
        go_wp2_with (first
          | (go_at_call 49; refine (in49 _ _ _ _).mono ?_; rintro e w' ⟨rfl, rfl⟩; first | rw [H1.out] | rw [H2.out])
          | (refine wpList_zero26 rfl rfl ?_)
          | (refine wpList_store_row rfl 26 (.tmp 6) (.tmp 34) rfl w.heap.size _ rfl rfl 26 _ HB0.out.1 HZS.out rfl HZ1.out ?_))
        exact ret_col rfl zbl_bys rfl G.out.1 rfl rfl ⟨by rw [H.out]; rfl, G.out.2⟩
    · have c2' : inB k 1 4 = false := by simpa using c2
      have H2 := hidd c2'
      have H := hidd (coOut_bad (n := n) (k := k) (zs := zs) (fun h => c2 (by have := shape_bd h.1; exact inB_yes this.2.2.1 this.2.2.2)))
      clear c1 c2 c2'
      go_enter Try.func18, Try.ntmps18
      go_wp2_with (first
        | (go_at_call 49; refine (in49 _ _ _ _).mono ?_; rintro e w' ⟨rfl, rfl⟩; first | rw [H1.out] | rw [H2.out])
        | (refine wpList_zero26 rfl rfl ?_)
        | (refine wpList_store_row rfl 26 (.tmp 6) (.tmp 34) rfl w.heap.size _ rfl rfl 26 _ HB0.out.1 HZS.out rfl HZ1.out ?_))
      exact ret_col rfl zbl_bys rfl G.out.1 rfl rfl ⟨by rw [H.out]; rfl, G.out.2⟩
  · have c1' : inB n 1 17 = false := by simpa using c1
    have H1 := hidd c1'
    have H := hidd (coOut_bad (n := n) (k := k) (zs := zs) (fun h => c1 (by have := shape_bd h.1; exact inB_yes this.1 this.2.1)))
    clear c1 c1'
    go_enter Try.func18, Try.ntmps18
    go_wp2_with (first
      | (go_at_call 49; refine (in49 _ _ _ _).mono ?_; rintro e w' ⟨rfl, rfl⟩; rw [H1.out])
      | (refine wpList_zero26 rfl rfl ?_)
      | (refine wpList_store_row rfl 26 (.tmp 6) (.tmp 34) rfl w.heap.size _ rfl rfl 26 _ HB0.out.1 HZS.out rfl HZ1.out ?_))
    exact ret_col rfl zbl_bys rfl G.out.1 rfl rfl ⟨by rw [H.out]; rfl, G.out.2⟩
end Go.Proofs.Ytjdniepheghpkaa
