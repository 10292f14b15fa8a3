/- Colourings that a list tells by distances or by differences: the model. -/
import Derived.Test.YtikcmgmgdbbcfaaDiff
import Derived.Test.YtikcmgmgdbbcfaaGc
namespace Go.Proofs.Ytikcmgmgdbbcfaa
set_option linter.unusedVariables false
set_option linter.unusedSimpArgs false
open Go Go.RowKit Go.Shelf
theorem sdist71 (i j n : Int) (h0 : 0 ≤ i) (h0' : 0 ≤ j) (h1 : i < n) (h2 : j < n) (h3 : n ≤ 17) (w : World) :
    Calls Try.prog 71 #[.int .i64 i, .int .i64 j, .int .i64 n] w fun e w' => e = .returned (.int .i64 (min (max i j - min i j) (n - (max i j - min i j)))) ∧ w = w' := by
  go_enter Try.func71, Try.ntmps71
  go_wp2
  all_goals (go_ret; refine ⟨?_, rfl⟩; show Ending.returned (Value.int .i64 _) = Ending.returned (Value.int .i64 _); congr 2; omega)
theorem dst_int' {N lo hi : Nat} (h1 : lo < hi) (h2 : hi < N) : min (max (lo : Int) hi - min (lo : Int) hi) ((N : Int) - (max (lo : Int) hi - min (lo : Int) hi)) = (dst N lo hi : Int) := by unfold dst; omega
def RelSc (n k : Int) (zs : List Int) (a : Option Addr) (r : Nat → Nat → Int) (w : World) (j i : Nat) (wr : World) : Prop :=
  Blk wr w.heap.size (ccells 0 0 zbl).toArray 25 ∧ Blk wr (w.heap.size + 1) (ccells n k (ptB r j i)).toArray 25 ∧ SlI wr a zs ∧ Below w.heap.size w wr
theorem RelSc.put {n k : Int} {zs : List Int} {a : Option Addr} {r : Nat → Nat → Int} {w : World} {j i : Nat} {wr : World} (h : RelSc n k zs a r w j i wr) (HRB : ∀ lo hi, 0 ≤ r lo hi ∧ r lo hi < 256) (hs : SlI w a zs) {E : Nat} (hE : E = eN j + i) (hE136 : E < 136) {v : Int} (hv : v = r i j) :
    (∃ old, wr.cell? ⟨w.heap.size + 1, 2 + E, none⟩ = some old) ∧ wr.frozen? ⟨w.heap.size + 1, 2 + E, none⟩ = false ∧ RelSc n k zs a r w j (i + 1) (wr.setCell ⟨w.heap.size + 1, 2 + E, none⟩ (.int .u8 v)) := by
  obtain ⟨q1, q2, q3, q4⟩ := h
  have hbe := q4.setCell (p := ⟨w.heap.size + 1, 2 + E, none⟩) (by show w.heap.size ≤ w.heap.size + 1; omega) (.int .u8 v)
  refine ⟨⟨_, q2.cell ((ptB_bys HRB j i).cget n k hE136)⟩, q2.fro _, q1.other _ _ (by show w.heap.size ≠ w.heap.size + 1; omega), ?_, hs.below hbe (Nat.le_refl _), hbe⟩
  have s := q2.same (2 + E) (.int .u8 v)
  obtain ⟨x, hx⟩ := Int.eq_ofNat_of_zero_le (hv ▸ (HRB i j).1 : 0 ≤ v)
  rw [hx, ccells_set] at s
  rw [ptB_step, ← hv, hx, ← hE, Int.toNat_natCast]
  exact s
set_option maxRecDepth 100000 in
set_option maxHeartbeats 4000000 in
theorem scirc44 (N : Nat) (k : Int) (zs : List Int) (a : Option Addr) (cap : Nat) (w : World) (hs : SlI w a zs) (n1 : 1 ≤ N) (n2 : N ≤ 17) (hl : zs.length = N / 2) (hz : ∀ j, 0 ≤ zs.getD j 0 ∧ zs.getD j 0 < 256) :
    Calls Try.prog 44 #[.int .i64 (N : Int), .int .i64 k, .slice a zs.length cap] w fun e w' => e = .returned (.agg (ccells (N : Int) k (paintB N (fun lo hi => zs.getD (dst N lo hi - 1) 0))).toArray) ∧ Below w.heap.size w w' := by
  have Hz := zero26
  obtain ⟨r, hr⟩ : ∃ r : Nat → Nat → Int, r = fun lo hi => zs.getD (dst N lo hi - 1) 0 := ⟨_, rfl⟩
  have HRB := hidd (show ∀ lo hi, 0 ≤ r lo hi ∧ r lo hi < 256 from fun lo hi => by rw [hr]; exact hz _)
  rw [← hr]
  have HR := hidd hr
  have HSL := hidd hs
  have HLN := hidd hl
  have hset26 : ((ccells 0 0 zbl).set 0 (Value.int .i64 (N : Int))).set 1 (Value.int .i64 k) = ccells (N : Int) k zbl := rfl
  have HNS := hidd (size_c26 (N : Int) k zbl_bys)
  have HNO := hidd (size_cc 0 0 (N : Int) k zbl_bys zbl_bys)
  have HNA := hidd (ccells_one (N : Int) k zbl)
  have hPB : Bys (paintB N r) := paintB_bys HRB.out
  have HPB := hidd hPB
  have HPS := hidd (size_c26 (N : Int) k hPB)
  have HPO := hidd (size_cc 0 0 (N : Int) k zbl_bys hPB)
  have HPA := hidd (ccells_one (N : Int) k (paintB N r))
  clear hr hs hl hz hPB
  go_enter Try.func44, Try.ntmps44
  go_wp2_with (first
    | (refine wpList_store_row rfl 25 (.tmp 7) (.tmp 12) rfl (w.heap.size + 1) _ rfl rfl 25 _ (Blk.new _ _ _ _ (by simp)) HNS.out HNO.out HNA.out ?_))
  go_loopw [8] (fun e wr => ∃ j : Nat, 1 ≤ j ∧ j ≤ N ∧ e = .int .i64 j ∧ RelSc (N : Int) k zs a r w j 0 wr) (fun e _ => N - (intOf e).toNat)
  case atStart =>
    have hb0 := ((Below.refl w.heap.size w).alloc (Nat.le_refl _) (.cells (ccells 0 0 zbl).toArray 25)).alloc (by simp) (.cells (ccells 0 0 zbl).toArray 25)
    have hbe := below_setRow hb0 (g := w.heap.size + 1) (by omega) (ccells (N : Int) k zbl).toArray
    exact ⟨1, by omega, n1, rfl, ((Blk.new _ _ _ _ rfl).alloc _).rowOther _ _ (by omega), (Blk.new _ _ _ _ (by simp)).rowSame _, HSL.out.below hbe (Nat.le_refl _), hbe⟩
  case round =>
    obtain ⟨j, hj1, hj, rfl, HR1⟩ := hrel
    have HK := hidd HR1
    clear HR1
    by_cases hlt : j < N
    · go_wp2_with fail
      go_loopw [9] (fun e wr => ∃ i : Nat, i ≤ j ∧ e = .int .i64 i ∧ RelSc (N : Int) k zs a r w j i wr) (fun e _ => j - (intOf e).toNat)
      case atStart => exact ⟨0, by omega, rfl, HK.out⟩
      case round =>
        obtain ⟨i, hi, rfl, HR2⟩ := hrel
        have HK2 := hidd HR2
        clear HR2
        by_cases hil : i < j
        · obtain ⟨hd1, hd2⟩ := dst_bd hil hlt
          rcases HK2.out.2.2.1 with hzz | ⟨b, off, ha, hc⟩
          · have := HLN.out; subst hzz; simp at this; omega
          · subst ha
            obtain ⟨F, hF⟩ : ∃ F, F = dst N i j - 1 := ⟨_, rfl⟩
            have hFl : F < zs.length := by rw [HLN.out]; omega
            have cF := hc F hFl
            obtain ⟨v, hv⟩ : ∃ v, v = zs.getD F 0 := ⟨_, rfl⟩
            rw [← hv] at cF
            have hvr : v = r i j := by rw [HR.out, hv, hF]
            have HDI := hidd (show min (max (i : Int) j - min (i : Int) j) ((N : Int) - (max (i : Int) j - min (i : Int) j)) = (F : Int) + 1 by rw [dst_int' hil hlt]; omega)
            have hvb := HRB.out i j
            rw [← hvr] at hvb
            obtain ⟨v0, v1⟩ := hvb
            have hwr : IntKind.u8.wrap v = v := u8_in v0 v1
            have h136 := eN_mono (show j + 1 ≤ 17 by omega)
            rw [eN, show eN 17 = 136 from rfl] at h136
            obtain ⟨E, hE⟩ : ∃ E, E = eN j + i := ⟨_, rfl⟩
            have HEX := hidd (show eix (i : Int) (j : Int) = (E : Int) by rw [eix_eN hil, hE])
            have hE136 : E < 136 := by omega
            have hEI : (E : Int) < 136 := by omega
            obtain ⟨⟨old, cE⟩, fE, hst⟩ := HK2.out.put HRB.out HSL.out hE hE136 hvr
            have K := hidd hst
            have hFI : (F : Int) < (zs.length : Int) := by omega
            have hF9 : (F : Int) ≤ 8 := by have := HLN.out; omega
            clear hc hv hF hvr hE h136 hst hd1 hd2
            go_wp2_with (first
              | (go_at_call 84; refine (edge79 _ _ _ (by omega) (by omega) (by omega) (by omega)).mono ?_; rintro e w' ⟨rfl, rfl⟩; rw [HEX.out])
              | (go_at_call 71; refine (sdist71 _ _ _ (by omega) (by omega) (by omega) (by omega) (by omega) _).mono ?_; rintro e w' ⟨rfl, rfl⟩; rw [HDI.out]))
            go_roundw
            case rel => exact ⟨i + 1, by omega, by go_num, K.out⟩
            case measure => simp [intOf]; omega
        · have hij : i = j := by omega
          subst hij
          have K := hidd (show RelSc (N : Int) k zs a r w (i + 1) 0 wr by have := HK2.out; unfold RelSc at this ⊢; rwa [ptB_row] at this)
          clear HK2
          go_wp2_with fail
          go_roundw
          case rel => exact ⟨i + 1, by omega, by omega, by go_num, K.out⟩
          case measure => simp [intOf]; omega
    · have hjN : j = N := by omega
      subst hjN
      obtain ⟨q1, q2, q3, q4⟩ := HK.out
      rw [ptB_done] at q2
      have R := hidd (And.intro q1 (And.intro q2 (And.intro (q1.rowSame (ccells (j : Int) k (paintB j r)).toArray) (below_setRow q4 (g := w.heap.size) (Nat.le_refl _) (ccells (j : Int) k (paintB j r)).toArray))))
      clear HK q1 q2 q3 q4
      go_wp2_with (first
        | (refine wpList_load_row rfl 25 (.tmp 7) rfl (w.heap.size + 1) rfl 25 _ (0,0) _ R.out.2.1 Try.underlying25 rfl HPS.out ?_)
        | (refine wpList_store_row rfl 25 (.tmp 6) (.tmp 37) rfl w.heap.size _ rfl rfl 25 _ R.out.1 HPS.out HPO.out HPA.out ?_))
      refine bodyPost_ret (results_cell_row rfl _ _ w.heap.size 25 _ (0,0) _ rfl R.out.2.2.1 Try.underlying25 rfl HPS.out) rfl ⟨rfl, R.out.2.2.2⟩
end Go.Proofs.Ytikcmgmgdbbcfaa
