/- The model's colourings by differences. -/
import Derived.Test.YtoiamgmlehmomaaNci
namespace Go.Proofs.Ytoiamgmlehmomaa
set_option linter.unusedVariables false
set_option linter.unusedSimpArgs false
open Go Go.RowKit
def RelSc (n k : Int) (zs : List Int) (a : Option Addr) (r : Nat → Nat → Int) (w : World) (j i : Nat) (wr : World) : Prop :=
  Blk wr w.heap.size (ccells 0 0 zbl).toArray 24 ∧ Blk wr (w.heap.size + 1) (ccells n k (ptB r j i)).toArray 24 ∧ SlI wr a zs ∧ Below w.heap.size w wr
theorem RelSc.put {n k : Int} {zs : List Int} {a : Option Addr} {r : Nat → Nat → Int} {w : World} {j i : Nat} {wr : World} (h : RelSc n k zs a r w j i wr) (HRB : ∀ lo hi, 0 ≤ r lo hi ∧ r lo hi < 256) (hs : SlI w a zs) {E : Nat} (hE : E = eN j + i) (hE136 : E < 136) {v : Int} (hv : v = r i j) :
    (∃ old, wr.cell? ⟨w.heap.size + 1, 2 + E, none⟩ = some old) ∧ wr.frozen? ⟨w.heap.size + 1, 2 + E, none⟩ = false ∧ RelSc n k zs a r w j (i + 1) (wr.setCell ⟨w.heap.size + 1, 2 + E, none⟩ (.int .u8 v)) := by
  obtain ⟨q1, q2, q3, q4⟩ := h
  have hbe := q4.setCell (p := ⟨w.heap.size + 1, 2 + E, none⟩) (by show w.heap.size ≤ w.heap.size + 1; omega) (.int .u8 v)
  refine ⟨⟨_, q2.cell ((ptB_bys HRB j i).cget n k hE136)⟩, q2.fro _, q1.other _ _ (by show w.heap.size ≠ w.heap.size + 1; omega), ?_, hs.below hbe (Nat.le_refl _), hbe⟩
  have s := q2.same (2 + E) (.int .u8 v)
  obtain ⟨x, hx⟩ := Int.eq_ofNat_of_zero_le (hv ▸ (HRB i j).1 : 0 ≤ v)
  rw [hx, ccells_set] at s
  rw [ptB_step, ← hv, hx, ← hE, Int.toNat_natCast]
  exact s
/-- The colour by the first m differences. -/
def dfM (zs : List Int) (m : Nat) (d : Int) : Int := if d ∈ zs.take m then 0 else 1
theorem dfM_step {zs : List Int} {m : Nat} (hm : m < zs.length) (d : Int) : dfM zs (m + 1) d = if zs.getD m 0 = d then 0 else dfM zs m d := by
  have hmem : d ∈ zs.take (m + 1) ↔ (d ∈ zs.take m ∨ zs.getD m 0 = d) := by
    rw [List.take_succ_eq_append_getElem hm, List.mem_append, List.mem_singleton]
    have e : zs.getD m 0 = zs[m] := by simp [List.getD, hm]
    rw [e]
    exact ⟨fun h => h.imp id Eq.symm, fun h => h.imp id Eq.symm⟩
  unfold dfM
  by_cases h : zs.getD m 0 = d
  · rw [if_pos h, if_pos (hmem.2 (.inr h))]
  · rw [if_neg h]
    by_cases h2 : d ∈ zs.take m
    · rw [if_pos h2, if_pos (hmem.2 (.inl h2))]
    · rw [if_neg h2, if_neg (fun h3 => by rcases hmem.1 h3 with h4 | h4; exact h2 h4; exact h h4)]
set_option maxRecDepth 100000 in
set_option maxHeartbeats 4000000 in
theorem circle22 (N : Nat) (zs : List Int) (a : Option Addr) (cap : Nat) (w : World) (hs : SlI w a zs) (n1 : 1 ≤ N) (n2 : N ≤ 17) (hl : zs.length ≤ 1000) :
    Calls Try.prog 22 #[.int .i64 (N : Int), .slice a zs.length cap] w fun e w' => e = .returned (.agg (ccells (N : Int) 2 (paintB N (dfR zs))).toArray) ∧ Below w.heap.size w w' := by
  have Hz := zero26
  obtain ⟨r, hr⟩ : ∃ r : Nat → Nat → Int, r = dfR zs := ⟨_, rfl⟩
  have HRB := hidd (show ∀ lo hi, 0 ≤ r lo hi ∧ r lo hi < 256 from fun lo hi => by rw [hr]; exact dfR_bd _ _ _)
  rw [← hr]
  have HR := hidd hr
  have HSL := hidd hs
  have hset26 : ((ccells 0 0 zbl).set 0 (Value.int .i64 (N : Int))).set 1 (Value.int .i64 2) = ccells (N : Int) 2 zbl := rfl
  have HNS := hidd (size_c26 (N : Int) 2 zbl_bys)
  have HNO := hidd (size_cc 0 0 (N : Int) 2 zbl_bys zbl_bys)
  have HNA := hidd (ccells_one (N : Int) 2 zbl)
  have hPB : Bys (paintB N r) := paintB_bys HRB.out
  have HPB := hidd hPB
  have HPS := hidd (size_c26 (N : Int) 2 hPB)
  have HPO := hidd (size_cc 0 0 (N : Int) 2 zbl_bys hPB)
  have HPA := hidd (ccells_one (N : Int) 2 (paintB N r))
  clear hr hs hPB
  go_enter Try.func22, Try.ntmps22
  go_wp2_with (first
    | (refine wpList_store_row rfl 24 (.tmp 5) (.tmp 11) rfl (w.heap.size + 1) _ rfl rfl 24 _ (Blk.new _ _ _ _ (by simp)) HNS.out HNO.out HNA.out ?_))
  go_loopw [6] (fun e wr => ∃ j : Nat, 1 ≤ j ∧ j ≤ N ∧ e = .int .i64 j ∧ RelSc (N : Int) 2 zs a r w j 0 wr) (fun e _ => N - (intOf e).toNat)
  case atStart =>
    have hb0 := ((Below.refl w.heap.size w).alloc (Nat.le_refl _) (.cells (ccells 0 0 zbl).toArray 24)).alloc (by simp) (.cells (ccells 0 0 zbl).toArray 24)
    have hbe := below_setRow hb0 (g := w.heap.size + 1) (by omega) (ccells (N : Int) 2 zbl).toArray
    exact ⟨1, by omega, n1, rfl, ((Blk.new _ _ _ _ rfl).alloc _).rowOther _ _ (by omega), (Blk.new _ _ _ _ (by simp)).rowSame _, HSL.out.below hbe (Nat.le_refl _), hbe⟩
  case round =>
    obtain ⟨j, hj1, hj, rfl, HR1⟩ := hrel
    have HK := hidd HR1
    clear HR1
    by_cases hlt : j < N
    · go_wp2_with fail
      go_loopw [7] (fun e wr => ∃ i : Nat, i ≤ j ∧ e = .int .i64 i ∧ RelSc (N : Int) 2 zs a r w j i wr) (fun e _ => j - (intOf e).toNat)
      case atStart => exact ⟨0, by omega, rfl, HK.out⟩
      case round =>
        obtain ⟨wq, rfl⟩ : ∃ wq, wq = wr := ⟨_, rfl⟩
        obtain ⟨i, hi, rfl, HR2⟩ := hrel
        have HK2 := hidd HR2
        clear HR2
        by_cases hil : i < j
        · go_wp2_with fail
          go_loopw [8, 9] (fun o e wr => ∃ m : Nat, m ≤ zs.length ∧ e = .int .i64 m ∧ o = .int .u8 (dfM zs m ((j : Int) - (i : Int))) ∧ RelSc (N : Int) 2 zs a r w j i wr) (fun o e _ => zs.length - (intOf e).toNat)
          case atStart => exact ⟨0, by omega, rfl, by simp [dfM], HK2.out⟩
          case round =>
            obtain ⟨m, hm, rfl, rfl, HR3⟩ := hrel
            have HK3 := hidd HR3
            clear HR3
            obtain ⟨v, hv⟩ : ∃ v, v = dfM zs m ((j : Int) - (i : Int)) := ⟨_, rfl⟩
            rw [← hv]
            have HV := hidd hv
            clear hv
            by_cases hml : m < zs.length
            · rcases HK3.out.2.2.1 with hzz | ⟨b, off, ha, hc⟩
              · subst hzz; simp at hml
              · subst ha
                have cm := hc m hml
                obtain ⟨y, hy⟩ : ∃ y, y = zs.getD m 0 := ⟨_, rfl⟩
                rw [← hy] at cm
                have HY := hidd hy
                clear hc hy
                by_cases he : y = (j : Int) - (i : Int)
                · have hq : (y == (j : Int) - (i : Int)) = true := by simpa using he
                  have HE := hidd he
                  clear he
                  go_wp2_with fail
                  go_roundw
                  case rel => exact ⟨m + 1, by omega, by go_num, by rw [dfM_step hml, ← HY.out, if_pos HE.out], HK3.out⟩
                  case measure => simp [intOf]; omega
                · have hq : (y == (j : Int) - (i : Int)) = false := by simpa using he
                  have HE := hidd he
                  clear he
                  go_wp2_with fail
                  go_roundw
                  case rel => exact ⟨m + 1, by omega, by go_num, by rw [dfM_step hml, ← HY.out, if_neg HE.out, ← HV.out], HK3.out⟩
                  case measure => simp [intOf]; omega
            · have hme : m = zs.length := by omega
              have hvr : v = r i j := by rw [HV.out, HR.out, hme]; unfold dfM dfR; rw [List.take_length]
              have h136 := eN_mono (show j + 1 ≤ 17 by omega)
              rw [eN, show eN 17 = 136 from rfl] at h136
              obtain ⟨E, hE⟩ : ∃ E, E = eN j + i := ⟨_, rfl⟩
              have HEX := hidd (show eix (i : Int) (j : Int) = (E : Int) by rw [eix_eN hil, hE])
              have hE136 : E < 136 := by omega
              have hEI : (E : Int) < 136 := by omega
              obtain ⟨⟨old, cE⟩, fE, hst⟩ := HK3.out.put HRB.out HSL.out hE hE136 hvr
              have K := hidd hst
              clear hvr hE h136 hst
              subst hme
              go_wp2_with (go_at_call 23; refine (edge79 _ _ _ (by omega) (by omega) (by omega) (by omega)).mono ?_; rintro e w' ⟨rfl, rfl⟩; rw [HEX.out])
              go_roundw
              case rel => exact ⟨i + 1, by omega, by go_num, K.out⟩
              case measure => simp [intOf]; omega
        · have hij : i = j := by omega
          subst hij
          have K := hidd (show RelSc (N : Int) 2 zs a r w (i + 1) 0 wq by have := HK2.out; unfold RelSc at this ⊢; rwa [ptB_row] at this)
          clear HK2
          go_wp2_with fail
          go_roundw
          case rel => exact ⟨i + 1, by omega, by omega, by go_num, K.out⟩
          case measure => simp [intOf]; omega
    · have hjN : j = N := by omega
      subst hjN
      obtain ⟨q1, q2, q3, q4⟩ := HK.out
      rw [ptB_done] at q2
      have R := hidd (And.intro q1 (And.intro q2 (And.intro (q1.rowSame (ccells (j : Int) 2 (paintB j r)).toArray) (below_setRow q4 (g := w.heap.size) (Nat.le_refl _) (ccells (j : Int) 2 (paintB j r)).toArray))))
      clear HK q1 q2 q3 q4
      go_wp2_with (first
        | (refine wpList_load_row rfl 24 (.tmp 5) rfl (w.heap.size + 1) rfl 24 _ (0,0) _ R.out.2.1 Try.underlying24 rfl HPS.out ?_)
        | (refine wpList_store_row rfl 24 (.tmp 4) (.tmp 42) rfl w.heap.size _ rfl rfl 24 _ R.out.1 HPS.out HPO.out HPA.out ?_))
      refine bodyPost_ret (results_cell_row rfl _ _ w.heap.size 24 _ (0,0) _ rfl R.out.2.2.1 Try.underlying24 rfl HPS.out) rfl ⟨rfl, R.out.2.2.2⟩
end Go.Proofs.Ytoiamgmlehmomaa
