/- Renumbered positions: the model. -/
import Derived.Test.YtidengcihakijaaRnm
namespace Go.Proofs.Ytidengcihakijaa
set_option linter.unusedVariables false
set_option linter.unusedSimpArgs false
open Go Go.RowKit Go.Shelf
/-- A list's own block under change, the lists that are read. -/
def RelRn (zs ps : List Int) (a ap : Option Addr) (g : Nat) (w : World) (L : List Int) (wr : World) : Prop :=
  OwnL wr w.heap.size (some ⟨g, 0, none⟩) L ∧ SlI wr a zs ∧ SlI wr ap ps ∧ Below w.heap.size w wr
/-- A list of the numbers of N points. -/
structure Ordr (N : Nat) (ps : List Int) : Prop where
  len : ps.length = N
  nod : ps.Nodup
  bd : ∀ x ∈ ps, 0 ≤ x ∧ x < (N : Int)
theorem Ordr.get {N : Nat} {ps : List Int} (h : Ordr N ps) {i : Nat} (hi : i < N) : 0 ≤ ps.getD i 0 ∧ ps.getD i 0 < (N : Int) := by
  have hl : i < ps.length := by rw [h.len]; exact hi
  have := h.bd ps[i] (List.getElem_mem hl)
  rwa [show ps.getD i 0 = ps[i] by simp [List.getD, hl]]
theorem Ordr.ne {N : Nat} {ps : List Int} (h : Ordr N ps) {i j : Nat} (hij : i < j) (hj : j < N) : ps.getD i 0 ≠ ps.getD j 0 := by
  have hi' : i < ps.length := by rw [h.len]; omega
  have hj' : j < ps.length := by rw [h.len]; exact hj
  rw [show ps.getD i 0 = ps[i] by simp [List.getD, hi'], show ps.getD j 0 = ps[j] by simp [List.getD, hj']]
  intro e
  have := (List.pairwise_iff_getElem.1 h.nod) i j hi' hj' hij
  exact this e
theorem Ordr.key {N : Nat} {ps : List Int} (h : Ordr N ps) (hN : N ≤ 5) {i j : Nat} (hij : i < j) (hj : j < N) (q : Nat) : kix ps (q, i, j) < eN N ∧ eix (ps.getD i 0) (ps.getD j 0) = (kix ps (q, i, j) : Int) := by
  have h1 := h.get (show i < N by omega)
  have h2 := h.get hj
  have h3 := h.ne hij hj
  have hb := eix_bd (n := (N : Int)) (by omega) h1.1 h1.2 h2.1 h2.2 h3
  have he := eN_edg N
  unfold kix
  dsimp only
  generalize eix (ps.getD i 0) (ps.getD j 0) = x at *
  omega
set_option maxRecDepth 100000 in
set_option maxHeartbeats 4000000 in
theorem ren49 (N : Nat) (zs ps : List Int) (hN1 : 1 ≤ N) (hN : N ≤ 5) (hlen : zs.length = eN N) (hO : Ordr N ps) (b off cap : Nat) (ap : Option Addr) (capp : Nat) (w : World) (hs : SlI w (some ⟨b, off, none⟩) zs) (hp : SlI w ap ps) :
    Calls Try.prog 34 #[.int .i64 (N : Int), .slice (some ⟨b, off, none⟩) zs.length cap, .slice ap ps.length capp] w (LOne w (rnZ N zs ps)) := by
  have hl10 : zs.length ≤ 10 := by rw [hlen]; exact Nat.le_trans (eN_mono hN) (by decide)
  have HO := hidd (own60 b off cap zs w hs (by omega))
  have HS := hidd hs
  have HP := hidd hp
  have HLE := hidd hlen
  have HPL := hidd hO.len
  have hpl : ps.length ≤ 5 := by rw [hO.len]; exact hN
  rcases hp with hz | ⟨pb, poff, rfl, hpc0⟩
  · exact absurd (show ps.length = 0 by rw [hz]; rfl) (by rw [hO.len]; omega)
  · clear hs hpc0 hlen
    go_enter Try.func34, Try.ntmps34
    go_wp2_with fail
    refine HO.out.mono ?_
    rintro x w1 ⟨g, c, rfl, ho, hb1⟩
    obtain ⟨a', cap', heq, ho'⟩ := own_list ho
    cases heq
    have HR1 := hidd (show RelRn zs ps (some ⟨b, off, none⟩) (some ⟨pb, poff, none⟩) g w (rnL zs ps zs []) w1 from ⟨ho', HS.out.below hb1 (Nat.le_refl _), HP.out.below hb1 (Nat.le_refl _), hb1⟩)
    clear ho ho' hb1
    go_wp2_with fail
    go_loopw [8] (fun jj wr => ∃ j : Nat, 1 ≤ j ∧ j ≤ N ∧ jj = .int .i64 j ∧ Hid (RelRn zs ps (some ⟨b, off, none⟩) (some ⟨pb, poff, none⟩) g w (rnL zs ps zs (eseq j)) wr)) (fun jj _ => N - (intOf jj).toNat)
    case atStart => exact ⟨1, by omega, hN1, rfl, HR1⟩
    case round =>
      obtain ⟨j, hj1, hjN, rfl, HK⟩ := hrel
      by_cases hlt : j < N
      · obtain ⟨wo, rfl⟩ : ∃ wo : World, wo = wr := ⟨_, rfl⟩
        go_wp2_with fail
        go_loopw [9] (fun ii wr => ∃ i : Nat, i ≤ j ∧ ii = .int .i64 i ∧ Hid (RelRn zs ps (some ⟨b, off, none⟩) (some ⟨pb, poff, none⟩) g w (rnL zs ps zs (eseq j ++ rowE j i)) wr)) (fun ii _ => j - (intOf ii).toNat)
        case atStart => exact ⟨0, by omega, rfl, by simp only [rowE, List.range_zero, List.map_nil, List.append_nil]; exact HK⟩
        case round =>
          obtain ⟨i, hij, rfl, HK⟩ := hrel
          by_cases hlt2 : i < j
          · have hk := hO.key hN hlt2 hlt (eN j + i)
            have g1 := hO.get (show i < N by omega)
            have g2 := hO.get hlt
            have hm := eN_mono (show j + 1 ≤ N by omega)
            rw [eN] at hm
            have hLE := HLE.out
            have hLl := rnL_len zs ps (eseq j ++ rowE j i) zs
            have hRow := hidd (show rnL zs ps zs (eseq j ++ rowE j (i + 1)) = (rnL zs ps zs (eseq j ++ rowE j i)).set (kix ps (eN j + i, i, j)) (zs.getD (eN j + i) 0) by
              rw [rowE_succ, ← List.append_assoc, rnL_put])
            have xE : eix (i : Int) (j : Int) = ((eN j + i : Nat) : Int) := eix_eN hlt2
            obtain ⟨K, hK⟩ : ∃ K, K = kix ps (eN j + i, i, j) := ⟨_, rfl⟩
            obtain ⟨E, hE⟩ : ∃ E, E = eN j + i := ⟨_, rfl⟩
            rw [← hK] at hk hRow
            rw [← hE] at hRow xE
            obtain ⟨hk1, xK⟩ := hk
            have hEl : E < zs.length := by omega
            have hKl : K < zs.length := by omega
            have hil : i < ps.length := by have := HPL.out; omega
            have hjl : j < ps.length := by have := HPL.out; omega
            obtain ⟨⟨old, ho⟩, hfro, hBg, hset⟩ := HK.out.1.set (e := K) (by rw [hLl]; exact hKl) (zs.getD E 0)
            rcases HK.out.2.1 with hz | ⟨b', off', ha, hc⟩
            · subst hz; simp at hEl
            · cases ha
              rcases HK.out.2.2.1 with hz | ⟨pb', poff', ha, hpc⟩
              · subst hz; simp at hil
              · cases ha
                have cE := hc E hEl
                have ci := hpc i hil
                have cj := hpc j hjl
                obtain ⟨z, hz⟩ : ∃ z, z = zs.getD E 0 := ⟨_, rfl⟩
                obtain ⟨pi, hpi⟩ : ∃ z, z = ps.getD i 0 := ⟨_, rfl⟩
                obtain ⟨pj, hpj⟩ : ∃ z, z = ps.getD j 0 := ⟨_, rfl⟩
                rw [← hz] at cE hRow hset
                rw [← hpi] at ci g1 xK
                rw [← hpj] at cj g2 xK
                have hbe := HK.out.2.2.2.setCell (p := ⟨g, K, none⟩) hBg (.int .i64 z)
                have K1 := hidd (show RelRn zs ps (some ⟨b, off, none⟩) (some ⟨pb, poff, none⟩) g w (rnL zs ps zs (eseq j ++ rowE j (i + 1))) (wr.setCell ⟨g, K, none⟩ (.int .i64 z)).drew from
                  ⟨by rw [hRow.out]; exact hset.below (Below.refl _ _).drew (Nat.le_refl _), HS.out.below hbe.drew (Nat.le_refl _), HP.out.below hbe.drew (Nat.le_refl _), hbe.drew⟩)
                have hEI : (E : Int) < (zs.length : Int) := by omega
                have hKI : (K : Int) < (zs.length : Int) := by omega
                have hiI : (i : Int) < (ps.length : Int) := by omega
                have hjI : (j : Int) < (ps.length : Int) := by omega
                clear hc hpc hz hpi hpj hset hbe hLE hLl hK hE HK hBg
                go_wp2_with fail
                refine wp_region_still_tail 17 (by kernel_rfl) (by kernel_rfl) ?_
                simp only [List.take_succ_cons, List.take_zero, List.drop_succ_cons, List.drop_zero]
                iterate 9 still_step
                still_call ((edge79 _ _ _ (by omega) (by omega) (by omega) (by omega)).mono fun _ _ h => ⟨h.1, h.2.symm⟩)
                rw [xK]
                iterate 3 still_step
                still_call ((edge79 _ _ _ (by omega) (by omega) (by omega) (by omega)).mono fun _ _ h => ⟨h.1, h.2.symm⟩)
                rw [xE]
                iterate 3 still_step
                refine wpStill_nil ?_
                go_wp2
                go_roundw
                case rel => exact ⟨i + 1, by omega, by go_num, K1⟩
                case measure => simp [intOf]; omega
          · have hije : i = j := by omega
            subst hije
            go_wp2_with fail
            go_roundw
            case rel => exact ⟨i + 1, by omega, by omega, by go_num, by rw [eseq]; exact HK⟩
            case measure => simp [intOf]; omega
      · have hjN2 : j = N := by omega
        subst hjN2
        go_wp2_with fail
        go_ret
        exact ⟨_, c, by rw [rnZ_len]; rfl, HK.out.1, HK.out.2.2.2⟩
end Go.Proofs.Ytidengcihakijaa
