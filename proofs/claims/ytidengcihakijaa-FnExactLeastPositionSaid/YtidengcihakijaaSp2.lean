/- The model's triangles: l09Common. -/
import Derived.Test.YtidengcihakijaaSp1
namespace Go.Proofs.Ytidengcihakijaa
set_option linter.unusedVariables false
set_option linter.unusedSimpArgs false
open Go Go.RowKit
/-- What the model holds of a list of triangles: what is in all of them, and how many. -/
def Hel (F : Nat) (w wr : World) (c d : Nat) (L : List Nat) : Prop := Eqw w wr ∧ c = cmL F L ∧ d = L.length
theorem Hel.put {F : Nat} {w wr : World} {c d : Nat} {L : List Nat} (h : Hel F w wr c d L) (m : Nat) : Hel F w wr (c &&& m) (d + 1) (L ++ [m]) := ⟨h.1, by rw [cmL_app, h.2.1], by rw [h.2.2]; simp⟩
theorem Hel.le {F : Nat} {w wr : World} {c d : Nat} {L : List Nat} (h : Hel F w wr c d L) : c ≤ F := by rw [h.2.1]; exact cmL_le _ _
theorem w64_pow {A : Nat} (h : A < 10) : wrap64 (2 ^ A) = ((2 ^ A : Nat) : Int) ∧ 2 ^ A < 2 ^ 10 := by
  have h2 : 2 ^ A < 2 ^ 10 := Nat.pow_lt_pow_right (by omega) h
  have e : (2 : Int) ^ A = ((2 ^ A : Nat) : Int) := by simp
  rw [e]
  generalize 2 ^ A = y at *
  exact ⟨IntWalk.wrap64_in _ ⟨by omega, by omega⟩, h2⟩
theorem i64_mk {c A B C : Nat} (hc : c ≤ 1023) (hA : A < 10) (hB : B < 10) (hC : C < 10) : bits .and .i64 (c : Int) (bits .or .i64 (bits .or .i64 (wrap64 (2 ^ A)) (wrap64 (2 ^ B))) (wrap64 (2 ^ C))) = ((c &&& (2 ^ A ||| 2 ^ B ||| 2 ^ C) : Nat) : Int) := by
  obtain ⟨a1, a2⟩ := w64_pow hA
  obtain ⟨b1, b2⟩ := w64_pow hB
  obtain ⟨c1, c2⟩ := w64_pow hC
  have h1 := Nat.or_lt_two_pow a2 b2
  have h2 := Nat.or_lt_two_pow h1 c2
  rw [a1, b1, c1]
  rw [i64_or_nat _ _ (by omega) (by omega), i64_or_nat _ _ (by omega) (by omega), i64_and_nat _ _ (by omega) (by omega)]
def trL (P : Int) (zs : List Int) (k j i : Nat) : List Nat := triK P zs k ++ triJ P zs k j ++ triI P zs k j i
theorem trL_len (P : Int) (zs : List Int) {k j i : Nat} (hk : k ≤ 5) (hj : j ≤ k) (hi : i ≤ j) : (trL P zs k j i).length ≤ 155 := by
  have h1 := triK_len P zs k
  have h2 := triJ_len P zs k j
  have h3 := triI_len P zs k j i
  have h4 : k * k * k ≤ 5 * 5 * 5 := Nat.mul_le_mul (Nat.mul_le_mul hk hk) hk
  have h5 : j * j ≤ 5 * 5 := Nat.mul_le_mul (by omega) (by omega)
  unfold trL
  rw [List.length_append, List.length_append]
  omega
theorem trL_put {P : Int} {zs : List Int} {k j i : Nat} (h : has3 P zs k j i = true) : trL P zs k j (i + 1) = trL P zs k j i ++ [mk3 k j i] := by
  unfold trL; rw [triI, if_pos h, List.append_assoc, List.append_assoc, List.append_assoc]
theorem trL_not {P : Int} {zs : List Int} {k j i : Nat} (h : has3 P zs k j i = false) : trL P zs k j (i + 1) = trL P zs k j i := by
  unfold trL; rw [triI, if_neg (by simp [h]), List.append_nil]
theorem trL_row (P : Int) (zs : List Int) (k j : Nat) : trL P zs k j j = trL P zs k (j + 1) 0 := by
  unfold trL; rw [triJ, triI, List.append_nil, List.append_assoc]
theorem trL_col (P : Int) (zs : List Int) (k : Nat) : trL P zs k k 0 = trL P zs (k + 1) 1 0 := by
  unfold trL; rw [triK]; simp [triI, triJ]
theorem trL_all (P : Int) (zs : List Int) (k : Nat) : trL P zs k 1 0 = triK P zs k := by
  unfold trL; simp [triI, triJ]
set_option maxRecDepth 100000 in
set_option maxHeartbeats 4000000 in
theorem common39 (N : Nat) (P : Int) (zs : List Int) (a : Option Addr) (cap : Nat) (w : World) (hs : SlI w a zs) (hN1 : 1 ≤ N) (hN : N ≤ 5) (hlen : zs.length = eN N) :
    Calls Try.prog 52 #[.int .i64 (N : Int), .slice a zs.length cap, .int .i64 P] w fun e w' => e = .returned (.tuple #[.int .i64 (cmL (2 ^ eN N - 1) (triK P zs N) : Nat), .int .i64 ((triK P zs N).length : Nat)]) ∧ w = w' := by
  have HS := hidd hs
  have he10 : eN N ≤ 10 := Nat.le_trans (eN_mono hN) (by decide)
  have hp := Nat.pow_le_pow_right (show 0 < 2 by omega) he10
  have hp0 : 0 < 2 ^ eN N := Nat.two_pow_pos _
  obtain ⟨F, hF⟩ : ∃ F, F = 2 ^ eN N - 1 := ⟨_, rfl⟩
  have hF10 : F ≤ 1023 := by omega
  have HFF := hidd hF
  have hwl : IntKind.u64.wrap (zs.length : Int) = (zs.length : Int) := by rw [hlen]; unfold IntKind.wrap; simp [IntKind.signed, IntKind.bits]; omega
  have HL := hidd hlen
  have hl10 : zs.length ≤ 10 := by omega
  clear hs hF hlen
  go_enter Try.func52, Try.ntmps52
  go_wp2_with fail
  go_loopw [8, 9, 10] (fun cc dd kk wr => ∃ c d k : Nat, 2 ≤ k ∧ (k ≤ N ∨ k = 2) ∧ cc = .int .i64 c ∧ dd = .int .i64 d ∧ kk = .int .i64 k ∧ Hid (Hel F w wr c d (trL P zs k 1 0))) (fun _ _ kk _ => N - (intOf kk).toNat)
  case atStart =>
    refine ⟨F, 0, 2, by omega, .inr rfl, ?_, rfl, rfl, rfl, rfl, rfl⟩
    rw [HFF.out, ← HL.out]
    have e : (2 : Int) ^ zs.length = ((2 ^ zs.length : Nat) : Int) := by simp
    have h1 := Nat.pow_le_pow_right (show 0 < 2 by omega) hl10
    have h2 := Nat.two_pow_pos zs.length
    rw [e]
    generalize 2 ^ zs.length = y at *
    rw [IntWalk.wrap64_in (y : Int) ⟨by omega, by omega⟩, IntWalk.wrap64_in _ ⟨by omega, by omega⟩]
    congr 1; omega
  case round =>
    obtain ⟨c, d, k, hk2, hkN, rfl, rfl, rfl, HD⟩ := hrel
    have hk5 : k ≤ 5 := by omega
    by_cases hlt : k < N
    · obtain ⟨wo, rfl⟩ : ∃ wo : World, wo = wr := ⟨_, rfl⟩
      go_wp2_with fail
      go_loopw [8, 9, 11] (fun cc dd jj wr => ∃ c d j : Nat, 1 ≤ j ∧ j ≤ k ∧ cc = .int .i64 c ∧ dd = .int .i64 d ∧ jj = .int .i64 j ∧ Hid (Hel F w wr c d (trL P zs k j 0))) (fun _ _ jj _ => k - (intOf jj).toNat)
      case atStart => exact ⟨c, d, 1, by omega, by omega, rfl, rfl, rfl, HD⟩
      case round =>
        obtain ⟨c, d, j, hj1, hjk, rfl, rfl, rfl, HD⟩ := hrel
        by_cases hlt2 : j < k
        · obtain ⟨wo, rfl⟩ : ∃ wo : World, wo = wr := ⟨_, rfl⟩
          go_wp2_with fail
          go_loopw [8, 9, 12] (fun cc dd ii wr => ∃ c d i : Nat, i ≤ j ∧ cc = .int .i64 c ∧ dd = .int .i64 d ∧ ii = .int .i64 i ∧ Hid (Hel F w wr c d (trL P zs k j i))) (fun _ _ ii _ => j - (intOf ii).toNat)
          case atStart => exact ⟨c, d, 0, by omega, rfl, rfl, rfl, HD⟩
          case round =>
            obtain ⟨c, d, i, hij, rfl, rfl, rfl, HD⟩ := hrel
            obtain rfl : w = wr := HD.out.1
            by_cases hlt3 : i < j
            · obtain ⟨A, hA⟩ : ∃ A, A = eN j + i := ⟨_, rfl⟩
              obtain ⟨B, hB⟩ : ∃ B, B = eN k + i := ⟨_, rfl⟩
              obtain ⟨C, hC⟩ : ∃ C, C = eN k + j := ⟨_, rfl⟩
              have xA : eix (i : Int) (j : Int) = (A : Int) := by rw [eix_eN hlt3, hA]
              have xB : eix (i : Int) (k : Int) = (B : Int) := by rw [eix_eN (show i < k by omega), hB]
              have xC : eix (j : Int) (k : Int) = (C : Int) := by rw [eix_eN hlt2, hC]
              have hm1 := eN_mono (show j + 1 ≤ k by omega)
              have hm2 := eN_mono (show k + 1 ≤ N by omega)
              have hL := HL.out
              rw [eN] at hm1 hm2
              have lA : A < zs.length := by omega
              have lB : B < zs.length := by omega
              have lC : C < zs.length := by omega
              clear hL
              rcases HS.out with hz | ⟨b, off, rfl, hc⟩
              · subst hz; simp at lA
              · have cA := hc A lA
                have cB := hc B lB
                have cC := hc C lC
                have H3 := hidd (show has3 P zs k j i = ((zs.getD A 0 == P) && (zs.getD B 0 == P) && (zs.getD C 0 == P)) by rw [hA, hB, hC]; rfl)
                obtain ⟨za, hza⟩ : ∃ z, z = zs.getD A 0 := ⟨_, rfl⟩
                obtain ⟨zb, hzb⟩ : ∃ z, z = zs.getD B 0 := ⟨_, rfl⟩
                obtain ⟨zc, hzc⟩ : ∃ z, z = zs.getD C 0 := ⟨_, rfl⟩
                rw [← hza] at cA H3
                rw [← hzb] at cB H3
                rw [← hzc] at cC H3
                have HX := hidd (show mk3 k j i = 2 ^ A ||| 2 ^ B ||| 2 ^ C by rw [hA, hB, hC]; rfl)
                have lA' : (A : Int) < (zs.length : Int) := by omega
                have lB' : (B : Int) < (zs.length : Int) := by omega
                have lC' : (C : Int) < (zs.length : Int) := by omega
                clear hza hzb hzc hc hA hB hC
                cases qa : (za == P) with
                | false =>
                  have K := hidd (show Hel F w w c d (trL P zs k j (i + 1)) by rw [trL_not (by rw [H3.out, qa]; rfl)]; exact HD.out)
                  go_wp2_with (go_at_call 46; refine (edge79 _ _ _ (by omega) (by omega) (by omega) (by omega)).mono ?_; rintro e w' ⟨rfl, rfl⟩; first | rw [xA] | rw [xB] | rw [xC])
                  go_roundw
                  case rel => exact ⟨c, d, i + 1, by omega, rfl, rfl, by go_num, K⟩
                  case measure => simp [intOf]; omega
                | true =>
                  cases qb : (zb == P) with
                  | false =>
                    have K := hidd (show Hel F w w c d (trL P zs k j (i + 1)) by rw [trL_not (by rw [H3.out, qb]; simp)]; exact HD.out)
                    go_wp2_with (go_at_call 46; refine (edge79 _ _ _ (by omega) (by omega) (by omega) (by omega)).mono ?_; rintro e w' ⟨rfl, rfl⟩; first | rw [xA] | rw [xB] | rw [xC])
                    go_roundw
                    case rel => exact ⟨c, d, i + 1, by omega, rfl, rfl, by go_num, K⟩
                    case measure => simp [intOf]; omega
                  | true =>
                    cases qc : (zc == P) with
                    | false =>
                      have K := hidd (show Hel F w w c d (trL P zs k j (i + 1)) by rw [trL_not (by rw [H3.out, qc]; simp)]; exact HD.out)
                      go_wp2_with (go_at_call 46; refine (edge79 _ _ _ (by omega) (by omega) (by omega) (by omega)).mono ?_; rintro e w' ⟨rfl, rfl⟩; first | rw [xA] | rw [xB] | rw [xC])
                      go_roundw
                      case rel => exact ⟨c, d, i + 1, by omega, rfl, rfl, by go_num, K⟩
                      case measure => simp [intOf]; omega
                    | true =>
                      have K := hidd (show Hel F w w (c &&& mk3 k j i) (d + 1) (trL P zs k j (i + 1)) by rw [trL_put (by rw [H3.out, qa, qb, qc]; rfl)]; exact HD.out.put _)
                      go_wp2_with (go_at_call 46; refine (edge79 _ _ _ (by omega) (by omega) (by omega) (by omega)).mono ?_; rintro e w' ⟨rfl, rfl⟩; first | rw [xA] | rw [xB] | rw [xC])
                      have hcF := HD.out.le
                      have hd155 : d ≤ 155 := by rw [HD.out.2.2]; exact trL_len P zs hk5 hjk hij
                      have e1 := i64_mk (c := c) (A := A) (B := B) (C := C) (by omega) (by omega) (by omega) (by omega)
                      have e2 : wrap64 ((d : Int) + 1) = ((d + 1 : Nat) : Int) := by rw [IntWalk.wrap64_in _ ⟨by omega, by omega⟩]; omega
                      rw [e1, e2, ← HX.out]
                      refine ⟨⟨c &&& mk3 k j i, d + 1, i + 1, by omega, rfl, rfl, by go_num, K⟩, ?_⟩
                      simp [intOf]; omega
            · have hij2 : i = j := by omega
              subst hij2
              have K := hidd (show Hel F w w c d (trL P zs k (i + 1) 0) by rw [← trL_row]; exact HD.out)
              go_wp2_with fail
              go_roundw
              case rel => exact ⟨c, d, i + 1, by omega, by omega, rfl, rfl, by go_num, K⟩
              case measure => simp [intOf]; omega
        · have hjk2 : j = k := by omega
          subst hjk2
          have K := hidd (show Hel F w wr c d (trL P zs (j + 1) 1 0) by rw [← trL_col]; exact HD.out)
          go_wp2_with fail
          go_roundw
          case rel => exact ⟨c, d, j + 1, by omega, by omega, rfl, rfl, by go_num, K⟩
          case measure => simp [intOf]; omega
    · obtain rfl : w = wr := HD.out.1
      have hT : triK P zs k = triK P zs N := by
        by_cases e : k = N
        · rw [e]
        · obtain rfl : N = 1 := by omega
          obtain rfl : k = 2 := by omega
          rfl
      have K := hidd HD.out.2
      go_wp2_with fail
      go_ret2
      rw [trL_all, hT, HFF.out] at K
      exact ⟨by rw [← K.out.1, ← K.out.2]; rfl, rfl⟩
end Go.Proofs.Ytidengcihakijaa
