/- The angle number: the program. -/
import Derived.Test.YtpjegmmichjlbaaAngle
namespace Go.Proofs.Ytpjegmmichjlbaa
set_option linter.unusedVariables false
set_option linter.unusedSimpArgs false
open Go Go.RowKit Go.Shelf
def an2 (bs : List Nat) (N d c : Nat) : Nat := sm (fun p => anH bs N p c d) N
def an1 (bs : List Nat) (N d : Nat) : Nat := sm (an2 bs N d) d
def dgZ (bs : List Nat) (N d : Nat) : List Int := dgL N (fun p => DD bs N p d)
theorem dgZ_len (bs : List Nat) (N d : Nat) : (dgZ bs N d).length = N := dgL_len _ _
theorem dgZ_get {bs : List Nat} {N d p : Nat} (h : p < N) : (dgZ bs N d).getD p 0 = (DD bs N p d : Int) := dgL_get h
theorem dg_dgZ {N : Nat} {k : Int} {bs : List Nat} {d : Nat} (hi : isCol (N : Int) k bs = true) (hd : (d : Int) < k) : dgList (N : Int) k bs (d : Int) = dgZ bs N d ∧ dgCode (N : Int) k bs (d : Int) = 0 :=
  dg_good (given_0 hi (inB_yes (by omega) (by omega)) rfl)
set_option maxRecDepth 100000 in
set_option maxHeartbeats 4000000 in
theorem impl17 (n k : Int) (bs : List Nat) (hb : Bys bs) (w : World) :
    Calls Try.prog 17 #[.agg (ccells n k bs).toArray] w fun e w' => e = .returned (.tuple #[.int .i64 (anV n k bs), .int .i64 (anCode n k bs)]) ∧ Below w.heap.size w w' := by
  have HS := hidd (size_c26 n k hb)
  cases hi : isCol n k bs with
  | false =>
    have HV := hidd (show anV n k bs = 0 ∧ anCode n k bs = 1 by simp [anV, anCode, hi])
    rw [HV.out.1, HV.out.2]
    have HI := hidd hi
    clear hi
    go_enter Try.func17, Try.ntmps17
    go_wp2_with (refine wpList_load_row rfl 29 (.tmp 1) rfl w.heap.size rfl 29 _ (0,0) _ (Blk.new _ _ _ _ rfl) Try.underlying29 rfl HS.out ?_)
    refine (implIs_any n k bs hb _).mono ?_
    rintro e w1 ⟨rfl, hb1⟩
    rw [HI.out]
    have R := hidd (((Below.refl w.heap.size w).alloc (Nat.le_refl _) (.cells (ccells n k bs).toArray 29)).trans (hb1.mono (by simp)))
    clear hb1
    go_wp2
    go_ret2
    exact ⟨rfl, R.out⟩
  | true =>
    obtain ⟨n1, n2, k1, k2⟩ := isCol_bd hi
    obtain ⟨N, rfl⟩ := Int.eq_ofNat_of_zero_le (show 0 ≤ n by omega)
    obtain ⟨K, rfl⟩ := Int.eq_ofNat_of_zero_le (show 0 ≤ k by omega)
    have HV := hidd (show anV (N : Int) (K : Int) bs = ((sm (an1 bs N) K : Nat) : Int) ∧ anCode (N : Int) (K : Int) bs = 0 by
      have := an_eq bs N K
      refine ⟨?_, by simp [anCode, hi]⟩
      simp only [anV, hi, if_true, Int.toNat_natCast]
      rw [← this]; rfl)
    rw [HV.out.1, HV.out.2]
    have HC0 := hidd (show (ccells (N : Int) (K : Int) bs).toArray[0]? = some (.int .i64 (N : Int)) from rfl)
    have HC1 := hidd (show (ccells (N : Int) (K : Int) bs).toArray[1]? = some (.int .i64 (K : Int)) from rfl)
    have HDG := hidd (fun (d : Nat) (hd : (d : Int) < (K : Int)) => dg_dgZ hi hd)
    have HI := hidd hi
    clear hi
    go_enter Try.func17, Try.ntmps17
    go_wp2_with (refine wpList_load_row rfl 29 (.tmp 1) rfl w.heap.size rfl 29 _ (0,0) _ (Blk.new _ _ _ _ rfl) Try.underlying29 rfl HS.out ?_)
    refine (implIs_any (N : Int) (K : Int) bs hb _).mono ?_
    rintro e w1 ⟨rfl, hb1⟩
    rw [HI.out]
    have G := hidd (show Rel63 (ccells (N : Int) (K : Int) bs).toArray w w1 from ⟨(Blk.new _ _ _ _ rfl).below hb1 (by simp), ((Below.refl w.heap.size w).alloc (Nat.le_refl _) (.cells (ccells (N : Int) (K : Int) bs).toArray 29)).trans (hb1.mono (by simp))⟩)
    have hw1 := G.out.1.cell HC1.out
    clear hb1
    go_wp2_with fail
    clear hw1
    go_loopw [4, 17] (fun s e wr => ∃ d : Nat, d ≤ K ∧ e = .int .i64 d ∧ s = .int .i64 ((sm (an1 bs N) d : Nat) : Int) ∧ Rel63 (ccells (N : Int) (K : Int) bs).toArray w wr) (fun _ e _ => K - (intOf e).toNat)
    case atStart => exact ⟨0, by omega, rfl, rfl, G.out⟩
    case round =>
      obtain ⟨d, hd, rfl, rfl, HR⟩ := hrel
      have HK := hidd HR
      clear HR
      by_cases hlt : d < K
      · go_wp2_with (refine wpList_load_row rfl 29 (.tmp 1) rfl w.heap.size rfl 29 _ (0,0) _ HK.out.1 Try.underlying29 rfl HS.out ?_)
        refine (impl32 (N : Int) (K : Int) bs hb (d : Int) _).mono ?_
        rintro e w2 ⟨ga, gcap, rfl, hown, hb2⟩
        obtain ⟨q1, q2⟩ := HDG.out d (by omega)
        rw [q1] at hown
        rw [q1, q2, dgZ_len]
        have K2 := hidd (And.intro (show Rel63 (ccells (N : Int) (K : Int) bs).toArray w w2 from ⟨HK.out.1.below hb2 HK.out.1.lt, HK.out.2.trans (hb2.mono HK.out.2.size)⟩) hown.sl)
        clear q1 q2 hown hb2
        go_wp2_with fail
        go_loopw [4, 27] (fun s e wr => ∃ c : Nat, c ≤ d ∧ e = .int .i64 c ∧ s = .int .i64 ((sm (an1 bs N) d + sm (an2 bs N d) c : Nat) : Int) ∧ Rel63 (ccells (N : Int) (K : Int) bs).toArray w wr ∧ SlI wr ga (dgZ bs N d)) (fun _ e _ => d - (intOf e).toNat)
        case atStart => exact ⟨0, by omega, rfl, by simp [sm], K2.out⟩
        case round =>
          obtain ⟨c, hc, rfl, rfl, HR⟩ := hrel
          have HK1 := hidd HR
          clear HR
          by_cases hltc : c < d
          · go_wp2_with (refine wpList_load_row rfl 29 (.tmp 1) rfl w.heap.size rfl 29 _ (0,0) _ HK1.out.1.1 Try.underlying29 rfl HS.out ?_)
            refine (impl32 (N : Int) (K : Int) bs hb (c : Int) _).mono ?_
            rintro e w3 ⟨la, lcap, rfl, hown, hb2⟩
            obtain ⟨q1, q2⟩ := HDG.out c (by omega)
            rw [q1] at hown
            rw [q1, q2, dgZ_len]
            have K3 := hidd (And.intro (show Rel63 (ccells (N : Int) (K : Int) bs).toArray w w3 from ⟨HK1.out.1.1.below hb2 HK1.out.1.1.lt, HK1.out.1.2.trans (hb2.mono HK1.out.1.2.size)⟩) (And.intro (HK1.out.2.below hb2 (Nat.le_refl _)) hown.sl))
            have hw0 := K3.out.1.1.cell HC0.out
            clear q1 q2 hown hb2
            go_wp2_with fail
            clear hw0
            go_loopw [4, 38] (fun s e wr => ∃ p : Nat, p ≤ N ∧ e = .int .i64 p ∧ s = .int .i64 ((sm (an1 bs N) d + sm (an2 bs N d) c + sm (fun p => anH bs N p c d) p : Nat) : Int) ∧ Rel63 (ccells (N : Int) (K : Int) bs).toArray w wr ∧ SlI wr ga (dgZ bs N d) ∧ SlI wr la (dgZ bs N c)) (fun _ e _ => N - (intOf e).toNat)
            case atStart => exact ⟨0, by omega, rfl, by simp [sm], K3.out⟩
            case round =>
              obtain ⟨p, hp, rfl, rfl, HR⟩ := hrel
              have HK2 := hidd HR
              clear HR
              by_cases hltp : p < N
              · have l1 := sm_le (f := an1 bs N) (B := 19652) d fun j hj => Nat.le_trans (sm_le (B := 4913) j fun i _ => Nat.le_trans (sm_le (B := 289) N fun m _ => anH_le (show N ≤ 17 by omega) m i j) (by omega)) (by omega)
                have l2 := sm_le (f := an2 bs N d) (B := 4913) c fun i hi => Nat.le_trans (sm_le (B := 289) N fun m _ => anH_le (show N ≤ 17 by omega) m i d) (by omega)
                have l3 := sm_le (f := fun p => anH bs N p c d) (B := 289) p fun j _ => anH_le (show N ≤ 17 by omega) j c d
                obtain ⟨X, hX⟩ : ∃ X, X = sm (an1 bs N) d + sm (an2 bs N d) c + sm (fun p => anH bs N p c d) p := ⟨_, rfl⟩
                have hX9 : X ≤ 200000 := by omega
                rw [← hX]
                have h9 := anH_le (bs := bs) (show N ≤ 17 by omega) p c d
                have HN := hidd (show X + anH bs N p c d = sm (an1 bs N) d + sm (an2 bs N d) c + sm (fun p => anH bs N p c d) (p + 1) by rw [hX, sm]; omega)
                rcases HK2.out.2.1 with hz | ⟨b1, o1, ha1, hc1⟩
                · have := dgZ_len bs N d; rw [hz] at this; simp at this; omega
                rcases HK2.out.2.2 with hz | ⟨b2, o2, ha2, hc2⟩
                · have := dgZ_len bs N c; rw [hz] at this; simp at this; omega
                subst ha1 ha2
                have e1 := hc1 p (by rw [dgZ_len]; exact hltp)
                have e2 := hc2 p (by rw [dgZ_len]; exact hltp)
                rw [dgZ_get hltp] at e1 e2
                obtain ⟨A, hA⟩ : ∃ A, A = DD bs N p c := ⟨_, rfl⟩
                obtain ⟨B, hB⟩ : ∃ B, B = DD bs N p d := ⟨_, rfl⟩
                rw [← hB] at e1
                rw [← hA] at e2
                have HM := hidd (show ((A : Int) * (B : Int)) = ((anH bs N p c d : Nat) : Int) by rw [hA, hB, anH]; simp)
                have HWR := hidd (show wrap64 ((X : Int) + wrap64 ((A : Int) * (B : Int))) = ((X + anH bs N p c d : Nat) : Int) by rw [HM.out, IntWalk.wrap64_in ((anH bs N p c d : Nat) : Int) ⟨by omega, by omega⟩, IntWalk.wrap64_in ((X : Int) + ((anH bs N p c d : Nat) : Int)) ⟨by omega, by omega⟩]; omega)
                clear hX hA hB l1 l2 l3 hc1 hc2
                go_wp2_with fail
                go_quiet (fail)
                go_wp2_with fail
                go_roundw
                case rel => exact ⟨p + 1, by omega, by go_num, by rw [← HN.out, ← HWR.out], ⟨HK2.out.1.1.drewN _, below_drewN HK2.out.1.2 _⟩, HK2.out.2.1.drewN _, HK2.out.2.2.drewN _⟩
                case measure => simp [intOf]; omega
              · have hpe : p = N := by omega
                subst hpe
                go_wp2_with fail
                go_roundw
                case rel => exact ⟨c + 1, by omega, by go_num, congrArg (fun x : Nat => Value.int .i64 (x : Int)) (Nat.add_assoc (sm (an1 bs p) d) (sm (an2 bs p d) c) (an2 bs p d c)), HK2.out.1, HK2.out.2.1⟩
                case measure => simp [intOf]; omega
          · have hde : c = d := by omega
            subst hde
            go_wp2_with fail
            go_roundw
            case rel => exact ⟨c + 1, by omega, by go_num, rfl, HK1.out.1⟩
            case measure => simp [intOf]; omega
      · have hce : d = K := by omega
        subst hce
        go_wp2_with fail
        go_ret2
        exact ⟨rfl, HK.out.2⟩
end Go.Proofs.Ytpjegmmichjlbaa
