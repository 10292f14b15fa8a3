/- GreatestDouble, GreatestBook: the model. -/
import Derived.Test.YtkiocedhibeieaaDoorDbm
namespace Go.Proofs.YtkiocedhibeieaaDoor
set_option linter.unusedVariables false
set_option linter.unusedSimpArgs false
open Go Go.RowKit Go.Shelf
theorem quiet_lft {P : Program} {f : FuncId} {args : Array Value} {w : World} {n : Nat} {v : Value}
    (h : Calls P f args (w.drewN n) fun e w' => e = .returned v ∧ w.drewN n = w') : Calls P f args (w.drewN n) fun e w'' => e = .returned v ∧ ∃ m, w'' = w.drewN m :=
  h.mono fun _ _ ⟨he, hm⟩ => ⟨he, n, hm.symm⟩
def atL (s : Int × Nat × Nat) : List Int := if s.1 < 0 then [] else [(s.2.1 : Int), (s.2.2 : Int)]
theorem atL_mk (x i j : Nat) : atL ((x : Int), i, j) = [(i : Int), (j : Int)] := by unfold atL; rw [if_neg (by show ¬ (x : Int) < 0; omega)]
def RelDb (C : Array Value) (zs : List Int) (ar : Option Addr) (w : World) (s : Int × Nat × Nat) (v : Value) (wr : World) : Prop :=
  Blk wr w.heap.size C 28 ∧ SlI wr ar zs ∧ Below w.heap.size w wr ∧ ∃ a c, v = .slice a (atL s).length c ∧ OwnL wr 0 a (atL s)
theorem RelDb.below {C : Array Value} {zs : List Int} {ar : Option Addr} {w : World} {s : Int × Nat × Nat} {v : Value} {wr w1 : World} (h : RelDb C zs ar w s v wr) (hb : Below wr.heap.size wr w1) : RelDb C zs ar w s v w1 := by
  obtain ⟨h1, h2, h3, a, c, h4, h5⟩ := h
  exact ⟨h1.below hb h1.lt, h2.below hb (Nat.le_refl _), h3.trans (hb.mono h3.size), a, c, h4, h5.below hb (Nat.le_refl _)⟩
theorem own_two (w : World) (i j : Int) : OwnL (w.alloc (.cells #[.int .i64 i, .int .i64 j] 2)) 0 (some ⟨w.heap.size, 0, none⟩) [i, j] :=
  .inr ⟨w.heap.size, _, Nat.zero_le _, rfl, Blk.new _ _ _ _ rfl, Nat.le_refl _, fun m hm => by
    match m, hm with
    | 0, _ => rfl
    | 1, _ => rfl⟩
set_option maxRecDepth 100000 in
set_option maxHeartbeats 4000000 in
theorem double65 (N : Nat) (k : Int) (bs : List Nat) (hb : Bys bs) (c : Int) (bk : Bool) (n1 : 1 ≤ N) (n2 : N ≤ 17) (w : World) :
    Calls Tryd.prog 65 #[.agg (ccells (N : Int) k bs).toArray, .int .i64 c, .bool bk] w fun e w' => ∃ a cap, e = .returned (.tuple #[.slice a (atL (dbA (rwN bs c N) bk N N)).length cap, .int .i64 (dbA (rwN bs c N) bk N N).1]) ∧ OwnL w' 0 a (atL (dbA (rwN bs c N) bk N N)) ∧ Below w.heap.size w w' := by
  have HS := hidd (size_c26 (N : Int) k hb)
  have HC0 := hidd (show (ccells (N : Int) k bs).toArray[0]? = some (.int .i64 (N : Int)) from rfl)
  have HRO := hidd (fun W => rows74 N k bs hb c n1 n2 W)
  obtain ⟨R, hR⟩ : ∃ R, R = rwN bs c N := ⟨_, rfl⟩
  have HR17 := hidd (fun p => (by rw [hR]; exact Nat.lt_of_lt_of_le (arK_lt _ _) (Nat.pow_le_pow_right (by omega) n2) : R p < 2 ^ 17))
  obtain ⟨zs, hzs⟩ : ∃ zs, zs = fillA (rowF N bs c) N := ⟨_, rfl⟩
  have HZL := hidd (by rw [hzs, fillA_len] : zs.length = N)
  have HZG := hidd (fun j (hj : j < N) => (by rw [hzs, hR, fillA_get _ hj]; rfl : zs.getD j 0 = ((R j : Nat) : Int)))
  rw [← hzs] at HRO
  rw [← hR]
  clear hR hzs
  go_enter Tryd.func65, Tryd.ntmps65
  go_wp2_with (refine wpList_load_row rfl 28 (.tmp 3) rfl w.heap.size rfl 28 _ (0,0) _ (Blk.new _ _ _ _ rfl) Tryd.underlying28 rfl HS.out ?_)
  refine (HRO.out _).mono ?_
  rintro e w1 ⟨ar, capr, rfl, hor, hb1⟩
  have G := hidd (show Blk w1 w.heap.size (ccells (N : Int) k bs).toArray 28 ∧ SlI w1 ar zs ∧ Below w.heap.size w w1 from ⟨(Blk.new w (ccells (N : Int) k bs).toArray 28 _ rfl).below hb1 (by simp), hor.sl, ((Below.refl w.heap.size w).alloc (Nat.le_refl _) (.cells (ccells (N : Int) k bs).toArray 28)).trans (hb1.mono (by simp))⟩)
  clear hb1 hor
  go_wp2_with fail
  go_loopw [9, 10, 11] (fun b v i wr => ∃ I : Nat, I ≤ N ∧ i = .int .i64 (I : Int) ∧ b = .int .i64 (dbA R bk N I).1 ∧ Hid (RelDb (ccells (N : Int) k bs).toArray zs ar w (dbA R bk N I) v wr)) (fun _ _ i _ => N - (intOf i).toNat)
  case atStart =>
    have ha : Below w1.heap.size w1 (w1.alloc (.cells #[] 2)) := (Below.refl _ _).alloc (Nat.le_refl _) _
    exact ⟨0, by omega, rfl, rfl, G.out.1.below ha G.out.1.lt, G.out.2.1.below ha (Nat.le_refl _), G.out.2.2.trans (ha.mono G.out.2.2.size), _, _, rfl, .inl rfl⟩
  case round =>
    obtain ⟨I, hI, rfl, rfl, HK⟩ := hrel
    have c0 := HK.out.1.cell HC0.out
    by_cases hlt : I < N
    · have hltI : decide ((I : Int) < (N : Int)) = true := by simp; omega
      obtain ⟨s, hs⟩ : ∃ s, s = dbA R bk N I := ⟨_, rfl⟩
      have HSS := hidd (show dbA R bk N (I + 1) = dbR R bk I s N by rw [hs]; rfl)
      rw [← hs] at HK ⊢
      clear hs
      go_wp2_with fail
      obtain ⟨wo, rfl⟩ : ∃ wo, wo = wr := ⟨_, rfl⟩
      clear c0
      go_loopw [9, 10, 12] (fun b v jj wq => ∃ J : Nat, I + 1 ≤ J ∧ J ≤ N ∧ jj = .int .i64 (J : Int) ∧ b = .int .i64 (dbR R bk I s J).1 ∧ Hid (RelDb (ccells (N : Int) k bs).toArray zs ar w (dbR R bk I s J) v wq)) (fun _ _ jj _ => N - (intOf jj).toNat)
      case atStart => exact ⟨I + 1, Nat.le_refl _, by omega, by go_num, by rw [dbR_low (Nat.le_refl _)], by rw [dbR_low (Nat.le_refl _)]; exact HK.out⟩
      case round =>
        obtain ⟨J, hJ1, hJ2, rfl, rfl, HQ⟩ := hrel
        have c0 := HQ.out.1.cell HC0.out
        by_cases hlt2 : J < N
        · have hltJ : decide ((J : Int) < (N : Int)) = true := by simp; omega
          rcases HQ.out.2.1 with hz | ⟨bl, off, ha, hc⟩
          · have := HZL.out; rw [hz] at this; simp at this; omega
          · subst ha
            have hci := hc I (by rw [HZL.out]; exact hlt)
            have hcj := hc J (by rw [HZL.out]; exact hlt2)
            rw [HZG.out I hlt] at hci
            rw [HZG.out J hlt2] at hcj
            obtain ⟨t, ht⟩ : ∃ t, t = dbR R bk I s J := ⟨_, rfl⟩
            have HTT := hidd ht
            have hRI := HR17.out I
            have hRJ := HR17.out J
            have hand := i64_and_nat (R I) (R J) (by omega) (by omega)
            have hbt := bit_test (R I) J (by omega)
            have HON := hidd (fun W => ones65 (R I &&& R J) W (Nat.lt_of_le_of_lt Nat.and_le_left (by omega)))
            have hyes := dbR_yes (R := R) (bk := bk) (i := I) (J := J) (s := s)
            have hless := dbR_less (R := R) (bk := bk) (i := I) (J := J) (s := s)
            have hout := dbR_out (R := R) (bk := bk) (i := I) (J := J) (s := s)
            have hdc : dbC R bk I J = (!bk || (R I).testBit J) := by unfold dbC; rw [decide_eq_true (by omega), Bool.true_and]
            have hu : IntKind.u64.wrap (J : Int) = (J : Int) := by unfold IntKind.wrap; simp [IntKind.signed, IntKind.bits]; omega
            have hmn : min J 64 = J := by omega
            rw [hdc] at hyes hout
            rw [← ht] at HQ hyes hless hout ⊢
            obtain ⟨A, hA⟩ : ∃ A, A = R I := ⟨_, rfl⟩
            obtain ⟨B, hB⟩ : ∃ B, B = R J := ⟨_, rfl⟩
            rw [← hA] at hci hand hbt hyes hout HON hless
            rw [← hB] at hcj hand HON hyes hless
            obtain ⟨D, hD⟩ : ∃ D, D = ones (A &&& B) := ⟨_, rfl⟩
            rw [← hD] at HON hyes hless
            obtain ⟨X, hX⟩ : ∃ X, X = A &&& B := ⟨_, rfl⟩
            rw [← hX] at HON hand
            clear hc ht hRI hRJ hdc hA hB hD hX
            cases hq : decide (t.1 < ((D : Nat) : Int)) with
            | false =>
              have HST := hidd (hless (of_decide_eq_false hq))
              clear hyes hless hout
              go_wp2_with fail
              go_quiet ((go_at_call 82; exact quiet_lft (HON.out _)))
              have K := hidd (HQ.out.below (below_drewN (Below.refl wr.heap.size wr) nq))
              clear c0
              go_wp2_with fail
              go_roundw
              case rel => exact ⟨J + 1, by omega, by omega, by go_num, by rw [HST.out, HTT.out], by rw [HST.out]; exact K.out⟩
              case measure => simp [intOf]; omega
            | true =>
              cases bk with
              | false =>
                have HST := hidd (hyes rfl (of_decide_eq_true hq))
                clear hyes hless hout
                go_wp2_with fail
                go_quiet ((go_at_call 82; exact quiet_lft (HON.out _)))
                have K := hidd (HQ.out.below (below_drewN (Below.refl wr.heap.size wr) nq))
                clear c0
                go_wp2_with fail
                go_roundw
                case rel =>
                  refine ⟨J + 1, by omega, by omega, by go_num, by rw [HST.out], ?_⟩
                  rw [HST.out]
                  have ha : Below (wr.drewN nq).heap.size (wr.drewN nq) ((wr.drewN nq).alloc (.cells #[.int .i64 (I : Int), .int .i64 (J : Int)] 2)) := (Below.refl _ _).alloc (Nat.le_refl _) _
                  obtain ⟨k1, k2, k3, _⟩ := K.out.below ha
                  exact ⟨k1, k2, k3, _, _, by rw [atL_mk]; rfl, by rw [atL_mk]; exact own_two _ _ _⟩
                case measure => simp [intOf]; omega
              | true =>
                cases hb2 : A.testBit J with
                | true =>
                  have hb3 := hbt.trans hb2
                  have HST := hidd (hyes (by rw [hb2]; rfl) (of_decide_eq_true hq))
                  clear hyes hless hout
                  go_wp2_with fail
                  go_quiet ((go_at_call 82; exact quiet_lft (HON.out _)))
                  have K := hidd (HQ.out.below (below_drewN (Below.refl wr.heap.size wr) nq))
                  clear c0
                  go_wp2_with fail
                  go_roundw
                  case rel =>
                    refine ⟨J + 1, by omega, by omega, by go_num, by rw [HST.out], ?_⟩
                    rw [HST.out]
                    have ha : Below (wr.drewN nq).heap.size (wr.drewN nq) ((wr.drewN nq).alloc (.cells #[.int .i64 (I : Int), .int .i64 (J : Int)] 2)) := (Below.refl _ _).alloc (Nat.le_refl _) _
                    obtain ⟨k1, k2, k3, _⟩ := K.out.below ha
                    exact ⟨k1, k2, k3, _, _, by rw [atL_mk]; rfl, by rw [atL_mk]; exact own_two _ _ _⟩
                  case measure => simp [intOf]; omega
                | false =>
                  have hb3 := hbt.trans hb2
                  have HST := hidd (hout (by rw [hb2]; rfl))
                  clear hyes hless hout
                  go_wp2_with fail
                  go_quiet ((go_at_call 82; exact quiet_lft (HON.out _)))
                  have K := hidd (HQ.out.below (below_drewN (Below.refl wr.heap.size wr) nq))
                  clear c0
                  go_wp2_with fail
                  go_roundw
                  case rel => exact ⟨J + 1, by omega, by omega, by go_num, by rw [HST.out, HTT.out], by rw [HST.out]; exact K.out⟩
                  case measure => simp [intOf]; omega
        · have hltJ : decide ((J : Int) < (N : Int)) = false := by simp; omega
          have hJe : J = N := by omega
          have HE := hidd (show dbR R bk I s J = dbA R bk N (I + 1) by rw [HSS.out, hJe])
          rw [HE.out] at HQ ⊢
          have HW := hidd HQ.out
          clear HQ hJe
          go_wp2_with fail
          go_roundw
          case rel => exact ⟨I + 1, by omega, by go_num, rfl, HW.out⟩
          case measure => simp [intOf]; omega
    · have hltI : decide ((I : Int) < (N : Int)) = false := by simp; omega
      have hIe : I = N := by omega
      obtain ⟨s, hs⟩ : ∃ s, s = dbA R bk N I := ⟨_, rfl⟩
      have HSS := hidd (show s = dbA R bk N N by rw [hs, hIe])
      rw [← hs] at HK ⊢
      clear hs hIe
      obtain ⟨h1, h2, h3, a, cap, rfl, h5⟩ := HK.out
      have R2 := hidd (And.intro h5 h3)
      clear h1 h2 h3 h5 HK
      go_wp2_with fail
      go_ret2
      exact ⟨a, cap, by rw [← HSS.out]; rfl, by rw [← HSS.out]; exact R2.out.1, R2.out.2⟩
end Go.Proofs.YtkiocedhibeieaaDoor
