/- The function that hands out the changes: its promise. -/
import Derived.Test.YtckffliiidgilaaDoorFcq
namespace Go.Proofs.YtckffliiidgilaaDoor
set_option linter.unusedVariables false
set_option linter.unusedSimpArgs false
open Go Go.RowKit Go.Shelf
attribute [local go_sem] Oper.semAt_some
def EncT (x : Nat × Nat × Nat) (B D : Nat) (W : World) (args : Array Value) : Prop := args = #[.agg #[.int .i64 (x.1 : Int), .int .i64 (x.2.1 : Int), .int .i64 (x.2.2 : Int)]]
def Rl95 (bx : Nat) (C : Array Value) (W : World) (J : List (Nat × Nat × Nat) → World → Prop) (xs : List (Nat × Nat × Nat)) (wr : World) : Prop := J xs wr ∧ Blk wr bx C 28 ∧ W.heap.size ≤ wr.heap.size
theorem Rl95.below {bx : Nat} {C : Array Value} {W : World} {J : List (Nat × Nat × Nat) → World → Prop} {xs : List (Nat × Nat × Nat)} {wr w' : World} (h : Rl95 bx C W J xs wr) (hJ : StabD W.heap.size W.heap.size J) (hb : Below wr.heap.size wr w') : Rl95 bx C W J xs w' :=
  ⟨hJ _ _ _ h.1 (Away.of_below hb), h.2.1.below hb h.2.1.lt, Nat.le_trans h.2.2 hb.size⟩
set_option maxRecDepth 100000 in
set_option maxHeartbeats 4000000 in
theorem iter95 (m N K bx : Nat) (bs : List Nat) (hb : Bys bs) (hN : N ≤ 17) (hK : K ≤ 4) (w : World) (hX : Blk w bx (ccells (N : Int) (K : Int) bs).toArray 28) :
    GivesD m 95 #[.pointer (some ⟨bx, 0, none⟩)] EncT [bx] (chL bs K N N) w := by
  intro l J Jx W hszW hbs hJ hY h0
  have HS := hidd (size_c26 (N : Int) (K : Int) hb)
  have HAT := hidd (fun (i j : Nat) (h1 : i < j) (h2 : j < N) W => at59 (N : Int) (K : Int) bs hb (N : Int) (i : Int) (j : Int) W (by omega) (by omega) (by omega) (by omega) (by omega) (by omega))
  have HCH := hidd (fun (i h c : Nat) (hi : i < N) (hh : i + 1 + h < N) (hc : c < K) hn => ch_at (bs := bs) (K := K) hi hh hc hn)
  have HC0 := hidd (show (ccells (N : Int) (K : Int) bs).toArray[0]? = some (.int .i64 (N : Int)) from rfl)
  have HC1 := hidd (show (ccells (N : Int) (K : Int) bs).toArray[1]? = some (.int .i64 (K : Int)) from rfl)
  have hX' : Blk W bx (ccells (N : Int) (K : Int) bs).toArray 28 := (hbs bx (by simp)).trans hX
  obtain ⟨C, hC⟩ : ∃ C, C = (ccells (N : Int) (K : Int) bs).toArray := ⟨_, rfl⟩
  rw [← hC] at HS HAT HC0 HC1 hX'
  obtain ⟨all, hall⟩ : ∃ all, all = chL bs K N N := ⟨_, rfl⟩
  rw [← hall] at HCH hY ⊢
  have HALL := hidd hall
  have HJ := hidd (hJ W.heap.size)
  have HR0 := hidd (show Rl95 bx C W (J W.heap.size) (chL bs K N 0) W from ⟨h0 _, hX', Nat.le_refl _⟩)
  have HY := hidd hY
  have HBX := hidd hX'.lt
  have c0 := hX'.cell HC0.out
  clear hX hX' hbs hJ hY h0 hC hall hb
  refine callsIn_of_wp Tryd.func95 rfl trivial ?_ rfl
  simp only [Tryd.ntmps95, List.size_toArray, List.length_cons, List.length_nil, Nat.reduceAdd, Nat.reduceSub, Array.replicate_succ, Array.replicate_zero, List.push_toArray, List.append_toArray, List.nil_append, List.cons_append]
  gi_wp2
  gi_loopw [8] (fun e wr => ∃ i : Nat, i ≤ N ∧ e = .int .i64 (i : Int) ∧ Hid (Rl95 bx C W (J W.heap.size) (chL bs K N i) wr)) (fun e _ => N - (intOf e).toNat)
  case atStart => exact ⟨0, Nat.zero_le _, rfl, HR0.out⟩
  case round =>
    obtain ⟨i, hi, rfl, HR⟩ := hrel
    obtain ⟨wo, rfl⟩ : ∃ wo : World, wo = wr := ⟨_, rfl⟩
    by_cases hlt : i < N
    · gi_wp2
      gi_loopw [4] (fun e wr => ∃ h : Nat, i + 1 + h ≤ N ∧ e = .int .i64 ((i + 1 + h : Nat) : Int) ∧ Hid (Rl95 bx C W (J W.heap.size) (chL bs K N i ++ chQ bs K i h) wr)) (fun e _ => N - (intOf e).toNat)
      case atStart => exact ⟨0, by omega, by go_num, by have h := HR.out; rw [show chQ bs K i 0 = [] from rfl, List.append_nil]; exact h⟩
      case round =>
        obtain ⟨h, hh, rfl, HR2⟩ := hrel
        obtain ⟨w2, rfl⟩ : ∃ w2 : World, w2 = wr := ⟨_, rfl⟩
        have c0 := HR2.out.2.1.cell HC0.out
        have c1 := HR2.out.2.1.cell HC1.out
        obtain ⟨j, hj⟩ : ∃ j, j = i + 1 + h := ⟨_, rfl⟩
        rw [← hj] at hh ⊢
        have HJJ := hidd hj
        by_cases hlt2 : j < N
        · clear hj
          have hj17 : (j : Int) ≤ 17 := by omega
          gi_wp2
          gi_loopw [21] (fun e wr => ∃ c : Nat, c ≤ K ∧ e = .int .i64 (c : Int) ∧ Hid (Rl95 bx C W (J W.heap.size) (chL bs K N i ++ chQ bs K i h ++ chR bs i j c) wr)) (fun e _ => K - (intOf e).toNat)
          case atStart => exact ⟨0, Nat.zero_le _, rfl, by have h := HR2.out; rw [show chR bs i j 0 = [] from rfl, List.append_nil]; exact h⟩
          case round =>
            obtain ⟨c, hc, rfl, HR3⟩ := hrel
            obtain ⟨w3, rfl⟩ : ∃ w3 : World, w3 = wr := ⟨_, rfl⟩
            by_cases hlt3 : c < K
            · have HA := hidd (HAT.out i j (by have := HJJ.out; omega) hlt2 w3)
              cases hq : ((c : Int) != colAt bs (i : Int) (j : Int)) with
              | false =>
                have hce : (c : Int) = colAt bs (i : Int) (j : Int) := by simpa using hq
                have HE := hidd (show chR bs i j (c + 1) = chR bs i j c from by rw [chR_step, if_pos hce, List.append_nil])
                clear hce
                gi_wp2_with (refine inLoadRow rfl 28 (.tmp 1) rfl bx rfl 28 _ _ HR3.out.2.1 Tryd.underlying28 rfl HS.out ?_)
                refine ⟨trivial, (callsIn_wide.2 HA.out).mono ?_⟩
                rintro e w4 ⟨rfl, hb4⟩
                have K4 := hidd (show Rl95 bx C W (J W.heap.size) (chL bs K N i ++ chQ bs K i h ++ chR bs i j (c + 1)) w4 from by rw [HE.out]; exact HR3.out.below HJ.out hb4)
                clear hb4
                gi_wp2_with fail
                first
                  | (refine ⟨(fun f h => by cases h), ?_⟩; gi_wp2_with fail)
                  | skip
                go_roundw
                case rel => exact ⟨c + 1, by omega, by go_num, K4.out⟩
                case measure => simp [intOf]; omega
              | true =>
                have hce : (c : Int) ≠ colAt bs (i : Int) (j : Int) := by simpa using hq
                obtain ⟨r, hr⟩ := HCH.out i h c hlt (by rw [← HJJ.out]; exact hlt2) hlt3 (by rw [← HJJ.out]; exact hce)
                rw [← HJJ.out] at hr
                have HE := hidd (show chR bs i j (c + 1) = chR bs i j c ++ [(i, j, c)] from by rw [chR_step, if_neg hce])
                have HRL := hidd hr
                clear hce hr
                gi_wp2_with (refine inLoadRow rfl 28 (.tmp 1) rfl bx rfl 28 _ _ HR3.out.2.1 Tryd.underlying28 rfl HS.out ?_)
                refine ⟨trivial, (callsIn_wide.2 HA.out).mono ?_⟩
                rintro e w4 ⟨rfl, hb4⟩
                have K4 := hidd (HR3.out.below HJ.out hb4)
                clear hb4
                obtain ⟨fn, tmps, assign, body, hy, hRn⟩ := HY.out W.heap.size _ (i, j, c) r _ w4 (Nat.le_refl _) K4.out.2.2 HRL.out K4.out.1 rfl
                have HRR := hidd hRn
                clear hRn
                gi_wp2_with fail
                refine HRR.out.mono ?_
                rintro e W3 ⟨hk3, ⟨rfl, hJ3⟩ | ⟨rfl, hx3⟩⟩
                · have K5 := hidd (show Rl95 bx C W (J W.heap.size) (chL bs K N i ++ chQ bs K i h ++ chR bs i j (c + 1)) W3 from
                    ⟨by rw [HE.out, ← List.append_assoc]; exact hJ3, (hk3.2 _ K4.out.2.1.lt (.inr (by simp))).trans K4.out.2.1, Nat.le_trans K4.out.2.2 hk3.1⟩)
                  clear hJ3 hk3
                  gi_wp2_with fail
                  go_roundw
                  case rel => exact ⟨c + 1, by omega, by go_num, K5.out⟩
                  case measure => simp [intOf]; omega
                · have X3 := hidd hx3
                  have HSZ := hidd (Nat.le_trans K4.out.2.2 hk3.1)
                  clear hx3 hk3
                  gi_wp2_with fail
                  refine bodyPost_ret (results_none rfl _ _ _) rfl ?_
                  exact ⟨⟨_, rfl⟩, W.heap.size, Nat.le_refl _, HSZ.out, .inr ⟨_, _, _, HRL.out, X3.out⟩⟩
            · have hck : c = K := by omega
              subst hck
              gi_wp2_with fail
              go_roundw
              case rel => exact ⟨h + 1, by have := HJJ.out; omega, by have := HJJ.out; simp; omega, by have h3 := HR3.out; rw [chQ_step, ← HJJ.out, ← List.append_assoc]; exact h3⟩
              case measure => simp [intOf]; omega
        · have hjN : j = N := by omega
          have hhN : h = N - (i + 1) := by omega
          clear hj
          subst hjN
          gi_wp2_with fail
          go_roundw
          case rel => exact ⟨i + 1, by omega, by go_num, by have h3 := HR2.out; rw [chL_step, ← hhN]; exact h3⟩
          case measure => simp [intOf]; omega
    · have hiN : i = N := by omega
      subst hiN
      gi_wp2_with fail
      go_end0
      exact ⟨⟨_, rfl⟩, W.heap.size, Nat.le_refl _, HR.out.2.2, .inl (by rw [HALL.out]; exact HR.out.1)⟩
end Go.Proofs.YtckffliiidgilaaDoor
