/- l05Degrees: the walk. -/
import Derived.Test.YtckffliiidgilaaDoorDgr
namespace Go.Proofs.YtckffliiidgilaaDoor
set_option linter.unusedVariables false
set_option linter.unusedSimpArgs false
open Go Go.RowKit Go.Shelf
theorem opRow {P : Program} {o : Oper} {a : Act} {w : World} {next : Act → World → Prop} {Q : Exit → Act → World → Prop} (ty : TypeId) (x : Operand) (ho : o.op = .load ty x)
    (g : Nat) (hx : a.eval x = .pointer (some ⟨g, 0, none⟩)) (t : TypeId) (cs : Array Value) (d : TypeDesc) (hg : Blk w g cs t)
    (hu : P.underlying ty = some d) (hd : (match d with | .struct _ | .array _ _ => true | _ => false) = true) (hi : (P.info? ty).map (·.size) = some cs.size) (h : next (a.put o.dst (.agg cs)) w) : o.wp P a w next Q := by
  unfold Oper.wp execOp
  simp only [ho, hx, Instr.loadAt, Instr.sureAddr, Sem.run_bind, Sem.run_pure, Result.andThen_ok, run_loadVar_row w g t ty cs (0, 0) d hg hu hd hi]
  exact h
set_option maxRecDepth 100000 in
set_option maxHeartbeats 4000000 in
theorem deg52 (N K : Nat) (bs : List Nat) (hb : Bys bs) (zs : List Int) (a : Option Addr) (cap : Nat) (hl : zs.length = K) (n1 : 1 ≤ N) (hN12 : N ≤ 12) (hK1 : 1 ≤ K) (hK : K ≤ 4) (h2 : no1 zs K) (hsz : szP zs K = true) (w : World) (hs : SlI w a zs) :
    Calls Tryd.prog 52 #[.agg (ccells (N : Int) (K : Int) bs).toArray, .slice a K cap] w fun r w' => ∃ g : Nat, r = .returned (.slice (some ⟨g, 0, none⟩) (N + 1) (N + 1)) ∧ w.heap.size ≤ g ∧ Blk w' g (icells (cdL bs N K zs)).toArray 2 ∧ Below w.heap.size w w' := by
  rcases hs with hz | ⟨bl, off, rfl, hc⟩
  · rw [hz] at hl; simp at hl; omega
  have hblw : bl < w.heap.size := by have := World.block_lt_of_cell? w _ (hc 0 (by omega)); exact this
  have HC := hidd (fun W (h : Below w.heap.size w W) j (hj : j < K) => (show W.cell? ⟨bl, off + j, none⟩ = some (.int .i64 (zs.getD j 0)) from cell_below (hc j (by omega)) h))
  have hcd : (fun d => 0 + dcn (okx bs N zs) K N (fnd d) N (fun _ => 0)) = fun d => pdN bs N K zs d (2 ^ N) := by funext d; rw [Nat.zero_add]; exact cd_pd (by omega) hK1 h2 d
  have hbd : ∀ d, 0 + dcn (okx bs N zs) K N (fnd d) N (fun _ => 0) + 1 ≤ 4611686018427387904 := fun d => by
    have h1 := congrFun hcd d
    have h3 : (2 : Nat) ^ N ≤ 2 ^ 12 := Nat.pow_le_pow_right (by decide) hN12
    have h4 := pd_bd (bs := bs) (zs := zs) hN12 hK1 hK d (j := 2 ^ N) (by omega)
    rw [h1]
    omega
  have HLC := hidd (fun (gc gs cs : Nat) W (hL : Lc bs N K zs bl off gs gc (fun _ => 0) (fun _ => 0) W) => lcn82 N K bs hb zs bl off cap gc n1 hN12 hK1 hK h2 hsz N (Nat.le_refl _) (fun _ => 0) (fun _ => 0) gs cs W hL (fun _ _ => Nat.two_pow_pos _) hbd)
  unfold LcPost at HLC
  rw [hcd, show dgL (N + 1) (fun d => pdN bs N K zs d (2 ^ N)) = cdL bs N K zs from rfl, Nat.sub_self] at HLC
  obtain ⟨R, hR⟩ : ∃ R, R = (icells (cdL bs N K zs)).toArray := ⟨_, rfl⟩
  rw [← hR] at HLC ⊢
  have HS := hidd (size_c26 (N : Int) (K : Int) hb)
  have HN1 := hidd h2
  have hmk := make29 (N + 1) (by omega)
  rw [show ((N + 1 : Nat) : Int) = (N : Int) + 1 by omega] at hmk
  have hmk2 := make29 K (by omega)
  have hNw : IntKind.i64.wrap ((N : Int) + 1) = (N : Int) + 1 := IntWalk.i64_in _ (by omega)
  have hNw2 : wrap64 ((N : Int) + 1) = (N : Int) + 1 := IntWalk.wrap64_in _ ⟨by omega, by omega⟩
  obtain ⟨C, hC⟩ : ∃ C, C = (ccells (N : Int) (K : Int) bs).toArray := ⟨_, rfl⟩
  have hC0 : C[0]? = some (.int .i64 (N : Int)) := by rw [hC]; rfl
  have HC1 := hidd (show C[1]? = some (.int .i64 (K : Int)) by rw [hC]; rfl)
  rw [← hC] at HLC HS ⊢
  have HB := Blk.new w C 28 _ rfl
  have c0 := HB.cell hC0
  obtain ⟨W2, hW2⟩ : ∃ W2, W2 = (w.alloc (.cells C 28)).alloc (.cells (zrow (N + 1)) 2) := ⟨_, rfl⟩
  have G := hidd (show Blk W2 w.heap.size C 28 ∧ Blk W2 (w.heap.size + 1) (icells (dgL (N + 1) fun _ => 0)).toArray 2 ∧ Below w.heap.size w W2 from by
    rw [hW2]; exact ⟨HB.alloc _, by rw [← zrow_dg]; exact Blk.new _ _ _ _ (by simp), ((Below.refl _ _).alloc (Nat.le_refl _) _).alloc (by simp) _⟩)
  clear hC HB hcd hbd h2 hsz hb hR hC0 hc hl
  go_enter Tryd.func52, Tryd.ntmps52
  go_upto_region 2 with fail
  rw [← hW2]
  clear hW2 hNw hNw2 c0 hmk
  go_wp2_with fail
  go_loopw [6] (fun e wr => ∃ d : Nat, d ≤ K ∧ e = .int .i64 (d : Int) ∧ W2 = wr) (fun e _ => K - (intOf e).toNat)
  case atStart => exact ⟨0, Nat.zero_le _, rfl, rfl⟩
  case round =>
  obtain ⟨d, hd, rfl, hww⟩ := hrel
  obtain rfl : W2 = wr := hww
  by_cases hlt : d < K
  · have hltI : decide ((d : Int) < (K : Int)) = true := by simp; omega
    have cz := HC.out W2 G.out.2.2 d hlt
    obtain ⟨z, hz⟩ : ∃ z, z = zs.getD d 0 := ⟨_, rfl⟩
    have hne : (z == 1) = false := by rw [beq_eq_false_iff_ne, hz]; have := HN1.out d hlt; omega
    rw [← hz] at cz
    clear hz
    go_wp2_with fail
    go_roundw
    case rel => exact ⟨d + 1, by omega, by go_num, trivial⟩
    case measure => simp [intOf]; omega
  · have hltI : decide ((d : Int) < (K : Int)) = false := by simp; omega
    have c1 := G.out.1.cell HC1.out
    go_wp2_with fail
    refine wp_region_inv 7 rfl (DgI (fun V => { tmps := #[.agg C, .slice (some ⟨bl, off, none⟩) K cap, .pointer (some ⟨w.heap.size, 0, none⟩), undef, u4, .slice (some ⟨w.heap.size + 1, 0, none⟩) (N + 1) (N + 1), .int .i64 (d : Int), .pointer (some ⟨w.heap.size, 0, none⟩), .int .i64 (N : Int), .int .i64 ((N : Int) + 1), .slice (some ⟨w.heap.size + 1, 0, none⟩) (N + 1) (N + 1), .int .i64 (d : Int), .slice (some ⟨bl, off, none⟩) K cap, .int .i64 (K : Int), .bool false, u15, u16, u17, u18, u19, u20, u21, u22, V 0, V 1, V 2, V 3, V 4, V 5, V 6, undef], defers := [] }) (.agg C) (some ⟨bl, off, none⟩) K cap N w.heap.size (w.heap.size + 1) W2 (fun w' => Blk w' (w.heap.size + 1) R 2 ∧ Below w.heap.size w w')) rfl (by kernel_rfl) (fun L a w h => h.1) (DgI.start (fun _ => undef)) ?_ ?_
    · rintro L a w1 i ⟨hs, V, rfl, hF, hB, hT, hD1, hD2⟩ hi hun haf
      have hi7 : i = 0 ∨ i = 1 ∨ i = 2 ∨ i = 3 ∨ i = 4 ∨ i = 5 ∨ i = 6 := by omega
      have HH := hidd (fun (i : Nat) (hi : i < 6) hi4 hi3 (hun : L.getD i true = false) v w' hw hv => DgI.head (Fin := fun w' => Blk w' (w.heap.size + 1) R 2 ∧ Below w.heap.size w w') (A := fun V => { tmps := #[.agg C, .slice (some ⟨bl, off, none⟩) K cap, .pointer (some ⟨w.heap.size, 0, none⟩), undef, u4, .slice (some ⟨w.heap.size + 1, 0, none⟩) (N + 1) (N + 1), .int .i64 (d : Int), .pointer (some ⟨w.heap.size, 0, none⟩), .int .i64 (N : Int), .int .i64 ((N : Int) + 1), .slice (some ⟨w.heap.size + 1, 0, none⟩) (N + 1) (N + 1), .int .i64 (d : Int), .slice (some ⟨bl, off, none⟩) K cap, .int .i64 (K : Int), .bool false, u15, u16, u17, u18, u19, u20, u21, u22, V 0, V 1, V 2, V 3, V 4, V 5, V 6, undef], defers := [] }) hs hF hB hT hD1 hD2 i hi hi4 hi3 hun v (w' := w') hw hv)
      have HB := hidd hB
      have HT := hidd hT
      have HF := hidd hF
      have HD := hidd (And.intro hD1 hD2)
      have HW := hidd (fun (j : Nat) (hj : j < 6) (hun : L.getD j true = false) => (show Below W2.heap.size W2 w1 from by
        refine HB.out ?_
        have hif : L.getD j false = false := by rw [← getD_two (by omega)]; exact hun
        cases h : L.getD 6 false with
        | false => rfl
        | true => rw [(HT.out h).2 j hj] at hif; cases hif))
      clear hi hB hT hF hD1 hD2
      rcases hi7 with rfl | rfl | rfl | rfl | rfl | rfl | rfl
      · clear haf
        refine wpOp_of (o := _) rfl rfl ?_
        refine opRow 28 (.tmp 2) rfl w.heap.size rfl 28 C _ (G.out.1.below (HW.out 0 (by omega) hun) G.out.1.lt) Tryd.underlying28 rfl HS.out ?_
        exact HH.out 0 (by omega) (fun h => absurd h (by decide)) (fun h => absurd h (by decide)) hun _ _ (Below.refl _ _) ⟨fun _ => rfl, fun h => absurd h (by decide), fun h => absurd h (by decide), fun h => absurd h (by decide), fun h => absurd h (by decide), fun h => absurd h (by decide)⟩
      · clear haf
        refine wpOp_of (o := _) rfl rfl ?_
        go_simp
        exact HH.out 1 (by omega) (fun h => absurd h (by decide)) (fun h => absurd h (by decide)) hun _ _ (Below.refl _ _) ⟨fun h => absurd h (by decide), fun _ => rfl, fun h => absurd h (by decide), fun h => absurd h (by decide), fun h => absurd h (by decide), fun h => absurd h (by decide)⟩
      · clear haf
        refine wpOp_of (o := _) rfl rfl ?_
        go_simp
        exact HH.out 2 (by omega) (fun h => absurd h (by decide)) (fun h => absurd h (by decide)) hun _ _ (Below.refl _ _) ⟨fun h => absurd h (by decide), fun h => absurd h (by decide), fun _ => rfl, fun h => absurd h (by decide), fun h => absurd h (by decide), fun h => absurd h (by decide)⟩
      · have ha := haf _ rfl ⟨2, .data⟩ (by simp) rfl
        clear haf
        have e2 := (HF.out 2 (by omega) ha).2.2.1 rfl
        have c1 := (G.out.1.below (HW.out 3 (by omega) hun) G.out.1.lt).cell HC1.out
        refine wpOp_of (o := _) rfl rfl ?_
        simp only [e2]
        go_simp
        have e2 := e2.symm
        simp only [e2]
        exact HH.out 3 (by omega) (fun h => absurd h (by decide)) (fun _ => ha) hun _ _ (Below.refl _ _) ⟨fun h => absurd h (by decide), fun h => absurd h (by decide), fun h => absurd h (by decide), fun _ => rfl, fun h => absurd h (by decide), fun h => absurd h (by decide)⟩
      · have ha := haf _ rfl ⟨3, .data⟩ (by simp) rfl
        clear haf
        have e3 := (HF.out 3 (by omega) ha).2.2.2.1 rfl
        have hB2 := HW.out 4 (by omega) hun
        refine wpOp_of (o := _) rfl rfl ?_
        simp only [e3]
        go_simp
        have hZ : Blk (w1.alloc (.cells (zrow K) 2)) w1.heap.size (icells (dgL K fun _ => 0)).toArray 2 := by rw [← zrow_dg]; exact Blk.new _ _ _ _ rfl
        have h := HH.out 4 (by omega) (fun _ => ha) (fun h => absurd h (by decide)) hun _ _ ((Below.refl w1.heap.size w1).alloc (Nat.le_refl _) (.cells (zrow K) 2)) ⟨fun h => absurd h (by decide), fun h => absurd h (by decide), fun h => absurd h (by decide), fun h => absurd h (by decide), fun _ => ⟨w1.heap.size, rfl, hB2.size, hZ⟩, fun h => absurd h (by decide)⟩
        simpa [updV, e3] using h
      · clear haf
        refine wpOp_of (o := _) rfl rfl ?_
        go_simp
        exact HH.out 5 (by omega) (fun h => absurd h (by decide)) (fun h => absurd h (by decide)) hun _ _ (Below.refl _ _) ⟨fun h => absurd h (by decide), fun h => absurd h (by decide), fun h => absurd h (by decide), fun h => absurd h (by decide), fun h => absurd h (by decide), fun _ => rfl⟩
      · have a0 := haf _ rfl ⟨0, .data⟩ (by simp) rfl
        have a1 := haf _ rfl ⟨1, .data⟩ (by simp) rfl
        have a4 := haf _ rfl ⟨4, .data⟩ (by simp) rfl
        have a5 := haf _ rfl ⟨5, .data⟩ (by simp) rfl
        have a3 := HD.out.1 a4
        have a2 := HD.out.2 a3
        clear haf
        have e0 := (HF.out 0 (by omega) a0).1 rfl
        have e1 := (HF.out 1 (by omega) a1).2.1 rfl
        obtain ⟨g, e4, lg, kg⟩ := (HF.out 4 (by omega) a4).2.2.2.2.1 rfl
        have e5 := (HF.out 5 (by omega) a5).2.2.2.2.2 rfl
        have h6f : L.getD 6 false = false := by rw [← getD_two (by omega)]; exact hun
        have hBw := HB.out h6f
        have hW2 : w.heap.size + 1 < W2.heap.size := G.out.2.1.lt
        have hL : Lc bs N K zs bl off g (w.heap.size + 1) (fun _ => 0) (fun _ => 0) w1 :=
          ⟨fun j hj => HC.out w1 (G.out.2.2.trans (hBw.mono G.out.2.2.size)) j hj, ⟨g, _, rfl, kg, by simp [dgL_len, icells], fun j hj => by
            rw [dgL_len] at hj
            have h1 := icells_get (zs := dgL K fun _ => 0) (j := j) (by rw [dgL_len]; exact hj)
            simpa using h1⟩, G.out.2.1.below hBw G.out.2.1.lt, by omega, by omega⟩
        refine wpOp_of (o := _) rfl rfl ?_
        simp only [e0, e1, e4, e5]
        go_simp
        refine (HLC.out (w.heap.size + 1) g K w1 hL).mono ?_
        rintro e w' ⟨rfl, k1, k2⟩
        have hgg : (some g : Option Nat) ≠ some (w.heap.size + 1) := by intro e; cases e; omega
        have hall : ∀ j, j < 6 → L.getD j false = true := fun j hj => by
          rcases (show j = 0 ∨ j = 1 ∨ j = 2 ∨ j = 3 ∨ j = 4 ∨ j = 5 by omega) with rfl | rfl | rfl | rfl | rfl | rfl
          · exact a0
          · exact a1
          · exact a2
          · exact a3
          · exact a4
          · exact a5
        have hF2 : ∀ j, j < 6 → DgF (.agg C) (some ⟨bl, off, none⟩) K cap N w.heap.size (w.heap.size + 1) W2.heap.size w' j (updV V 6 (.tuple #[]) j) := fun j hj => by
          have h := HF.out j hj (hall j hj)
          simp only [updV]
          rw [if_neg (by omega)]
          exact ⟨h.1, h.2.1, h.2.2.1, h.2.2.2.1, fun e => by obtain ⟨g', h1, h3, h4⟩ := h.2.2.2.2.1 e; exact ⟨g', h1, h3, h4.far k2 (by intro e; cases e; omega)⟩, h.2.2.2.2.2⟩
        have hfin : Blk w' (w.heap.size + 1) R 2 ∧ Below w.heap.size w w' := ⟨k1, Below.ofGrown (G.out.2.2.trans (hBw.mono G.out.2.2.size)) (by have := hBw.size; omega) k2 (by omega)⟩
        refine ⟨by simpa using hs, updV V 6 (.tuple #[]), ?_, fun j hj _ => hF2 j hj, fun h => ?_, fun _ => ⟨hfin, fun j hj => ?_⟩, fun _ => ?_, fun _ => ?_⟩
        · simp [updV, e0, e1, e4, e5]
        · rw [getD_upd (by omega), if_pos rfl] at h; cases h
        · rw [getD_upd (by omega), if_neg (by omega)]; exact hall j hj
        · rw [getD_upd (by omega), if_neg (by omega)]; exact a3
        · rw [getD_upd (by omega), if_neg (by omega)]; exact a2
    · rintro L a w1 ⟨hs, V, rfl, hF, hB, hT, hD1, hD2⟩ hall
      obtain ⟨k1, k2⟩ := (hT (hall 6 (by omega))).1
      have G2 := hidd (And.intro k1 k2)
      clear k1 k2 hF hB hT hall hs hD1 hD2
      go_wp2_with fail
      go_ret
      exact ⟨w.heap.size + 1, rfl, by omega, G2.out.1, G2.out.2⟩
end Go.Proofs.YtckffliiidgilaaDoor
