/- CountTriangles: its model. -/
import Derived.Test.YthohkfdloinlmaaCountIm
import Derived.Test.YthohkfdloinlmaaTriC
import Derived.Deep.RegionHeld2
namespace Go.Proofs.Ythohkfdloinlmaa
set_option linter.unusedVariables false
set_option linter.unusedSimpArgs false
open Go Go.RowKit Go.Shelf
def ctF (bs : List Nat) (N c : Nat) : Nat := cC (rwN bs (c : Int) N) N 3 (2 ^ N - 1)
def ctList (n k : Int) (bs : List Nat) : List Int := if isCol n k bs then dgL k.toNat (ctF bs n.toNat) else []
theorem fillA_get' {f : Nat → Int} {d j : Nat} (h : j < d) : (fillA f d).getD j 0 = f j := by
  induction d with
  | zero => omega
  | succ d ih =>
    rw [fillA_snoc, List.getD_eq_getElem?_getD]
    by_cases e : j = d
    · subst e; rw [List.getElem?_append_right (by rw [fillA_len]; omega), fillA_len]; simp
    · rw [List.getElem?_append_left (by rw [fillA_len]; omega), ← List.getD_eq_getElem?_getD, ih (by omega)]
theorem rows_rws {N : Nat} (hN : N ≤ 17) (bs : List Nat) (c : Int) : Rws N (rwN bs c N) (fillA (rowF N bs c) N) :=
  ⟨fillA_len _ _, fun p hp => by rw [fillA_get' hp]; rfl, fun p hp => Nat.lt_of_lt_of_le (arK_lt _ _) (Nat.pow_le_pow_right (by omega) hN)⟩
def RelCt (N : Nat) (bs : List Nat) (C : Array Value) (w : World) (d : Nat) (v : Value) (wr : World) : Prop :=
  Blk wr w.heap.size C 28 ∧ wr.ownsRow (w.heap.size + 1) 2 1 v (dgL d (ctF bs N)).length (icells (dgL d (ctF bs N))) ∧ Below w.heap.size w wr
theorem ctF_le (bs : List Nat) {N : Nat} (hN : N ≤ 17) (c : Nat) : ctF bs N c ≤ 4913 := by have := cC_le (R := rwN bs (c : Int) N) hN 3 (2 ^ N - 1); unfold ctF; omega
theorem full_int {N : Nat} (hN : N ≤ 17) : wrap64 (2 ^ N) - 1 = ((2 ^ N - 1 : Nat) : Int) := by
  have h2 : 2 ^ N ≤ 2 ^ 17 := Nat.pow_le_pow_right (by omega) hN
  have h3 : 1 ≤ 2 ^ N := Nat.one_le_two_pow
  have e : (2 : Int) ^ N = ((2 ^ N : Nat) : Int) := by simp
  rw [e]
  generalize 2 ^ N = y at *
  rw [IntWalk.wrap64_in _ ⟨by omega, by omega⟩]; omega
theorem load_row {w : World} {b : Nat} {n k : Int} {bs : List Nat} (hb : Bys bs) (h : Blk w b (ccells n k bs).toArray 28) :
    (Instr.loadAt 28 (.pointer (some ⟨b, 0, none⟩))).run Try.prog w = .ok (.agg (ccells n k bs).toArray) w :=
  run_loadAt_mid w b 0 28 (ccells n k bs) _ (h.range 0 _ (fun j v hj => by simpa using hj)) Try.underlying28 rfl (by rw [size_c26 n k hb]; simp)
set_option maxRecDepth 100000 in
set_option maxHeartbeats 4000000 in
theorem spec7t (n k : Int) (bs : List Nat) (hb : Bys bs) (w : World) :
    Calls Try.prog 7 #[.agg (ccells n k bs).toArray] w (LOut w (ctList n k bs) (ceCode n k bs)) := by
  have HS := hidd (size_c26 n k hb)
  cases hi : isCol n k bs with
  | false =>
    have e1 : ctList n k bs = [] := by simp [ctList, hi]
    have e2 : ceCode n k bs = 1 := by simp [ceCode, hi]
    have HI := hidd hi
    rw [e1, e2]
    clear hi e1 e2
    go_enter Try.func7, Try.ntmps7
    go_wp2_with (refine wpList_load_row rfl 28 (.tmp 1) rfl w.heap.size rfl 28 _ (0,0) _ (Blk.new _ _ _ _ rfl) Try.underlying28 rfl HS.out ?_)
    refine (l01Is_any n k bs hb _).mono ?_
    rintro e w1 ⟨rfl, hb1⟩
    rw [HI.out]
    have G := hidd (((Below.refl w.heap.size w).alloc (Nat.le_refl _) (.cells (ccells n k bs).toArray 28)).trans (hb1.mono (by simp)))
    clear hb1
    go_wp2_with fail
    go_ret2
    exact lout_nil rfl G.out
  | true =>
    obtain ⟨n1, n2, k1, k2⟩ := isCol_bd hi
    have e1 : ctList n k bs = dgL k.toNat (ctF bs n.toNat) := by simp [ctList, hi]
    have e2 : ceCode n k bs = 0 := by simp [ceCode, hi]
    rw [e1, e2]
    have HI := hidd hi
    obtain ⟨N, rfl⟩ := Int.eq_ofNat_of_zero_le (show 0 ≤ n by omega)
    obtain ⟨K, rfl⟩ := Int.eq_ofNat_of_zero_le (show 0 ≤ k by omega)
    rw [Int.toNat_natCast, Int.toNat_natCast]
    have HC0 := hidd (show (ccells (N : Int) (K : Int) bs).toArray[0]? = some (.int .i64 (N : Int)) from rfl)
    have HC1 := hidd (show (ccells (N : Int) (K : Int) bs).toArray[1]? = some (.int .i64 (K : Int)) from rfl)
    obtain ⟨t0, hi2, hz0, hz1, hz3⟩ := info_parts info2
    have HIF := hidd (And.intro hi2 (And.intro hz0 (And.intro hz1 hz3)))
    have hN17 : N ≤ 17 := by omega
    have hfull := full_int hN17
    obtain ⟨FU, hFU⟩ : ∃ FU, FU = 2 ^ N - 1 := ⟨_, rfl⟩
    have hFU17 : FU < 2 ^ 17 := by rw [hFU]; have : 2 ^ N ≤ 2 ^ 17 := Nat.pow_le_pow_right (by omega) hN17; have : 1 ≤ 2 ^ N := Nat.one_le_two_pow; omega
    rw [← hFU] at hfull
    have HFU := hidd hFU
    clear hi e1 e2 hi2 hz0 hz1 hz3 hFU
    go_enter Try.func7, Try.ntmps7
    go_wp2_with (refine wpList_load_row rfl 28 (.tmp 1) rfl w.heap.size rfl 28 _ (0,0) _ (Blk.new _ _ _ _ rfl) Try.underlying28 rfl HS.out ?_)
    refine (l01Is_any (N : Int) (K : Int) bs hb _).mono ?_
    rintro e w1 ⟨rfl, hb1⟩
    rw [HI.out]
    have G := hidd (And.intro ((Blk.new w (ccells (N : Int) (K : Int) bs).toArray 28 _ rfl).below hb1 (by simp)) (((Below.refl w.heap.size w).alloc (Nat.le_refl _) (.cells (ccells (N : Int) (K : Int) bs).toArray 28)).trans (hb1.mono (by simp))))
    clear hb1
    go_wp2_with fail
    go_loopw [4, 5] (fun v e wr => ∃ d : Nat, d ≤ K ∧ e = .int .i64 d ∧ RelCt N bs (ccells (N : Int) (K : Int) bs).toArray w d v wr) (fun _ e _ => K - (intOf e).toNat)
    case atStart =>
      have := G.out.1.lt
      refine ⟨0, by omega, rfl, G.out.1.alloc _, ⟨rfl, .inr ⟨w1.heap.size, 0, #[], by simp [dgL], by omega, ?_, ?_, ?_, rfl, rfl⟩⟩, G.out.2.alloc G.out.2.size _⟩
      · exact Blk.new _ _ _ _ rfl
      · simp [dgL]
      · simp [maxLen]
    case round =>
      obtain ⟨d, hd2, rfl, HR⟩ := hrel
      have HK := hidd HR
      clear HR
      have c1 := HK.out.1.cell HC1.out
      by_cases hlt : d < K
      · have HRO := hidd (fun W => rows74 N (K : Int) bs hb (d : Int) (by omega) hN17 W)
        obtain ⟨v1, hv⟩ : ∃ v1, v1 = ctF bs N d := ⟨_, rfl⟩
        have hcc : cC (rwN bs (d : Int) N) N 3 FU = v1 := by rw [hv, HFU.out]; rfl
        have HCO := hidd (show ∀ a cap W, SlI W a (fillA (rowF N bs (d : Int)) N) → Calls Try.prog 22 #[.slice a N cap, .int .i64 (FU : Int), .int .i64 3] W fun e w' => e = .returned (.int .i64 (v1 : Int)) ∧ W = w' from fun a cap W h => by
          have := count22 N hN17 (rwN bs (d : Int) N) _ (rows_rws hN17 bs (d : Int)) a cap 3 (by omega) FU hFU17 W h
          rw [hcc] at this
          exact this)
        have hv17 : v1 ≤ 4913 := by rw [hv]; exact ctF_le bs hN17 d
        have HSN := hidd (dgL_snoc d (ctF bs N))
        rw [← hv] at HSN
        have HCB := hidd (fun W (h : Blk W w.heap.size (ccells (N : Int) (K : Int) bs).toArray 28) => (And.intro h (h.cell HC0.out) : Blk W w.heap.size (ccells (N : Int) (K : Int) bs).toArray 28 ∧ W.cell? ⟨w.heap.size, 0, none⟩ = some (.int .i64 (N : Int))))
        have HRG := hidd (fun W (h : Blk W w.heap.size (ccells (N : Int) (K : Int) bs).toArray 28 ∧ W.cell? ⟨w.heap.size, 0, none⟩ = some (.int .i64 (N : Int))) => h.1.range 0 (ccells (N : Int) (K : Int) bs) (fun j v hj => by simpa using hj))
        have HSZ := hidd (show (Try.prog.info? 28).map (·.size) = some (ccells (N : Int) (K : Int) bs).length by rw [HS.out]; simp)
        have hu : IntKind.u64.wrap (N : Int) = (N : Int) := by unfold IntKind.wrap; simp [IntKind.signed, IntKind.bits]; omega
        have hmn : min N 64 = N := by omega
        obtain ⟨Y, hY⟩ : ∃ Y : Nat, Y = 2 ^ N := ⟨_, rfl⟩
        have hY17 : Y ≤ 2 ^ 17 := by rw [hY]; exact Nat.pow_le_pow_right (by omega) hN17
        have hY1 : 1 ≤ Y := by rw [hY]; exact Nat.one_le_two_pow
        have hsh : IntKind.i64.wrap (2 ^ N) = (Y : Int) := by rw [show (2 : Int) ^ N = ((2 ^ N : Nat) : Int) by simp, ← hY]; exact IntWalk.i64_in _ (by omega)
        have hfu : IntKind.i64.wrap ((Y : Int) - 1) = (FU : Int) := by rw [IntWalk.i64_in _ (by omega), HFU.out, ← hY]; omega
        clear hv hcc hY
        go_wp2_with fail
        refine wp_region_held_drew (S := (fun W => Blk W w.heap.size (ccells (N : Int) (K : Int) bs).toArray 28 ∧ W.cell? ⟨w.heap.size, 0, none⟩ = some (.int .i64 (N : Int)))) (by kernel_rfl) ?_ (fun hHeld => ?_)
        · exact HCB.out _ HK.out.1
        refine wpAnyH_take (i := 0) (oi := _) (v := ?_) rfl (by kernel_rfl) (by kernel_rfl) (by kernel_rfl) (fun _ _ _ h => h) (Or.inl ⟨by rfl, ?_⟩) (by assumption) ?_
        rotate_left
        · intro wX hSw; (try dsimp only at hSw); go_simp; first | done | with_reducible rfl
        simp only [Act.put, List.setIfInBounds_toArray, List.set_cons_zero, List.set_cons_succ]
        refine wpAnyH_take (i := 1) (oi := _) (v := _) rfl (by kernel_rfl) (by kernel_rfl) (by kernel_rfl) (fun _ _ _ h => h) (yieldsIf_load_mid (by rfl) _ _ rfl _ _ rfl _ _ (HRG.out) Try.underlying28 rfl (HSZ.out)) (by assumption) ?_
        simp only [Act.put, List.setIfInBounds_toArray, List.set_cons_zero, List.set_cons_succ]
        refine wpAnyH_take (i := 2) (oi := _) (v := ?_) rfl (by kernel_rfl) (by kernel_rfl) (by kernel_rfl) (fun _ _ _ h => h) (Or.inl ⟨by rfl, ?_⟩) (by assumption) ?_
        rotate_left
        · intro wX hSw; (try dsimp only at hSw); go_simp; first | done | with_reducible rfl
        simp only [Act.put, List.setIfInBounds_toArray, List.set_cons_zero, List.set_cons_succ]
        refine wpAnyH_take (i := 4) (oi := _) (v := ?_) rfl (by kernel_rfl) (by kernel_rfl) (by kernel_rfl) (fun _ _ _ h => h) (Or.inl ⟨by rfl, ?_⟩) (by assumption) ?_
        rotate_left
        · intro wX hSw; (try dsimp only at hSw); go_simp; first | done | with_reducible rfl
        simp only [Act.put, List.setIfInBounds_toArray, List.set_cons_zero, List.set_cons_succ]
        refine wpAnyH_take (i := 5) (oi := _) (v := ?_) rfl (by kernel_rfl) (by kernel_rfl) (by kernel_rfl) (fun _ _ _ h => h) (Or.inl ⟨by rfl, ?_⟩) (by assumption) ?_
        rotate_left
        · intro wX hSw; (try dsimp only at hSw); go_simp; first | done | with_reducible rfl
        simp only [Act.put, List.setIfInBounds_toArray, List.set_cons_zero, List.set_cons_succ]
        refine wpAnyH_take (i := 6) (oi := _) (v := ?_) rfl (by kernel_rfl) (by kernel_rfl) (by kernel_rfl) (fun _ _ _ h => h) (Or.inl ⟨by rfl, ?_⟩) (by assumption) ?_
        rotate_left
        · intro wX hSw; (try dsimp only at hSw); go_simp; first | done | with_reducible rfl
        simp only [Act.put, List.setIfInBounds_toArray, List.set_cons_zero, List.set_cons_succ]
        refine wpAnyH_take (i := 7) (oi := _) (v := ?_) rfl (by kernel_rfl) (by kernel_rfl) (by kernel_rfl) (fun _ _ _ h => h) (Or.inl ⟨by rfl, ?_⟩) (by assumption) ?_
        rotate_left
        · intro wX hSw; (try dsimp only at hSw); go_simp; first | done | with_reducible rfl
        simp only [Act.put, List.setIfInBounds_toArray, List.set_cons_zero, List.set_cons_succ]
        refine wpAnyH_take (i := 8) (oi := _) (v := ?_) rfl (by kernel_rfl) (by kernel_rfl) (by kernel_rfl) (fun _ _ _ h => h) (Or.inl ⟨by rfl, ?_⟩) (by assumption) ?_
        rotate_left
        · intro wX hSw; (try dsimp only at hSw); go_simp; first | done | with_reducible rfl
        simp only [Act.put, List.setIfInBounds_toArray, List.set_cons_zero, List.set_cons_succ]
        refine wpAnyH_ready (rs := [3]) (by kernel_rfl) (by simp) (AllReadyH.cons (o := _) rfl (fun KQ hKQ => ?_) AllReadyH.nil)
        go_simp
        go_wp2_with (go_at_call 23; refine (HRO.out _).mono ?_; rintro e W1 ⟨a, cap, rfl, hoX, hbY⟩; have hbX : Below wr.heap.size wr W1 := ((Below.refl wr.heap.size wr).drew).trans hbY)
        refine hKQ.out _ _ ?_ (fun hNext => ?_)
        · exact HCB.out _ (HK.out.1.below hbX HK.out.1.lt)
        clear hKQ KQ hHeld
        have hHeld := hNext
        clear hNext
        have K1 := hidd (And.intro (HK.out.1.below hbX HK.out.1.lt) (And.intro (own_below HK.out.2.1 hbX (Nat.le_refl _)) (HK.out.2.2.trans (hbX.mono HK.out.2.2.size))))
        have HSL := hidd hoX.sl
        clear hoX hbX hbY
        refine wpAnyH_ready (rs := [9]) (by kernel_rfl) (by simp) (AllReadyH.cons (o := _) rfl (fun KQ hKQ => ?_) AllReadyH.nil)
        go_simp
        go_wp2_with (go_at_call 22; refine (HCO.out _ _ _ HSL.out).mono ?_; rintro e W2 ⟨rfl, rfl⟩)
        refine hKQ.out _ _ ?_ (fun hNext => ?_)
        · exact hHeld
        clear hKQ KQ hHeld
        have hHeld := hNext
        clear hNext
        refine wpAnyH_ready (rs := [10]) (by kernel_rfl) (by simp) (AllReadyH.cons (o := _) rfl (fun KQ hKQ => ?_) AllReadyH.nil)
        go_simp
        refine hKQ.out _ _ ?_ (fun hNext => ?_)
        · exact HCB.out _ (K1.out.1.alloc _)
        clear hKQ KQ hHeld
        have hHeld := hNext
        clear hNext
        have hown := K1.out.2.1
        have hsz := K1.out.2.2.size
        have hlen := dgL_len d (ctF bs N)
        have hszC := K1.out.1.lt
        refine wpAnyH_ready (rs := [11]) (by kernel_rfl) (by simp) (AllReadyH.cons (o := _) rfl (fun KQ hKQ => ?_) AllReadyH.nil)
        rw [if_pos (by rfl)]
        refine wp_append_own _ _ _ 25 rfl (w.heap.size + 1) 2 t0 (.int .i64 0) 1 8 Try.underlying25 HIF.out.1 HIF.out.2.1 HIF.out.2.2.1 HIF.out.2.2.2 rfl (by decide) _ _ _ rfl (hown.alloc _) ⟨W1.heap.size, 0, none⟩ 1 1 [.int .i64 (v1 : Int)] rfl rfl ?c1 ?c2 ?c3 ?c4 ?c5 ?_
        case c1 => exact one_new _ _ _
        case c2 => intro u hu; simp at hu; subst hu; rfl
        case c3 => unfold maxLen; omega
        case c4 => omega
        case c5 => simp; omega
        intro v' w3 hown' hgrow _
        have K3 := hidd (show RelCt N bs (ccells (N : Int) (K : Int) bs).toArray w (d + 1) v' w3 from ⟨K1.out.1.below (grown_step hown hgrow (by omega)) (by omega), by rw [← HSN.out, icells_app, List.length_append, dgL_len]; rw [dgL_len] at hown'; exact hown', K1.out.2.2.trans ((grown_step hown hgrow (by omega)).mono (by omega))⟩)
        clear hown' hgrow hown
        refine hKQ.out _ _ ?_ (fun hNext => ?_)
        · exact HCB.out _ K3.out.1
        clear hKQ KQ hHeld
        have hHeld := hNext
        clear hNext
        simp only [Act.put, List.setIfInBounds_toArray, List.set_cons_zero, List.set_cons_succ]
        refine wpAnyH_ready (rs := [12]) (by kernel_rfl) (by simp) (AllReadyH.cons (o := _) rfl (fun KQ hKQ => ?_) AllReadyH.nil)
        go_simp
        refine hKQ.out _ _ ?_ (fun hNext => ?_)
        · exact hHeld
        clear hKQ KQ hHeld
        have hHeld := hNext
        clear hNext
        refine wpAnyH_done (by kernel_rfl) ?_ _
        clear hHeld
        go_wp2_with fail
        go_roundw
        case rel => exact ⟨d + 1, by omega, by go_num, K3.out⟩
        case measure => simp [intOf]; omega
      · have hde : d = K := by omega
        subst hde
        obtain ⟨a, cap, rfl, ho⟩ := own_list HK.out.2.1
        have K := hidd (And.intro ho HK.out.2.2)
        clear HK ho
        go_wp2_with fail
        go_ret2
        exact ⟨a, cap, rfl, ownL_base K.out.1 (by omega), K.out.2⟩
end Go.Proofs.Ythohkfdloinlmaa
