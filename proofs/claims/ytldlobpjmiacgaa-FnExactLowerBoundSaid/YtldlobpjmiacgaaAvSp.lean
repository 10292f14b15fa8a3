/- AvoidsSizes: its model. -/
import Derived.Test.YtldlobpjmiacgaaGoList
namespace Go.Proofs.Ytldlobpjmiacgaa
set_option linter.unusedVariables false
set_option linter.unusedSimpArgs false
open Go Go.RowKit Go.Shelf
theorem cell_below {w w' : World} {p : Addr} {v : Value} (h : w.cell? p = some v) (hb : Below w.heap.size w w') : w'.cell? p = some v := by
  rw [World.cell?_of_block (hb.block _ (World.block_lt_of_cell? w p h))]; exact h
def szP (zs : List Int) (d : Nat) : Bool := (List.range d).all fun j => inB (zs.getD j 0) 1 17
theorem szP_step (zs : List Int) (d : Nat) : szP zs (d + 1) = (szP zs d && inB (zs.getD d 0) 1 17) := by simp [szP, List.range_succ]
theorem szP_get {zs : List Int} {d j : Nat} (h : szP zs d = true) (hj : j < d) : inB (zs.getD j 0) 1 17 = true := List.all_eq_true.1 h j (List.mem_range.2 hj)
theorem szP_fall {zs : List Int} {d m : Nat} (h : inB (zs.getD d 0) 1 17 = false) (hm : d < m) : szP zs m = false := by
  unfold szP
  rw [List.all_eq_false]
  exact ⟨d, List.mem_range.2 hm, by rw [h]; simp⟩
def szOk (k : Int) (zs : List Int) : Bool := decide ((zs.length : Int) = k) && szP zs zs.length
def szCode (n k : Int) (bs : List Nat) (zs : List Int) : Int := if isCol n k bs then (if szOk k zs then 0 else 2) else 1
theorem szCode_1 {n k : Int} {bs : List Nat} {zs : List Int} (h : isCol n k bs = false) : szCode n k bs zs = 1 := by simp [szCode, h]
theorem szCode_2 {n k : Int} {bs : List Nat} {zs : List Int} (h : isCol n k bs = true) (h2 : szOk k zs = false) : szCode n k bs zs = 2 := by simp [szCode, h, h2]
theorem szCode_0 {n k : Int} {bs : List Nat} {zs : List Int} (h : isCol n k bs = true) (h2 : szOk k zs = true) : szCode n k bs zs = 0 := by simp [szCode, h, h2]
/-- Is there no clique of the size of one of the first d colours? -/
def avP (N : Nat) (bs : List Nat) (zs : List Int) (d : Nat) : Bool := (List.range d).all fun c => (clqL bs (c : Int) N (zs.getD c 0).toNat).isEmpty
theorem avP_step (N : Nat) (bs : List Nat) (zs : List Int) (d : Nat) : avP N bs zs (d + 1) = (avP N bs zs d && (clqL bs (d : Int) N (zs.getD d 0).toNat).isEmpty) := by simp [avP, List.range_succ]
theorem avP_fall {N : Nat} {bs : List Nat} {zs : List Int} {d m : Nat} (h : (clqL bs (d : Int) N (zs.getD d 0).toNat).isEmpty = false) (hm : d < m) : avP N bs zs m = false := by
  unfold avP
  rw [List.all_eq_false]
  exact ⟨d, List.mem_range.2 hm, by rw [h]; simp⟩
def avB (n k : Int) (bs : List Nat) (zs : List Int) : Bool := decide (szCode n k bs zs = 0) && avP n.toNat bs zs k.toNat
set_option maxRecDepth 100000 in
set_option maxHeartbeats 2000000 in
theorem sizes28 (n k : Int) (bs : List Nat) (hb : Bys bs) (zs : List Int) (a : Option Addr) (cap : Nat) (w : World) (hs : SlI w a zs) (hl : zs.length ≤ 1048576) :
    Calls Try.prog 9 #[.agg (ccells n k bs).toArray, .slice a zs.length cap] w fun e w' => e = .returned (.int .i64 (szCode n k bs zs)) ∧ Below w.heap.size w w' := by
  have HS := hidd (size_c26 n k hb)
  have HC1 := hidd (show (ccells n k bs).toArray[1]? = some (.int .i64 k) from rfl)
  have HSL := hidd hs
  cases hi : isCol n k bs with
  | false =>
    have HI := hidd hi
    rw [szCode_1 hi]
    clear hi hs
    go_enter Try.func9, Try.ntmps9
    go_wp2_with (refine wpList_load_row rfl 28 (.tmp 2) rfl w.heap.size rfl 28 _ (0,0) _ (Blk.new _ _ _ _ rfl) Try.underlying28 rfl HS.out ?_)
    refine (l01Is_any n k bs hb _).mono ?_
    rintro e w1 ⟨rfl, hb1⟩
    rw [HI.out]
    have G := hidd (((Below.refl w.heap.size w).alloc (Nat.le_refl _) (.cells (ccells n k bs).toArray 28)).trans (hb1.mono (by simp)))
    clear hb1
    go_wp2_with fail
    go_ret
    exact ⟨rfl, G.out⟩
  | true =>
    obtain ⟨n1, n2, k1, k2⟩ := isCol_bd hi
    have HI := hidd hi
    cases hlk : decide ((zs.length : Int) = k) with
    | false =>
      have hne : ((zs.length : Int) != k) = true := by rw [bne_iff_ne]; exact of_decide_eq_false hlk
      rw [szCode_2 hi (by unfold szOk; rw [hlk]; rfl)]
      clear hi hlk hs
      go_enter Try.func9, Try.ntmps9
      go_wp2_with (refine wpList_load_row rfl 28 (.tmp 2) rfl w.heap.size rfl 28 _ (0,0) _ (Blk.new _ _ _ _ rfl) Try.underlying28 rfl HS.out ?_)
      refine (l01Is_any n k bs hb _).mono ?_
      rintro e w1 ⟨rfl, hb1⟩
      rw [HI.out]
      have c1 := ((Blk.new w (ccells n k bs).toArray 28 _ rfl).below hb1 (by simp)).cell HC1.out
      have G := hidd (((Below.refl w.heap.size w).alloc (Nat.le_refl _) (.cells (ccells n k bs).toArray 28)).trans (hb1.mono (by simp)))
      clear hb1
      go_wp2_with fail
      go_ret
      exact ⟨rfl, G.out⟩
    | true =>
      have hne : ((zs.length : Int) != k) = false := by rw [bne_eq_false_iff_eq]; exact of_decide_eq_true hlk
      have hsz : szCode n k bs zs = if szP zs zs.length then 0 else 2 := by unfold szCode szOk; rw [hi, hlk, if_pos rfl, Bool.true_and]
      obtain ⟨cd, hcd⟩ : ∃ cd, cd = szCode n k bs zs := ⟨_, rfl⟩
      rw [← hcd]
      rw [hsz] at hcd
      have HCD := hidd hcd
      clear hi hlk hs hsz hcd
      go_enter Try.func9, Try.ntmps9
      go_wp2_with (refine wpList_load_row rfl 28 (.tmp 2) rfl w.heap.size rfl 28 _ (0,0) _ (Blk.new _ _ _ _ rfl) Try.underlying28 rfl HS.out ?_)
      refine (l01Is_any n k bs hb _).mono ?_
      rintro e w1 ⟨rfl, hb1⟩
      rw [HI.out]
      have c1 := ((Blk.new w (ccells n k bs).toArray 28 _ rfl).below hb1 (by simp)).cell HC1.out
      have G := hidd (((Below.refl w.heap.size w).alloc (Nat.le_refl _) (.cells (ccells n k bs).toArray 28)).trans (hb1.mono (by simp)))
      clear hb1
      go_wp2_with fail
      go_loopw [5] (fun e wr => ∃ j : Nat, j ≤ zs.length ∧ e = .int .i64 (j : Int) ∧ Hid (szP zs j = true ∧ Below w.heap.size w wr)) (fun e _ => zs.length - (intOf e).toNat)
      case atStart => exact ⟨0, Nat.zero_le _, rfl, rfl, G.out⟩
      case round =>
        obtain ⟨j, hj, rfl, HK⟩ := hrel
        by_cases hlt : j < zs.length
        · have hltI : decide ((j : Int) < (zs.length : Int)) = true := by simp; omega
          rcases HSL.out with hz | ⟨bl, off, ha, hc⟩
          · rw [hz] at hlt; simp at hlt
          · subst ha
            have cj := cell_below (hc j hlt) HK.out.2
            obtain ⟨z, hzz⟩ : ∃ z, z = zs.getD j 0 := ⟨_, rfl⟩
            rw [← hzz] at cj
            have hst := szP_step zs j
            rw [HK.out.1, Bool.true_and, ← hzz] at hst
            cases hin : inB z 1 17 with
            | true =>
              have HST := hidd (hst.trans hin)
              have HIN := hidd hin
              clear hc hst hin hzz
              go_wp2_with (go_at_call 14; refine (in49 _ _ _ _).mono ?_; rintro e w' ⟨rfl, rfl⟩; rw [HIN.out])
              go_roundw
              case rel => exact ⟨j + 1, by omega, by go_num, HST.out, HK.out.2⟩
              case measure => simp [intOf]; omega
            | false =>
              have HST := hidd (szP_fall (zs := zs) (d := j) (by rw [← hzz]; exact hin) hlt)
              have HIN := hidd hin
              clear hc hst hin hzz
              go_wp2_with (go_at_call 14; refine (in49 _ _ _ _).mono ?_; rintro e w' ⟨rfl, rfl⟩; rw [HIN.out])
              go_ret
              exact ⟨by rw [HCD.out, HST.out]; rfl, HK.out.2⟩
        · have hltI : decide ((j : Int) < (zs.length : Int)) = false := by simp; omega
          have hje : j = zs.length := by omega
          have HP := hidd (show szP zs zs.length = true by rw [← hje]; exact HK.out.1)
          clear hje
          go_wp2_with fail
          go_ret
          exact ⟨by rw [HCD.out, HP.out]; rfl, HK.out.2⟩
set_option maxRecDepth 100000 in
set_option maxHeartbeats 4000000 in
theorem avoids29 (N K : Nat) (bs : List Nat) (hb : Bys bs) (zs : List Int) (a : Option Addr) (cap : Nat) (w : World) (hs : SlI w a zs) (hl : zs.length = K) (n1 : 1 ≤ N) (hN17 : N ≤ 17) (hK : K ≤ 4) (hsz : szP zs K = true) :
    Calls Try.prog 10 #[.agg (ccells (N : Int) (K : Int) bs).toArray, .slice a K cap] w fun e w' => e = .returned (.bool (avP N bs zs K)) ∧ Below w.heap.size w w' := by
  have HS := hidd (size_c26 (N : Int) (K : Int) hb)
  have HC1 := hidd (show (ccells (N : Int) (K : Int) bs).toArray[1]? = some (.int .i64 (K : Int)) from rfl)
  have HSL := hidd hs
  have HLZ := hidd hl
  have HSZ := hidd hsz
  clear hs hl hsz
  go_enter Try.func10, Try.ntmps10
  go_wp2_with fail
  go_loopw [5] (fun e wr => ∃ d : Nat, d ≤ K ∧ e = .int .i64 (d : Int) ∧ Hid (avP N bs zs d = true ∧ Blk wr w.heap.size (ccells (N : Int) (K : Int) bs).toArray 28 ∧ Below w.heap.size w wr)) (fun e _ => K - (intOf e).toNat)
  case atStart => exact ⟨0, Nat.zero_le _, rfl, rfl, Blk.new _ _ _ _ rfl, (Below.refl _ _).alloc (Nat.le_refl _) _⟩
  case round =>
    obtain ⟨d, hd, rfl, HK⟩ := hrel
    have c1 := HK.out.2.1.cell HC1.out
    by_cases hlt : d < K
    · have hin := inB_bd (szP_get HSZ.out hlt)
      obtain ⟨m, hm⟩ := Int.eq_ofNat_of_zero_le (show 0 ≤ zs.getD d 0 by omega)
      have hm17 : m ≤ 17 := by omega
      rcases HSL.out with hz | ⟨bl, off, ha, hc⟩
      · have := HLZ.out; rw [hz] at this; simp at this; omega
      · subst ha
        have hcd := hc d (by have := HLZ.out; omega)
        rw [hm] at hcd
        have cj := cell_below hcd HK.out.2.2
        have hst := avP_step N bs zs d
        have hfa := avP_fall (N := N) (bs := bs) (zs := zs) (d := d) (m := K)
        rw [hm, Int.toNat_natCast] at hst hfa
        rw [HK.out.1, Bool.true_and] at hst
        have HLI := hidd (fun W => list45 N (K : Int) bs hb (d : Int) m 1 n1 hN17 (by omega) (by omega) (by omega) W)
        obtain ⟨X, hX⟩ : ∃ X, X = clqL bs (d : Int) N m := ⟨_, rfl⟩
        rw [← hX] at HLI hst hfa
        have hlen : (X.take 1).length = if X.isEmpty then 0 else 1 := by cases X <;> simp
        have HCB := hidd (fun W (h : Blk W w.heap.size (ccells (N : Int) (K : Int) bs).toArray 28) (h2 : W.cell? ⟨bl, off + d, none⟩ = some (.int .i64 (m : Int))) => (And.intro h h2 : Blk W w.heap.size (ccells (N : Int) (K : Int) bs).toArray 28 ∧ W.cell? ⟨bl, off + d, none⟩ = some (.int .i64 (m : Int))))
        have HRG := hidd (fun W (h : Blk W w.heap.size (ccells (N : Int) (K : Int) bs).toArray 28 ∧ W.cell? ⟨bl, off + d, none⟩ = some (.int .i64 (m : Int))) => h.1.range 0 (ccells (N : Int) (K : Int) bs) (fun j v hj => by simpa using hj))
        have HSZ2 := hidd (show (Try.prog.info? 28).map (·.size) = some (ccells (N : Int) (K : Int) bs).length by rw [HS.out]; simp)
        have HCD := hidd (fun W (h : Below w.heap.size w W) => cell_below hcd h)
        cases hx : X.isEmpty with
        | true =>
          have HST := hidd (hst.trans hx)
          rw [hx, if_pos rfl] at hlen
          rw [hlen] at HLI
          clear hc hcd hst hfa hx hX hm hlen hin
          go_wp2_with fail
          refine wp_region_held_drew (S := (fun W => Blk W w.heap.size (ccells (N : Int) (K : Int) bs).toArray 28 ∧ W.cell? ⟨bl, off + d, none⟩ = some (.int .i64 (m : Int)))) (by kernel_rfl) ?_ (fun hHeld => ?_)
          · exact HCB.out _ HK.out.2.1 cj
          refine wpAnyH_take (i := 0) (oi := _) (v := _) rfl (by kernel_rfl) (by kernel_rfl) (by kernel_rfl) (fun _ _ _ h => h) (yieldsIf_load_mid (by rfl) _ _ rfl _ _ rfl _ _ (HRG.out) Try.underlying28 rfl (HSZ2.out)) (by assumption) ?_
          simp only [List.getElem_toArray, List.getElem_cons_succ, List.getElem_cons_zero, Act.put, List.setIfInBounds_toArray, List.set_cons_zero, List.set_cons_succ]
          refine wpAnyH_take (i := 1) (oi := _) (v := ?_) rfl (by kernel_rfl) (by kernel_rfl) (by kernel_rfl) (fun _ _ _ h => h) (Or.inl ⟨by rfl, ?_⟩) (by assumption) ?_
          rotate_left
          · intro wX hSw; (try dsimp only at hSw); go_simp; first | done | with_reducible rfl
          simp only [List.getElem_toArray, List.getElem_cons_succ, List.getElem_cons_zero, Act.put, List.setIfInBounds_toArray, List.set_cons_zero, List.set_cons_succ]
          refine wpAnyH_take (i := 2) (oi := _) (v := ?_) rfl (by kernel_rfl) (by kernel_rfl) (by kernel_rfl) (fun _ _ _ h => h) (Or.inl ⟨by rfl, ?_⟩) (by assumption) ?_
          rotate_left
          · intro wX hSw; (try dsimp only at hSw); go_simp; first | done | with_reducible rfl
          simp only [List.getElem_toArray, List.getElem_cons_succ, List.getElem_cons_zero, Act.put, List.setIfInBounds_toArray, List.set_cons_zero, List.set_cons_succ]
          refine wpAnyH_take (i := 3) (oi := _) (v := ?_) rfl (by kernel_rfl) (by kernel_rfl) (by kernel_rfl) (fun _ _ _ h => h) (Or.inl ⟨by rfl, ?_⟩) (by assumption) ?_
          rotate_left
          · intro wX hSw; (try dsimp only at hSw); go_simp; first | done | with_reducible rfl
          simp only [List.getElem_toArray, List.getElem_cons_succ, List.getElem_cons_zero, Act.put, List.setIfInBounds_toArray, List.set_cons_zero, List.set_cons_succ]
          refine wpAnyH_take (i := 4) (oi := _) (v := ?_) rfl (by kernel_rfl) (by kernel_rfl) (by kernel_rfl) (fun _ _ _ h => h) (Or.inl ⟨by rfl, ?_⟩) (by assumption) ?_
          rotate_left
          · intro wX hSw; (try dsimp only at hSw); go_simp; first | done | with_reducible rfl
          simp only [List.getElem_toArray, List.getElem_cons_succ, List.getElem_cons_zero, Act.put, List.setIfInBounds_toArray, List.set_cons_zero, List.set_cons_succ]
          refine wpAnyH_take (i := 5) (oi := _) (v := ?_) rfl (by kernel_rfl) (by kernel_rfl) (by kernel_rfl) (fun _ _ _ h => h) (Or.inl ⟨by rfl, ?_⟩) (by assumption) ?_
          rotate_left
          · intro wX hSw; (try dsimp only at hSw); go_simp; first | done | with_reducible rfl
          simp only [List.getElem_toArray, List.getElem_cons_succ, List.getElem_cons_zero, Act.put, List.setIfInBounds_toArray, List.set_cons_zero, List.set_cons_succ]
          refine wpAnyH_ready (rs := [6]) (by kernel_rfl) (by simp) (AllReadyH.cons (o := _) rfl (fun KQ hKQ => ?_) AllReadyH.nil)
          go_simp
          go_wp2_with (refine (HLI.out _).mono ?_; rintro e W1 ⟨a1, c1', rfl, hLX, hbY⟩; have hbX : Below w.heap.size w W1 := HK.out.2.2.trans ((((Below.refl wr.heap.size wr).drew).trans hbY).mono HK.out.2.2.size); have hbC : Blk W1 w.heap.size (ccells (N : Int) (K : Int) bs).toArray 28 := HK.out.2.1.below (((Below.refl wr.heap.size wr).drew).trans hbY) HK.out.2.1.lt)
          refine hKQ.out _ _ ?_ (fun hNext => ?_)
          · exact HCB.out _ hbC (HCD.out _ hbX)
          clear hKQ KQ hHeld
          have hHeld := hNext
          clear hNext
          have K1 := hidd (And.intro hbC hbX)
          clear hbC hbX hbY hLX
          refine wpAnyH_ready (rs := [7]) (by kernel_rfl) (by simp) (AllReadyH.cons (o := _) rfl (fun KQ hKQ => ?_) AllReadyH.nil)
          go_simp
          refine hKQ.out _ _ ?_ (fun hNext => ?_)
          · exact hHeld
          clear hKQ KQ hHeld
          have hHeld := hNext
          clear hNext
          refine wpAnyH_ready (rs := [8]) (by kernel_rfl) (by simp) (AllReadyH.cons (o := _) rfl (fun KQ hKQ => ?_) AllReadyH.nil)
          go_simp
          refine hKQ.out _ _ ?_ (fun hNext => ?_)
          · exact hHeld
          clear hKQ KQ hHeld
          have hHeld := hNext
          clear hNext
          refine wpAnyH_done (by kernel_rfl) ?_ _
          clear hHeld cj
          go_wp2_with fail
          go_roundw
          case rel => exact ⟨d + 1, by omega, by go_num, HST.out, K1.out⟩
          case measure => simp [intOf]; omega
        | false =>
          have HFA := hidd (hfa hx hlt)
          rw [hx, if_neg (by simp)] at hlen
          rw [hlen] at HLI
          clear hc hcd hst hfa hx hX hm hlen hin
          go_wp2_with fail
          refine wp_region_held_drew (S := (fun W => Blk W w.heap.size (ccells (N : Int) (K : Int) bs).toArray 28 ∧ W.cell? ⟨bl, off + d, none⟩ = some (.int .i64 (m : Int)))) (by kernel_rfl) ?_ (fun hHeld => ?_)
          · exact HCB.out _ HK.out.2.1 cj
          refine wpAnyH_take (i := 0) (oi := _) (v := _) rfl (by kernel_rfl) (by kernel_rfl) (by kernel_rfl) (fun _ _ _ h => h) (yieldsIf_load_mid (by rfl) _ _ rfl _ _ rfl _ _ (HRG.out) Try.underlying28 rfl (HSZ2.out)) (by assumption) ?_
          simp only [List.getElem_toArray, List.getElem_cons_succ, List.getElem_cons_zero, Act.put, List.setIfInBounds_toArray, List.set_cons_zero, List.set_cons_succ]
          refine wpAnyH_take (i := 1) (oi := _) (v := ?_) rfl (by kernel_rfl) (by kernel_rfl) (by kernel_rfl) (fun _ _ _ h => h) (Or.inl ⟨by rfl, ?_⟩) (by assumption) ?_
          rotate_left
          · intro wX hSw; (try dsimp only at hSw); go_simp; first | done | with_reducible rfl
          simp only [List.getElem_toArray, List.getElem_cons_succ, List.getElem_cons_zero, Act.put, List.setIfInBounds_toArray, List.set_cons_zero, List.set_cons_succ]
          refine wpAnyH_take (i := 2) (oi := _) (v := ?_) rfl (by kernel_rfl) (by kernel_rfl) (by kernel_rfl) (fun _ _ _ h => h) (Or.inl ⟨by rfl, ?_⟩) (by assumption) ?_
          rotate_left
          · intro wX hSw; (try dsimp only at hSw); go_simp; first | done | with_reducible rfl
          simp only [List.getElem_toArray, List.getElem_cons_succ, List.getElem_cons_zero, Act.put, List.setIfInBounds_toArray, List.set_cons_zero, List.set_cons_succ]
          refine wpAnyH_take (i := 3) (oi := _) (v := ?_) rfl (by kernel_rfl) (by kernel_rfl) (by kernel_rfl) (fun _ _ _ h => h) (Or.inl ⟨by rfl, ?_⟩) (by assumption) ?_
          rotate_left
          · intro wX hSw; (try dsimp only at hSw); go_simp; first | done | with_reducible rfl
          simp only [List.getElem_toArray, List.getElem_cons_succ, List.getElem_cons_zero, Act.put, List.setIfInBounds_toArray, List.set_cons_zero, List.set_cons_succ]
          refine wpAnyH_take (i := 4) (oi := _) (v := ?_) rfl (by kernel_rfl) (by kernel_rfl) (by kernel_rfl) (fun _ _ _ h => h) (Or.inl ⟨by rfl, ?_⟩) (by assumption) ?_
          rotate_left
          · intro wX hSw; (try dsimp only at hSw); go_simp; first | done | with_reducible rfl
          simp only [List.getElem_toArray, List.getElem_cons_succ, List.getElem_cons_zero, Act.put, List.setIfInBounds_toArray, List.set_cons_zero, List.set_cons_succ]
          refine wpAnyH_take (i := 5) (oi := _) (v := ?_) rfl (by kernel_rfl) (by kernel_rfl) (by kernel_rfl) (fun _ _ _ h => h) (Or.inl ⟨by rfl, ?_⟩) (by assumption) ?_
          rotate_left
          · intro wX hSw; (try dsimp only at hSw); go_simp; first | done | with_reducible rfl
          simp only [List.getElem_toArray, List.getElem_cons_succ, List.getElem_cons_zero, Act.put, List.setIfInBounds_toArray, List.set_cons_zero, List.set_cons_succ]
          refine wpAnyH_ready (rs := [6]) (by kernel_rfl) (by simp) (AllReadyH.cons (o := _) rfl (fun KQ hKQ => ?_) AllReadyH.nil)
          go_simp
          go_wp2_with (refine (HLI.out _).mono ?_; rintro e W1 ⟨a1, c1', rfl, hLX, hbY⟩; have hbX : Below w.heap.size w W1 := HK.out.2.2.trans ((((Below.refl wr.heap.size wr).drew).trans hbY).mono HK.out.2.2.size); have hbC : Blk W1 w.heap.size (ccells (N : Int) (K : Int) bs).toArray 28 := HK.out.2.1.below (((Below.refl wr.heap.size wr).drew).trans hbY) HK.out.2.1.lt)
          refine hKQ.out _ _ ?_ (fun hNext => ?_)
          · exact HCB.out _ hbC (HCD.out _ hbX)
          clear hKQ KQ hHeld
          have hHeld := hNext
          clear hNext
          have K1 := hidd (And.intro hbC hbX)
          clear hbC hbX hbY hLX
          refine wpAnyH_ready (rs := [7]) (by kernel_rfl) (by simp) (AllReadyH.cons (o := _) rfl (fun KQ hKQ => ?_) AllReadyH.nil)
          go_simp
          refine hKQ.out _ _ ?_ (fun hNext => ?_)
          · exact hHeld
          clear hKQ KQ hHeld
          have hHeld := hNext
          clear hNext
          refine wpAnyH_ready (rs := [8]) (by kernel_rfl) (by simp) (AllReadyH.cons (o := _) rfl (fun KQ hKQ => ?_) AllReadyH.nil)
          go_simp
          refine hKQ.out _ _ ?_ (fun hNext => ?_)
          · exact hHeld
          clear hKQ KQ hHeld
          have hHeld := hNext
          clear hNext
          refine wpAnyH_done (by kernel_rfl) ?_ _
          clear hHeld cj
          go_wp2_with fail
          go_ret
          exact ⟨by rw [HFA.out]; rfl, K1.out.2⟩
    · have hde : d = K := by omega
      have HP := hidd (show avP N bs zs K = true by rw [← hde]; exact HK.out.1)
      have hltI : decide ((d : Int) < (K : Int)) = false := by simp; omega
      clear hde
      go_wp2_with fail
      go_ret
      exact ⟨by rw [HP.out]; rfl, HK.out.2.2⟩
end Go.Proofs.Ytldlobpjmiacgaa

