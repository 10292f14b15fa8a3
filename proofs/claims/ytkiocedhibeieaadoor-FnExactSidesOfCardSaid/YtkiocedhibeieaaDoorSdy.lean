/- SidesOf: the model. -/
import Derived.Test.YtkiocedhibeieaaDoorSdx
namespace Go.Proofs.YtkiocedhibeieaaDoor
set_option linter.unusedVariables false
set_option linter.unusedSimpArgs false
open Go Go.RowKit Go.Shelf
attribute [local go_sem] Oper.semAt_some
/-- The list while it is filled with -1. -/
def oM (i q : Nat) : Int := if q < i then -1 else 0
theorem oM_zero (N : Nat) : (icells (fl N (oM 0))).toArray = zrow N := by
  rw [zrow_icells]
  congr 2
  apply List.ext_getElem
  · simp [fl]
  · intro i h1 h2
    simp [fl, oM]
theorem oM_step (N i : Nat) : (fl N (oM i)).set i (-1) = fl N (oM (i + 1)) := by
  refine fl_set _ _ _ ?_ fun q _ hq => ?_
  · unfold oM; rw [if_pos (by omega)]
  · unfold oM
    have : q < i + 1 ↔ q < i := by omega
    simp only [this]
theorem oM_end {N i : Nat} (h : N ≤ i) : fl N (oM i) = fl N (fun _ => -1) := fl_congr fun q hq => by
  unfold oM; rw [if_pos (by omega)]
theorem zx_one {C : Array Value} {rs : List Int} {N : Nat} {w w1 W1 : World} {ar : Option Addr} (hr : rs.length = N) (hN : 1 ≤ N) (h1 : Blk w1 w.heap.size C 28) (h2 : Below w.heap.size w w1) (hb : Below w1.heap.size w1 W1) (ho : OwnL W1 w1.heap.size ar rs) : ∃ b, ar = some ⟨b, 0, none⟩ ∧ RelZx C b rs W1.heap.size N (oM 0) w (W1.alloc (.cells (zrow N) 2)) := by
  have hl := h1.lt
  have hs := hb.size
  rcases ho with e | ⟨b, C', a1, a2, a3, a4, a5⟩
  · rw [e] at hr; simp at hr; omega
  · have hlt := a3.lt
    have ha : Below W1.heap.size W1 (W1.alloc (.cells (zrow N) 2)) := (Below.refl _ _).alloc (Nat.le_refl _) _
    refine ⟨b, a2, (h1.below hb hl).below ha (by omega), ⟨C', a3.below ha hlt, a5⟩, ?_, (h2.trans (hb.mono h2.size)).trans (ha.mono (by omega)), by omega, by omega, by omega⟩
    rw [oM_zero]
    exact Blk.new _ _ _ _ rfl
theorem zx_two {C : Array Value} {rs : List Int} {N : Nat} {w w1 W1 : World} {ar : Option Addr} (hr : rs.length = N) (hN : 1 ≤ N) (h1 : Blk w1 w.heap.size C 28) (h2 : Below w.heap.size w w1) (hb : Below (w1.drew.alloc (.cells (zrow N) 2)).heap.size (w1.drew.alloc (.cells (zrow N) 2)) W1) (ho : OwnL W1 (w1.drew.alloc (.cells (zrow N) 2)).heap.size ar rs) : ∃ b, ar = some ⟨b, 0, none⟩ ∧ RelZx C b rs w1.heap.size N (oM 0) w W1 := by
  have hl := h1.lt
  have hs := hb.size
  have ha : Below w1.heap.size w1 (w1.drew.alloc (.cells (zrow N) 2)) := ((Below.refl w1.heap.size w1).drew).alloc (Nat.le_refl _) _
  have hg : Blk (w1.drew.alloc (.cells (zrow N) 2)) w1.heap.size (zrow N) 2 := Blk.new _ _ _ _ rfl
  have hz : w1.heap.size < (w1.drew.alloc (.cells (zrow N) 2)).heap.size := hg.lt
  rcases ho with e | ⟨b, C', a1, a2, a3, a4, a5⟩
  · rw [e] at hr; simp at hr; omega
  · refine ⟨b, a2, (h1.below ha hl).below hb (by omega), ⟨C', a3, a5⟩, ?_, (h2.trans (ha.mono h2.size)).trans (hb.mono (by omega)), by omega, by omega, by omega⟩
    rw [oM_zero]
    exact hg.below hb hz
set_option maxRecDepth 100000 in
set_option maxHeartbeats 8000000 in
theorem spec39_good (N : Nat) (k : Int) (bs : List Nat) (hb : Bys bs) (c : Int) (n1 : 1 ≤ N) (n2 : N ≤ 17) (h0 : given (N : Int) k bs c [] = 0) (w : World) :
    Calls Tryd.prog 39 #[.agg (ccells (N : Int) k bs).toArray, .int .i64 c] w (LOut w (sdR N (nsF bs c (eseq N))) (sdC N (nsF bs c (eseq N)))) := by
  have HS := hidd (size_c26 (N : Int) k hb)
  have HSL := hidd (show (Tryd.prog.info? 28).map (·.size) = some (ccells (N : Int) k bs).length by rw [size26]; simp [ccells_len, hb.len])
  have HC0 := hidd (show (ccells (N : Int) k bs).toArray[0]? = some (.int .i64 (N : Int)) from rfl)
  have HG := hidd (fun W => given56 (N : Int) k bs hb c [] none 0 W (sl_none W) (by simp))
  rw [h0] at HG
  have HR := hidd (fun W => rows74 N k bs hb c n1 n2 W)
  have hN := nsF_nbrs bs c n2
  obtain ⟨rs, hrs⟩ : ∃ rs, rs = fillA (rowF N bs c) N := ⟨_, rfl⟩
  have hrl : rs.length = N := by rw [hrs, fillA_len]
  have HRS := hidd (show ∀ v, v < N → rs.getD v 0 = ((nsF bs c (eseq N) v : Nat) : Int) from fun v hv => by
    rw [nsF_rw bs c hv n2, hrs]
    exact fillA_get _ hv)
  obtain ⟨F, hF⟩ : ∃ F, F = nsF bs c (eseq N) := ⟨_, rfl⟩
  rw [← hF] at hN HRS ⊢
  rw [← hrs] at HR
  have HF17 := hidd hN.lt17
  have HN := hidd hN
  have HRL := hidd hrl
  have HRG := hidd (fun (W : World) (h : Blk W w.heap.size (ccells (N : Int) k bs).toArray 28) => h.range 0 (ccells (N : Int) k bs) (fun i v hv => by rw [Nat.zero_add]; simpa using hv))
  have HCX := hidd (fun (W : World) (h : Blk W w.heap.size (ccells (N : Int) k bs).toArray 28) => h.cell HC0.out)
  have HSB := hidd (fun (W W' : World) (h : Blk W w.heap.size (ccells (N : Int) k bs).toArray 28) (hb : Below W.heap.size W W') => h.below hb h.lt)
  obtain ⟨t0, hi2, hz0, hz1, hz3⟩ := info_parts info2
  have HIF := hidd (And.intro hi2 (And.intro hz0 (And.intro hz1 hz3)))
  have HMK := hidd (make29 N (by omega))
  clear hrs hrl hF hN h0 hi2 hz0 hz1 hz3
  go_enter Tryd.func39, Tryd.ntmps39
  go_wp2_with (refine wpList_load_row rfl 28 (.tmp 2) rfl w.heap.size rfl 28 _ (0,0) _ (Blk.new _ _ _ _ rfl) Tryd.underlying28 rfl HS.out ?_)
  refine (HG.out _).mono ?_
  rintro e w1 ⟨rfl, hb1⟩
  have G1 := hidd (And.intro ((Blk.new w (ccells (N : Int) k bs).toArray 28 _ rfl).below hb1 (by simp)) (((Below.refl w.heap.size w).alloc (Nat.le_refl _) (.cells (ccells (N : Int) k bs).toArray 28)).trans (hb1.mono (by simp))))
  clear hb1
  go_upto_region 4 with fail
  go_cut [7, 8] from 21 to 26 (fun s7 s8 wx => ∃ (b cr g : Nat), s7 = .slice (some ⟨b, 0, none⟩) N cr ∧ s8 = .slice (some ⟨g, 0, none⟩) N N ∧ RelZx (ccells (N : Int) k bs).toArray b rs g N (oM 0) w wx)
  case first =>
    refine wp_region_held_drew (S := (fun W => Blk W w.heap.size (ccells (N : Int) k bs).toArray 28)) (by kernel_rfl) ?_ (fun hHeld => ?_)
    · exact G1.out.1
    refine wpAnyH_take (i := 0) (oi := _) (v := _) rfl (by kernel_rfl) (by kernel_rfl) (by kernel_rfl) (fun _ _ _ h => h) (yieldsIf_load_mid (by rfl) _ _ rfl _ _ rfl _ _ (HRG.out) Tryd.underlying28 rfl (HSL.out)) (by assumption) ?_
    simp only [List.getElem_toArray, List.getElem_cons_succ, List.getElem_cons_zero, Act.put, List.setIfInBounds_toArray, List.set_cons_zero, List.set_cons_succ]
    refine wpAnyH_take (i := 1) (oi := _) (v := ?_) rfl (by kernel_rfl) (by kernel_rfl) (by kernel_rfl) (fun _ _ _ h => h) (Or.inl ⟨by rfl, ?_⟩) (by assumption) ?_
    rotate_left
    · intro wX hSw; (try dsimp only at hSw); go_simp; first | done | with_reducible rfl
    simp only [List.getElem_toArray, List.getElem_cons_succ, List.getElem_cons_zero, Act.put, List.setIfInBounds_toArray, List.set_cons_zero, List.set_cons_succ]
    refine wpAnyH_take (i := 3) (oi := _) (v := ?_) rfl (by kernel_rfl) (by kernel_rfl) (by kernel_rfl) (fun _ _ _ h => h) (Or.inl ⟨by rfl, ?_⟩) (by assumption) ?_
    rotate_left
    · intro wX hSw; (try dsimp only at hSw); go_simp; first | done | with_reducible rfl
    simp only [List.getElem_toArray, List.getElem_cons_succ, List.getElem_cons_zero, Act.put, List.setIfInBounds_toArray, List.set_cons_zero, List.set_cons_succ]
    refine wpAnyH_take (i := 4) (oi := _) (v := ?_) rfl (by kernel_rfl) (by kernel_rfl) (by kernel_rfl) (fun _ _ _ h => h) (Or.inl ⟨by rfl, ?_⟩) (by assumption) ?_
    rotate_left
    · intro wX hSw; have e1 := HCX.out wX hSw; go_simp; first | done | with_reducible rfl
    simp only [List.getElem_toArray, List.getElem_cons_succ, List.getElem_cons_zero, Act.put, List.setIfInBounds_toArray, List.set_cons_zero, List.set_cons_succ]
    refine wpAnyH_ready (rs := [2, 5]) (by kernel_rfl) (by simp) (AllReadyH.cons (o := _) rfl (fun KQ hKQ => ?_) (AllReadyH.cons (o := _) rfl (fun KQ hKQ => ?_) AllReadyH.nil))
    · go_simp
      refine (HR.out _).mono ?_
      rintro e W1 ⟨ar, cr, rfl, ho, hbY⟩
      have hbX : Below w1.heap.size w1 W1 := ((Below.refl w1.heap.size w1).drew).trans hbY
      have hB1 := HSB.out _ _ G1.out.1 hbX
      refine hKQ.out _ _ ?_ (fun hNext => ?_)
      · exact hB1
      clear hKQ KQ hHeld
      have hHeld := hNext
      clear hNext
      refine wpAnyH_take (i := 6) (oi := _) (v := ?_) rfl (by kernel_rfl) (by kernel_rfl) (by kernel_rfl) (fun _ _ _ h => h) (Or.inl ⟨by rfl, ?_⟩) (by assumption) ?_
      rotate_left
      · intro wX hSw; (try dsimp only at hSw); go_simp; first | done | with_reducible rfl
      simp only [List.getElem_toArray, List.getElem_cons_succ, List.getElem_cons_zero, Act.put, List.setIfInBounds_toArray, List.set_cons_zero, List.set_cons_succ]
      refine wpAnyH_ready (rs := [5]) (by kernel_rfl) (by simp) (AllReadyH.cons (o := _) rfl (fun KQ hKQ => ?_) AllReadyH.nil)
      go_simp
      rw [HMK.out]
      go_simp
      have ha2 : Below W1.heap.size W1 (W1.alloc (.cells (zrow N) 2)) := (Below.refl _ _).alloc (Nat.le_refl _) _
      have hB2 := HSB.out _ _ hB1 ha2
      refine hKQ.out _ _ ?_ (fun hNext => ?_)
      · exact hB2
      clear hKQ KQ hHeld
      have hHeld := hNext
      clear hNext
      refine wpAnyH_take (i := 7) (oi := _) (v := ?_) rfl (by kernel_rfl) (by kernel_rfl) (by kernel_rfl) (fun _ _ _ h => h) (Or.inl ⟨by rfl, ?_⟩) (by assumption) ?_
      rotate_left
      · intro wX hSw; (try dsimp only at hSw); go_simp; first | done | with_reducible rfl
      simp only [List.getElem_toArray, List.getElem_cons_succ, List.getElem_cons_zero, Act.put, List.setIfInBounds_toArray, List.set_cons_zero, List.set_cons_succ]
      refine wpAnyH_done (by kernel_rfl) ?_ _
      have KK := hidd (zx_one HRL.out n1 G1.out.1 G1.out.2 hbX ho)
      clear hHeld hB1 hB2 ha2 hbX hbY ho
      obtain ⟨b, rfl, KJ⟩ := KK.out
      have KM := hidd KJ
      clear KK KJ
      go_wp2_with fail
      go_meet
      exact ⟨b, cr, _, rfl, rfl, KM.out⟩
    · go_simp
      rw [HMK.out]
      go_simp
      have ha1 : Below w1.heap.size w1 (w1.drew.alloc (.cells (zrow N) 2)) := ((Below.refl w1.heap.size w1).drew).alloc (Nat.le_refl _) _
      have hB1 := HSB.out _ _ G1.out.1 ha1
      refine hKQ.out _ _ ?_ (fun hNext => ?_)
      · exact hB1
      clear hKQ KQ hHeld
      have hHeld := hNext
      clear hNext
      refine wpAnyH_ready (rs := [2]) (by kernel_rfl) (by simp) (AllReadyH.cons (o := _) rfl (fun KQ hKQ => ?_) AllReadyH.nil)
      go_simp
      refine (HR.out _).mono ?_
      rintro e W1 ⟨ar, cr, rfl, ho, hbY⟩
      have hB2 := HSB.out _ _ hB1 hbY
      refine hKQ.out _ _ ?_ (fun hNext => ?_)
      · exact hB2
      clear hKQ KQ hHeld
      have hHeld := hNext
      clear hNext
      refine wpAnyH_take (i := 6) (oi := _) (v := ?_) rfl (by kernel_rfl) (by kernel_rfl) (by kernel_rfl) (fun _ _ _ h => h) (Or.inl ⟨by rfl, ?_⟩) (by assumption) ?_
      rotate_left
      · intro wX hSw; (try dsimp only at hSw); go_simp; first | done | with_reducible rfl
      simp only [List.getElem_toArray, List.getElem_cons_succ, List.getElem_cons_zero, Act.put, List.setIfInBounds_toArray, List.set_cons_zero, List.set_cons_succ]
      refine wpAnyH_take (i := 7) (oi := _) (v := ?_) rfl (by kernel_rfl) (by kernel_rfl) (by kernel_rfl) (fun _ _ _ h => h) (Or.inl ⟨by rfl, ?_⟩) (by assumption) ?_
      rotate_left
      · intro wX hSw; (try dsimp only at hSw); go_simp; first | done | with_reducible rfl
      simp only [List.getElem_toArray, List.getElem_cons_succ, List.getElem_cons_zero, Act.put, List.setIfInBounds_toArray, List.set_cons_zero, List.set_cons_succ]
      refine wpAnyH_done (by kernel_rfl) ?_ _
      have KK := hidd (zx_two HRL.out n1 G1.out.1 G1.out.2 hbY ho)
      clear hHeld hB1 hB2 ha1 hbY ho
      obtain ⟨b, rfl, KJ⟩ := KK.out
      have KM := hidd KJ
      clear KK KJ
      go_wp2_with fail
      go_meet
      exact ⟨b, cr, _, rfl, rfl, KM.out⟩
  case rest =>
  obtain ⟨b, cr, g, rfl, rfl, HX⟩ := hcut
  have HX := hidd HX
  clear G1 HG HR HMK
  go_wp2_with fail
  go_loopw [9] (fun e wr => ∃ i : Nat, i ≤ N ∧ e = .int .i64 (i : Int) ∧ Hid (RelZx (ccells (N : Int) k bs).toArray b rs g N (oM i) w wr)) (fun e _ => N - (intOf e).toNat)
  case atStart => exact ⟨0, Nat.zero_le _, rfl, HX⟩
  case round =>
  clear HX
  obtain ⟨i, hi, rfl, HK⟩ := hrel
  by_cases hlt : i < N
  · have hltI : decide ((i : Int) < (N : Int)) = true := by simp; omega
    have cq := fl_cell HK.out.2.2.1 hlt
    have fq := HK.out.2.2.1.fro i
    have HS2 := hidd (HK.out.store (oM_step N i))
    go_wp2_with fail
    go_roundw
    case rel => exact ⟨i + 1, by omega, by go_num, HS2⟩
    case measure => simp [intOf]; omega
  have hltI : decide ((i : Int) < (N : Int)) = false := by simp; omega
  have HX := hidd (show Osd N F 0 (fun _ => -1) ∧ RelZx (ccells (N : Int) k bs).toArray b rs g N (fun _ => -1) w wr by
    have h := HK.out
    unfold RelZx at h ⊢
    rw [oM_end (by omega)] at h
    exact ⟨osd_start N F, h⟩)
  clear HK
  go_wp2_with fail
  clear hltI hlt hi
  go_loopw [10] (fun e wr => ∃ (p : Nat) (o : Nat → Int), p ≤ N ∧ e = .int .i64 (p : Int) ∧ Hid (Osd N F p o ∧ RelZx (ccells (N : Int) k bs).toArray b rs g N o w wr)) (fun e _ => N - (intOf e).toNat)
  case atStart => exact ⟨0, _, Nat.zero_le _, rfl, HX⟩
  case round =>
  clear HX
  obtain ⟨p, o, hp, rfl, HK⟩ := hrel
  have c0 := HK.out.2.1.cell HC0.out
  by_cases hlt : p < N
  · have hltI : decide ((p : Int) < (N : Int)) = true := by simp; omega
    have cq := fl_cell HK.out.2.2.2.1 hlt
    have fq := HK.out.2.2.2.1.fro p
    obtain ⟨x, hx⟩ : ∃ x, x = o p := ⟨_, rfl⟩
    have hval := HK.out.1.b.val p hlt
    rw [← hx] at cq hval
    have HXO := hidd hx
    clear hx
    by_cases hm : x = -1
    · subst hm
      have HS2 := hidd (And.intro (HK.out.1.open HN.out hlt HXO.out.symm) (RelZq.start (p := p) (HK.out.2.store (fl_upd N o p 0))))
      rw [show (wr.setCell ⟨g, p, none⟩ (.int .i64 0)).heap.size = wr.heap.size by simp [World.setCell]] at HS2
      have hB := hidd (show w.heap.size ≤ wr.heap.size from HK.out.2.2.2.2.1.size)
      clear hval HK HXO
      go_wp2_with fail
      clear c0 cq fq
      go_loopw [11, 12] (fun eq ei wq => ∃ (B i : Nat) (L : List Nat) (o' : Nat → Int) (aq : Option Addr) (cq : Nat), i ≤ N ∧ ei = .int .i64 (i : Int) ∧ eq = .slice aq L.length cq ∧ Hid (Qsd N F p i o' L ∧ RelZq (ccells (N : Int) k bs).toArray b rs g N o' B (.slice aq L.length cq) L w wq)) (fun _ ei _ => N - (intOf ei).toNat)
      case atStart => exact ⟨_, 0, [p], _, _, _, Nat.zero_le _, rfl, rfl, HS2⟩
      case round =>
      clear HS2
      obtain ⟨wq, rfl⟩ : ∃ wq, wq = wr := ⟨_, rfl⟩
      obtain ⟨B, i, L, oq, aq, cap, hi, rfl, rfl, HQ⟩ := hrel
      have hLN := HQ.out.1.len
      by_cases hil : i < L.length
      · have hltI : decide ((i : Int) < (L.length : Int)) = true := by simp; omega
        obtain ⟨q, rfl, cel⟩ := HQ.out.2.at hil
        obtain ⟨v, hv⟩ : ∃ v, v = L.getD i 0 := ⟨_, rfl⟩
        have hvN := (HQ.out.1.v1 hil).1
        rw [← hv] at cel hvN
        have HL4 := hidd (show Qsd N F p i oq L ∧ Prt F (L.getD i 0) 0 oq ∧ L.getD i 0 = v ∧ RelZq (ccells (N : Int) k bs).toArray b rs g N oq B (.slice (some ⟨q, 0, none⟩) L.length cap) L w wq from ⟨HQ.out.1, prt_start _ _ _, hv.symm, HQ.out.2⟩)
        clear hv HQ
        go_wp2_with fail
        clear cel hltI
        go_loopw [11, 14] (fun eq ej wq => ∃ (j : Nat) (L : List Nat) (o' : Nat → Int) (aq : Option Addr) (cq : Nat), j ≤ N ∧ i < L.length ∧ ej = .int .i64 (j : Int) ∧ eq = .slice aq L.length cq ∧ Hid (Qsd N F p i o' L ∧ Prt F (L.getD i 0) j o' ∧ L.getD i 0 = v ∧ RelZq (ccells (N : Int) k bs).toArray b rs g N o' B (.slice aq L.length cq) L w wq)) (fun _ ej _ => N - (intOf ej).toNat)
        case atStart => exact ⟨0, L, _, _, _, Nat.zero_le _, hil, rfl, rfl, HL4⟩
        case round =>
        clear HL4 hil hLN
        obtain ⟨wz, rfl⟩ : ∃ wz, wz = wr := ⟨_, rfl⟩
        obtain ⟨j, L, oq, aq, cap, hj, hil, rfl, rfl, HQ⟩ := hrel
        have hLN := HQ.out.1.len
        have c0 := HQ.out.2.2.2.1.1.cell HC0.out
        by_cases hjN : j < N
        · have hltI : decide ((j : Int) < (N : Int)) = true := by simp; omega
          have crow := HQ.out.2.2.2.1.row (j := v) (by rw [HRL.out]; exact hvN)
          rw [HRS.out v hvN] at crow
          have hF17 := HF17.out v
          obtain ⟨X, hX⟩ : ∃ X, X = F v := ⟨_, rfl⟩
          rw [← hX] at crow hF17
          have hb01 : (bits .and .i64 ((X : Int) / 2 ^ j) 1 == 0) = !X.testBit j := bit_zero X j (by omega)
          have hu2 : IntKind.u64.wrap (j : Int) = (j : Int) := by unfold IntKind.wrap; simp [IntKind.signed, IntKind.bits]; omega
          have hmn2 : min j 64 = j := by omega
          cases hbt : X.testBit j with
          | false =>
            have hb3 : (bits .and .i64 ((X : Int) / 2 ^ j) 1 == 0) = true := by rw [hb01, hbt]; rfl
            have K2 := hidd (show Qsd N F p i oq L ∧ Prt F (L.getD i 0) (j + 1) oq ∧ L.getD i 0 = v ∧ RelZq (ccells (N : Int) k bs).toArray b rs g N oq B (.slice aq L.length cap) L w wz from ⟨HQ.out.1, HQ.out.2.1.skip (by rw [HQ.out.2.2.1, ← hX]; exact hbt), HQ.out.2.2⟩)
            clear hb01 hbt hX HQ
            go_wp2_with fail
            go_roundw
            case rel => exact ⟨j + 1, L, oq, aq, cap, by omega, hil, by go_num, rfl, K2⟩
            case measure => simp [intOf]; omega
          | true =>
            have hb3 : (bits .and .i64 ((X : Int) / 2 ^ j) 1 == 0) = false := by rw [hb01, hbt]; rfl
            have HBT := hidd (show (F (L.getD i 0)).testBit j = true by rw [HQ.out.2.2.1, ← hX]; exact hbt)
            have cx := fl_cell HQ.out.2.2.2.1.2.2.1 hjN
            have cy := fl_cell HQ.out.2.2.2.1.2.2.1 hvN
            have fx := HQ.out.2.2.2.1.2.2.1.fro j
            have hval := HQ.out.1.b.val j hjN
            have hvy := (HQ.out.1.v1 hil).2
            rw [HQ.out.2.2.1] at hvy
            obtain ⟨x, hx⟩ : ∃ x, x = oq j := ⟨_, rfl⟩
            obtain ⟨y, hy⟩ : ∃ y, y = oq v := ⟨_, rfl⟩
            rw [← hx] at cx hval
            rw [← hy] at cy hvy
            have HXY := hidd (And.intro hx hy)
            clear hb01 hbt hX hx hy
            by_cases hxy : x = y
            · have hq : (x == y) = true := by simpa using hxy
              have HNO := hidd (HQ.out.1.no hil hjN HBT.out (by rw [HQ.out.2.2.1, ← HXY.out.1, ← HXY.out.2]; exact hxy))
              have HB := hidd HQ.out.2.2.2.1.2.2.2.1
              clear HQ hxy hval
              go_wp2_with fail
              go_quiet (fail)
              go_wp2_with fail
              go_ret2
              rw [sdR_no HNO.out, sdC_no HNO.out]
              exact lout_nil rfl (below_drewN HB.out _)
            · have hq : (x == y) = false := by simpa using hxy
              by_cases hm : x = -1
              · have hd : decide (x < 0) = true := by simp; omega
                have HPQ := hidd (show Qsd N F p i (upd oq j (1 - y)) (L ++ [j]) ∧ Prt F ((L ++ [j]).getD i 0) (j + 1) (upd oq j (1 - y)) ∧ (L ++ [j]).getD i 0 = v from by
                  have e0 : oq j = -1 := by rw [← HXY.out.1]; exact hm
                  have e1 := HQ.out.1.more HN.out hlt hil hjN HBT.out e0
                  have e2 := Prt.more HQ.out.1 hil e0 HQ.out.2.1
                  have e3 : (L ++ [j]).getD i 0 = v := by rw [← HQ.out.2.2.1]; simp [List.getD, List.getElem?_append_left hil]
                  rw [HQ.out.2.2.1, ← HXY.out.2] at e1 e2
                  exact ⟨e1, e2, e3⟩)
                have K1 := hidd HQ.out.2.2.2
                have hl17 : L.length ≤ 17 := by omega
                clear HQ hxy hval hm
                go_wp2_with fail
                go_quiet (fail)
                have K3 := hidd ((K1.out.drewN nq).store (fl_upd N oq j (1 - y)))
                have cx' : (wz.drewN nq).cell? ⟨g, j, none⟩ = some (.int .i64 x) := cx
                have cy' : (wz.drewN nq).cell? ⟨g, v, none⟩ = some (.int .i64 y) := cy
                have fx' : (wz.drewN nq).frozen? ⟨g, j, none⟩ = false := fx
                clear K1 cx cy fx
                obtain ⟨wy, hwy⟩ : ∃ wy, wy = wz.drewN nq := ⟨_, rfl⟩
                rw [← hwy] at K3 cx' cy' fx' ⊢
                clear hwy
                have hown := K3.out.2.2
                have hB := K3.out.2.1.2.2.2
                have hwB := K3.out.2.1.2.2.1
                have hsz := hidd (show (wy.setCell ⟨g, j, none⟩ (.int .i64 (1 - y))).heap.size = wy.heap.size by simp [World.setCell])
                rw [hsz.out] at hB
                go_wp2_with (at_builtin; refine wpList_append_own _ rfl _ _ 25 rfl B 2 t0 (.int .i64 0) 1 8 Tryd.underlying25 HIF.out.1 HIF.out.2.1 HIF.out.2.2.1 HIF.out.2.2.2 rfl (by decide) _ _ _ rfl (hown.alloc _) ⟨_, 0, none⟩ 1 1 [.int .i64 (j : Int)] rfl rfl ?c1 ?c2 ?c3 ?c4 ?c5 ?_)
                case c1 => have h := one_new (wy.setCell ⟨g, j, none⟩ (.int .i64 (1 - y))) (.int .i64 (j : Int)) 2; rw [hsz.out] at h; exact h
                case c2 => intro u hu; simp at hu; subst hu; rfl
                case c3 => unfold maxLen; omega
                case c4 => omega
                case c5 => simp; omega
                intro v' w4 hown' hgrow _
                obtain ⟨a', c', rfl⟩ := own_slice (L := L ++ [j]) (by rw [List.length_append, List.map_append, icells_app]; exact hown')
                have K4 := hidd (And.intro HPQ.out.1 (And.intro HPQ.out.2.1 (And.intro HPQ.out.2.2 (K3.out.more hgrow hown'))))
                clear hown' hgrow hown cx' cy' fx' K3
                go_wp2
                go_roundw
                case rel => exact ⟨j + 1, L ++ [j], _, a', c', by omega, by rw [List.length_append]; omega, by go_num, rfl, K4⟩
                case measure => simp [intOf]; omega
              · have hd : decide (x < 0) = false := by simp; omega
                have K2 := hidd (show Qsd N F p i oq L ∧ Prt F (L.getD i 0) (j + 1) oq ∧ L.getD i 0 = v ∧ RelZq (ccells (N : Int) k bs).toArray b rs g N oq B (.slice aq L.length cap) L w wz from ⟨HQ.out.1, HQ.out.2.1.keep (by rw [← HXY.out.1]; exact hm) (by rw [HQ.out.2.2.1, ← HXY.out.1, ← HXY.out.2]; exact hxy), HQ.out.2.2⟩)
                clear HQ hxy hval hm
                go_wp2_with fail
                go_quiet (fail)
                have K3 := hidd (And.intro K2.out.1 (And.intro K2.out.2.1 (And.intro K2.out.2.2.1 (K2.out.2.2.2.drewN nq))))
                have cx' : (wz.drewN nq).cell? ⟨g, j, none⟩ = some (.int .i64 x) := cx
                clear K2 cy
                go_wp2_with fail
                go_roundw
                case rel => exact ⟨j + 1, L, oq, aq, cap, by omega, hil, by go_num, rfl, K3⟩
                case measure => simp [intOf]; omega
        · have hltI : decide ((j : Int) < (N : Int)) = false := by simp; omega
          have hjE : j = N := by omega
          subst hjE
          have K2 := hidd (And.intro (HQ.out.1.next hil HQ.out.2.1) HQ.out.2.2.2)
          clear HQ
          go_wp2_with fail
          go_roundw
          case rel => exact ⟨B, i + 1, L, oq, aq, cap, by omega, by go_num, rfl, K2⟩
          case measure => simp [intOf]; omega
      · have hltI : decide ((i : Int) < (L.length : Int)) = false := by simp; omega
        have K2 := hidd (And.intro (HQ.out.1.shut (by omega)) HQ.out.2.1)
        clear HQ
        go_wp2_with fail
        go_roundw
        case rel => exact ⟨p + 1, oq, by omega, by go_num, K2⟩
        case measure => simp [intOf]; omega
    · have hd : decide (0 ≤ x) = true := by simp; omega
      have K2 := hidd (And.intro (HK.out.1.skip (by rw [← HXO.out]; exact hm)) HK.out.2)
      clear hval
      go_wp2_with fail
      go_roundw
      case rel => exact ⟨p + 1, o, by omega, by go_num, K2⟩
      case measure => simp [intOf]; omega
  · have hltI : decide ((p : Int) < (N : Int)) = false := by simp; omega
    have hpN : p = N := by omega
    subst hpN
    have KE := hidd (show ∃ o', sdR p F = fl p o' ∧ sdC p F = 0 ∧ RelZx (ccells (p : Int) k bs).toArray b rs g p o' w wr from by
      obtain ⟨f, hf, e⟩ := HK.out.1.end HN.out
      refine ⟨sd1 f, sdR_yes HN.out hf, sdC_yes ⟨f, hf⟩, ?_⟩
      have h := HK.out.2
      unfold RelZx at h ⊢
      rw [e] at h
      exact h)
    clear HK
    go_wp2_with fail
    go_ret2
    obtain ⟨o', e1, e2, h3⟩ := KE.out
    rw [e1, e2]
    exact ⟨_, p, by rw [fl_len]; rfl, ownL_fl (by have := h3.2.2.2.2.1; omega) h3.2.2.1, h3.2.2.2.1⟩
end Go.Proofs.YtkiocedhibeieaaDoor
