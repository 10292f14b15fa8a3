/- OrderOf: the program. -/
import Derived.Test.YtmeihpakbhfipaaDoorIcl
import Derived.Test.YtmeihpakbhfipaaDoorOrq
namespace Go.Proofs.YtmeihpakbhfipaaDoor
set_option linter.unusedVariables false
set_option linter.unusedSimpArgs false
open Go Go.RowKit Go.Shelf
attribute [local go_sem] Oper.semAt_some
/-- The order as far as it is made; all that lay before it is as it was. -/
def RelOo (N : Nat) (f : Nat → Int) (W wr : World) : Prop := Blk wr W.heap.size (icells (fl N f)).toArray 2 ∧ Below W.heap.size W wr
theorem RelOo.more {N : Nat} {f : Nat → Int} {W wr w2 : World} (h : RelOo N f W wr) (hb : Below wr.heap.size wr w2) : RelOo N f W w2 := ⟨h.1.below hb h.1.lt, h.2.trans (hb.mono h.2.size)⟩
theorem RelOo.drew {N : Nat} {f : Nat → Int} {W wr : World} (h : RelOo N f W wr) : RelOo N f W wr.drew := h.more (Below.refl _ _).drew
theorem StI.cells {w : World} {g : Nat} {rows : Nat → List Int} {N : Nat} (h : StI w g rows N) {p : Nat} (hp : p < N) : ∃ a cap, w.cell? ⟨g, p, none⟩ = some (.slice a (rows p).length cap) ∧ SlI w a (rows p) := by
  obtain ⟨C, h1, h2, h3⟩ := h
  obtain ⟨a, cap, e, hs⟩ := h3 p hp
  exact ⟨a, cap, h1.cell e, hs⟩
theorem fl_cell {w : World} {h N q : Nat} {f : Nat → Int} (hB : Blk w h (icells (fl N f)).toArray 2) (hq : q < N) : w.cell? ⟨h, q, none⟩ = some (.int .i64 (f q)) := by
  have h1 := icells_get (zs := fl N f) (j := q) (by rw [fl_len]; exact hq)
  rw [fl_get f hq] at h1
  exact hB.cell h1
theorem fl_store {w : World} {h N q : Nat} {f g : Nat → Int} {v : Int} (hB : Blk w h (icells (fl N f)).toArray 2) (e : (fl N f).set q v = fl N g) : Blk (w.setCell ⟨h, q, none⟩ (.int .i64 v)) h (icells (fl N g)).toArray 2 := by
  have s := hB.same q (.int .i64 v)
  rw [icells_set, e] at s
  exact s
theorem RelOo.store {N q : Nat} {f g : Nat → Int} {W wr : World} {v : Int} (h : RelOo N f W wr) (e : (fl N f).set q v = fl N g) : RelOo N g W (wr.setCell ⟨W.heap.size, q, none⟩ (.int .i64 v)) :=
  ⟨fl_store h.1 e, h.2.setCell (p := ⟨W.heap.size, q, none⟩) (Nat.le_refl _) _⟩
set_option maxRecDepth 100000 in
set_option maxHeartbeats 4000000 in
theorem impl17 (n k : Int) (bs : List Nat) (hb : Bys bs) (w : World) (hT : Tz w) (h0 : 0 < w.heap.size) :
    Calls Tryd.prog 17 #[.agg (ccells n k bs).toArray] w (LOut w (orL n k bs) (orC n k bs)) := by
  have HS := hidd (size_c26 n k hb)
  have HC1 := hidd (show (ccells n k bs).toArray[1]? = some (.int .i64 k) from rfl)
  have HC0 := hidd (show (ccells n k bs).toArray[0]? = some (.int .i64 n) from rfl)
  have HT := hidd (And.intro hT h0)
  have HA := hidd (And.intro (Blk.new w (ccells n k bs).toArray 28 _ rfl) (show Below w.heap.size w (w.alloc (.cells (ccells n k bs).toArray 28)) from (Below.refl w.heap.size w).alloc (Nat.le_refl _) _))
  clear hT h0
  cases hi : isCol n k bs with
  | false =>
    obtain ⟨e1, e2⟩ := or_bad (n := n) (k := k) (bs := bs) (m := 1) (by unfold orC; rw [hi]; rfl) (by omega)
    rw [e1, e2]
    have HI := hidd hi
    clear hi e1 e2
    go_enter Tryd.func17, Tryd.ntmps17
    go_wp2_with (refine wpList_load_row rfl 28 (.tmp 1) rfl w.heap.size rfl 28 _ (0,0) _ HA.out.1 Tryd.underlying28 rfl HS.out ?_)
    refine (implIs_any n k bs hb _).mono ?_
    rintro e w1 ⟨rfl, hb1⟩
    rw [HI.out]
    have G1 := hidd (HA.out.2.trans (hb1.mono (by simp)))
    clear hb1
    go_wp2_with fail
    go_ret2
    exact lout_nil rfl G1.out
  | true =>
    have HI := hidd hi
    obtain ⟨n1, n2, k1, k2⟩ := isCol_bd hi
    by_cases hk : k = 2
    · obtain ⟨N, rfl⟩ := Int.eq_ofNat_of_zero_le (show 0 ≤ n by omega)
      have g0 : given (N : Int) k bs 0 [] = 0 := given_0 hi (inB_yes (by omega) (by omega)) rfl
      have g1 : given (N : Int) k bs 1 [] = 0 := given_0 hi (inB_yes (by omega) (by omega)) rfl
      have HS0 := hidd (fun W hW hh => steps25 N k 0 bs hb W g0 hW hh)
      have HS1 := hidd (fun W hW hh => steps25 N k 1 bs hb W g1 hW hh)
      have hd : (k != 2) = false := by simp [hk]
      have N2 : N ≤ 17 := by omega
      have HCD := hidd (show orC (N : Int) k bs = if clB bs 0 N = true ∧ clB bs 1 N = true then 0 else 5 by unfold orC; rw [if_pos hi, Int.toNat_natCast]; simp [hk])
      clear hi g0 g1 hk
      go_enter Tryd.func17, Tryd.ntmps17
      go_wp2_with (refine wpList_load_row rfl 28 (.tmp 1) rfl w.heap.size rfl 28 _ (0,0) _ HA.out.1 Tryd.underlying28 rfl HS.out ?_)
      refine (implIs_any (N : Int) k bs hb _).mono ?_
      rintro e w1 ⟨rfl, hb1⟩
      rw [HI.out]
      have G1 := hidd (And.intro (HA.out.1.below hb1 HA.out.1.lt) (HA.out.2.trans (hb1.mono (by simp))))
      have c1 := G1.out.1.cell HC1.out
      clear hb1
      go_wp2_with (refine wpList_load_row rfl 28 (.tmp 1) rfl w.heap.size rfl 28 _ (0,0) _ G1.out.1 Tryd.underlying28 rfl HS.out ?_)
      refine (HS0.out _ (HT.out.1.below G1.out.2 HT.out.2) (Nat.lt_of_lt_of_le HT.out.2 G1.out.2.size)).mono ?_
      rintro e w2 ⟨ga, rfl, _, hsa, hb2⟩
      have G2 := hidd (And.intro (G1.out.1.below hb2 G1.out.1.lt) (And.intro (G1.out.2.trans (hb2.mono G1.out.2.size)) hsa))
      clear hb2 hsa c1
      go_wp2_with (refine wpList_load_row rfl 28 (.tmp 1) rfl w.heap.size rfl 28 _ (0,0) _ G2.out.1 Tryd.underlying28 rfl HS.out ?_)
      refine (HS1.out _ (HT.out.1.below G2.out.2.1 HT.out.2) (Nat.lt_of_lt_of_le HT.out.2 G2.out.2.1.size)).mono ?_
      rintro e w3 ⟨gc, rfl, _, hsc, hb3⟩
      have G3 := hidd (And.intro (G2.out.1.below hb3 G2.out.1.lt) (And.intro (G2.out.2.1.trans (hb3.mono G2.out.2.1.size)) (And.intro (G2.out.2.2.below hb3) hsc)))
      have c3 := G3.out.1.cell HC0.out
      have hsz3 := G3.out.2.1.size
      clear hb3 hsc
      cases ha : clB bs 0 N with
      | false =>
        obtain ⟨e1, e2⟩ := or_bad (n := (N : Int)) (k := k) (bs := bs) (m := 5) (by rw [HCD.out]; simp [ha]) (by omega)
        have HE := hidd (And.intro e1 e2)
        have HA0 := hidd ha
        clear ha e1 e2
        go_wp2_with fail
        refine (closed28 N 0 bs ga w3 N2 G3.out.2.2.1).mono ?_
        rintro e _ ⟨rfl, rfl⟩
        rw [HA0.out]
        go_wp2_with fail
        go_ret2
        rw [HE.out.1, HE.out.2]
        exact lout_nil rfl G3.out.2.1
      | true =>
        have HA0 := hidd ha
        cases hc : clB bs 1 N with
        | false =>
          obtain ⟨e1, e2⟩ := or_bad (n := (N : Int)) (k := k) (bs := bs) (m := 5) (by rw [HCD.out]; simp [hc]) (by omega)
          have HE := hidd (And.intro e1 e2)
          have HA1 := hidd hc
          clear ha hc e1 e2
          go_wp2_with fail
          refine (closed28 N 0 bs ga w3 N2 G3.out.2.2.1).mono ?_
          rintro e _ ⟨rfl, rfl⟩
          rw [HA0.out]
          go_wp2_with fail
          refine (closed28 N 1 bs gc w3 N2 G3.out.2.2.2).mono ?_
          rintro e _ ⟨rfl, rfl⟩
          rw [HA1.out]
          go_wp2_with fail
          go_ret2
          rw [HE.out.1, HE.out.2]
          exact lout_nil rfl G3.out.2.1
        | true =>
          have HA1 := hidd hc
          have e2 : orC (N : Int) k bs = 0 := by rw [HCD.out]; simp [ha, hc]
          have e1 : orL (N : Int) k bs = ordL bs N := by unfold orL; rw [if_pos e2, Int.toNat_natCast]
          have HE := hidd (And.intro e1 e2)
          have hmk := make29 N (by omega)
          have c4 := (G3.out.1.alloc (.cells (zrow N) 2)).cell HC0.out
          have HR0 := hidd (show RelOo N (oS bs N 0) w3 (w3.alloc (.cells (zrow N) 2)) by
            refine ⟨?_, (Below.refl _ _).alloc (Nat.le_refl _) _⟩
            rw [oS_zero]
            have : (icells (fl N fun _ => 0)).toArray = zrow N := by rw [zrow_icells]; congr 2; apply List.ext_getElem <;> simp [fl]
            rw [this]
            exact Blk.new _ _ _ _ rfl)
          clear ha hc e1 e2
          go_wp2_with fail
          refine (closed28 N 0 bs ga w3 N2 G3.out.2.2.1).mono ?_
          rintro e _ ⟨rfl, rfl⟩
          rw [HA0.out]
          go_wp2_with fail
          refine (closed28 N 1 bs gc w3 N2 G3.out.2.2.2).mono ?_
          rintro e _ ⟨rfl, rfl⟩
          rw [HA1.out]
          go_wp2_with fail
          clear c3 c4 hmk
          go_loopw [41] (fun e wr => ∃ p : Nat, p ≤ N ∧ e = .int .i64 (p : Int) ∧ RelOo N (oS bs N p) w3 wr) (fun e _ => N - (intOf e).toNat)
          case atStart => exact ⟨0, Nat.zero_le _, rfl, HR0.out⟩
          case round =>
            obtain ⟨p, hp, rfl, HR⟩ := hrel
            have HK := hidd HR
            clear HR
            by_cases hlt : p < N
            · have HCP := hidd (fun wX (h : RelOo N (oS bs N p) w3 wX) => fl_cell h.1 hlt)
              obtain ⟨ad, cad, cd0, _⟩ := G3.out.2.2.2.cells hlt
              have HCD2 := hidd (fun wX (h : RelOo N (oS bs N p) w3 wX) => (h.2.cell (p := ⟨gc, p, none⟩) (block_lt_of_cell cd0)).trans cd0)
              have hbd := oS_bd bs hp p
              have hbl := oB_le bs N p
              have HOB := hidd (show oB bs N p = (upR bs 1 N p).length from rfl)
              have HTS := hidd (oT_start bs (N := N) (P := p))
              rw [← HOB.out] at HCD2
              generalize oS bs N p p = v at HCP hbd HTS
              generalize oB bs N p = u at HCD2 hbl HTS
              clear cd0
              go_wp2_with fail
              refine wp_region_last_lit 11 (fun w' => RelOo N (oS bs N p) w3 w') rfl rfl (by kernel_rfl) (HK.out.drew) (by kernel_rfl) (by kernel_rfl) (by kernel_rfl) ?_
              simp only [List.take_succ_cons, List.take_zero, List.cons_append, List.nil_append, idle]
              refine qs rfl (fun KQ hKQ => ?_)
              apply Exists.intro
              refine ⟨fun w' hw' => ?_, ?_⟩
              · go_simp; exact rfl
              go_simp
              refine hKQ _ ?_
              clear hKQ KQ
              refine qs rfl (fun KQ hKQ => ?_)
              apply Exists.intro
              refine ⟨fun w' hw' => ?_, ?_⟩
              · go_simp; exact rfl
              go_simp
              refine hKQ _ ?_
              clear hKQ KQ
              refine qs rfl (fun KQ hKQ => ?_)
              apply Exists.intro
              refine ⟨fun w' hw' => ?_, ?_⟩
              · go_simp; exact rfl
              go_simp
              refine hKQ _ ?_
              clear hKQ KQ
              refine qs rfl (fun KQ hKQ => ?_)
              apply Exists.intro
              refine ⟨fun w' hw' => ?_, ?_⟩
              · have hc := HCP.out w' hw'; go_simp; exact rfl
              go_simp
              refine hKQ _ ?_
              clear hKQ KQ
              refine qs rfl (fun KQ hKQ => ?_)
              apply Exists.intro
              refine ⟨fun w' hw' => ?_, ?_⟩
              · go_simp; exact rfl
              go_simp
              refine hKQ _ ?_
              clear hKQ KQ
              refine qs rfl (fun KQ hKQ => ?_)
              apply Exists.intro
              refine ⟨fun w' hw' => ?_, ?_⟩
              · go_simp; exact rfl
              go_simp
              refine hKQ _ ?_
              clear hKQ KQ
              refine qs rfl (fun KQ hKQ => ?_)
              apply Exists.intro
              refine ⟨fun w' hw' => ?_, ?_⟩
              · go_simp; exact rfl
              go_simp
              refine hKQ _ ?_
              clear hKQ KQ
              refine qs rfl (fun KQ hKQ => ?_)
              apply Exists.intro
              refine ⟨fun w' hw' => ?_, ?_⟩
              · have hc := HCD2.out w' hw'; go_simp; exact rfl
              go_simp
              refine hKQ _ ?_
              clear hKQ KQ
              refine qs rfl (fun KQ hKQ => ?_)
              apply Exists.intro
              refine ⟨fun w' hw' => ?_, ?_⟩
              · go_simp; exact rfl
              go_simp
              refine hKQ _ ?_
              clear hKQ KQ
              refine qs rfl (fun KQ hKQ => ?_)
              apply Exists.intro
              refine ⟨fun w' hw' => ?_, ?_⟩
              · go_simp; exact rfl
              go_simp
              refine hKQ _ ?_
              clear hKQ KQ
              refine qs rfl (fun KQ hKQ => ?_)
              apply Exists.intro
              refine ⟨fun w' hw' => ?_, ?_⟩
              · go_simp; exact rfl
              go_simp
              refine hKQ _ ?_
              clear hKQ KQ
              refine qs rfl (fun KQ hKQ => ?_)
              apply Exists.intro
              refine ⟨fun w' hw' => ?_, ?_⟩
              · go_simp; exact rfl
              go_simp
              refine hKQ _ ?_
              clear hKQ KQ
              refine wpQuiet_nil ?_
              intro w' hw'
              have cE := HCP.out w' hw'
              have fE := hw'.1.fro p
              have HS1 := hidd (hw'.store HTS.out)
              obtain ⟨aa, caa, ca0, hsa⟩ := G3.out.2.2.1.cells hlt
              have ca1 := (HS1.out.2.cell (p := ⟨ga, p, none⟩) (block_lt_of_cell ca0)).trans ca0
              have HSA := hidd hsa
              have hrl := upR_len bs 0 N p
              have hl17 : (upR bs 0 N p).length ≤ 17 := by omega
              clear hw' ca0 hsa hrl
              go_wp2_with fail
              clear cE fE ca1
              go_loopw [60] (fun e wr => ∃ m : Nat, m ≤ (upR bs 0 N p).length ∧ e = .int .i64 (m : Int) ∧ RelOo N (oT bs N p m) w3 wr) (fun e _ => (upR bs 0 N p).length - (intOf e).toNat)
              case atStart => exact ⟨0, Nat.zero_le _, rfl, HS1.out⟩
              case round =>
                obtain ⟨m, hm, rfl, HR⟩ := hrel
                have HK2 := hidd HR
                clear HR
                by_cases hml : m < (upR bs 0 N p).length
                · obtain ⟨q, hq, hpq, hqN, _⟩ := upR_get hml
                  have HSTP := hidd (oT_step bs hml hq hpq)
                  rcases (HSA.out.below HK2.out.2 (Nat.le_refl _)) with hz | ⟨b2, off2, ha2, hc2⟩
                  · rw [hz] at hml; simp at hml
                  subst ha2
                  have cm := hc2 m hml
                  rw [hq] at cm
                  have cq := fl_cell HK2.out.1 hqN
                  have fq := HK2.out.1.fro q
                  have hb2 := oT_bd bs (N := N) (P := p) (by omega) m q
                  have HS2 := hidd (HK2.out.store HSTP.out)
                  generalize oT bs N p m q = x at cq hb2 HS2
                  clear hc2 hq
                  go_wp2_with fail
                  go_roundw
                  case rel => exact ⟨m + 1, by omega, by go_num, HS2.out⟩
                  case measure => simp [intOf]; omega
                · have HE2 := hidd (oT_end bs (N := N) (P := p) (k := m) (by omega))
                  have HS2 := hidd (show RelOo N (oS bs N (p + 1)) w3 wr from ⟨by rw [← HE2.out]; exact HK2.out.1, HK2.out.2⟩)
                  go_wp2_with fail
                  go_roundw
                  case rel => exact ⟨p + 1, by omega, by go_num, HS2.out⟩
                  case measure => simp [intOf]; omega
            · obtain rfl : p = N := by omega
              have HF := hidd (show Blk wr w3.heap.size (icells (ordL bs p)).toArray 2 by rw [← oS_done]; exact HK.out.1)
              go_wp2_with fail
              go_ret2
              rw [HE.out.1, HE.out.2]
              exact ⟨some ⟨w3.heap.size, 0, none⟩, p, by rw [ordL_len]; rfl, own_blk HF.out hsz3, G3.out.2.1.trans (HK.out.2.mono G3.out.2.1.size)⟩
    · obtain ⟨e1, e2⟩ := or_bad (n := n) (k := k) (bs := bs) (m := 5) (by unfold orC; rw [if_pos hi, if_neg (fun h => hk h.1)]) (by omega)
      have HE := hidd (And.intro e1 e2)
      have hd : (k != 2) = true := by rw [bne_iff_ne]; exact hk
      clear hi hk e1 e2
      go_enter Tryd.func17, Tryd.ntmps17
      go_wp2_with (refine wpList_load_row rfl 28 (.tmp 1) rfl w.heap.size rfl 28 _ (0,0) _ HA.out.1 Tryd.underlying28 rfl HS.out ?_)
      refine (implIs_any n k bs hb _).mono ?_
      rintro e w1 ⟨rfl, hb1⟩
      rw [HI.out]
      have G1 := hidd (And.intro (HA.out.1.below hb1 HA.out.1.lt) (HA.out.2.trans (hb1.mono (by simp))))
      have c1 := G1.out.1.cell HC1.out
      clear hb1
      go_wp2_with fail
      go_ret2
      rw [HE.out.1, HE.out.2]
      exact lout_nil rfl G1.out.2
end Go.Proofs.YtmeihpakbhfipaaDoor
