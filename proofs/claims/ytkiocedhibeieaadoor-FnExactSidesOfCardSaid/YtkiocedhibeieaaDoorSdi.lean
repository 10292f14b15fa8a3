/- SidesOf: the program. -/
import Derived.Test.YtkiocedhibeieaaDoorSdp
import Derived.Test.YtkiocedhibeieaaDoorSdq
namespace Go.Proofs.YtkiocedhibeieaaDoor
set_option linter.unusedVariables false
set_option linter.unusedSimpArgs false
open Go Go.RowKit Go.Shelf
attribute [local go_sem] Oper.semAt_some
/-- graph.sides tells whether there are sides, and which. -/
theorem okA_iff {N : Nat} {F : Nat → Nat} (hF : Nbrs N F) : (okA N F = true) ↔ ∃ f, Sds N F f := by
  constructor
  · intro h
    refine ⟨_, sds_made hF fun b hb => ?_⟩
    by_cases e : arU F (sdS N F b) 17 &&& sdS N F b = 0
    · exact e
    · rw [okA_no hb e] at h; cases h
  · rintro ⟨f, hf⟩
    exact okA_yes (sds_apart hF hf 0 (by omega)) (sds_apart hF hf 1 (by omega))
theorem setL_mem {X q : Nat} : ((q : Int) ∈ setL X) ↔ q < 17 ∧ X.testBit q = true := by
  unfold setL rv
  rw [List.mem_map]
  constructor
  · rintro ⟨a, h1, h2⟩
    rw [List.mem_reverse] at h1
    have e : a = q := by omega
    subst e
    exact setD_mem.1 h1
  · intro h
    exact ⟨q, List.mem_reverse.2 (setD_mem.2 h), rfl⟩
theorem setL_get {X m : Nat} (h : m < (setL X).length) : ∃ q : Nat, (setL X).getD m 0 = (q : Int) ∧ q < 17 ∧ X.testBit q = true := by
  have h1 : (setL X)[m] ∈ setL X := List.getElem_mem h
  have h2 : (setL X).getD m 0 = (setL X)[m] := by simp [List.getD, h]
  have h3 : ∃ a : Nat, (setL X)[m] = (a : Int) := by
    have h4 := h1
    generalize (setL X)[m] = x at h4
    unfold setL rv at h4
    obtain ⟨a, _, e⟩ := List.mem_map.1 h4
    exact ⟨a, e.symm⟩
  obtain ⟨a, ha⟩ := h3
  rw [ha] at h1 h2
  exact ⟨a, h2, setL_mem.1 h1⟩
def fS (X m q : Nat) : Int := if (q : Int) ∈ (setL X).take m then 1 else 0
theorem fS_zero (N X : Nat) : (icells (fl N (fS X 0))).toArray = zrow N := by
  rw [zrow_icells]
  congr 2
  apply List.ext_getElem
  · simp [fl]
  · intro i h1 h2
    simp [fl, fS]
theorem fS_step {N X m q : Nat} (hm : m < (setL X).length) (hq : (setL X).getD m 0 = (q : Int)) : (fl N (fS X m)).set q 1 = fl N (fS X (m + 1)) := by
  have hget : (setL X)[m] = (q : Int) := by simpa [List.getD, List.getElem?_eq_getElem hm] using hq
  have htake : (setL X).take (m + 1) = (setL X).take m ++ [(q : Int)] := by rw [List.take_succ_eq_append_getElem hm, hget]
  refine fl_set _ _ _ ?_ fun r _ hr => ?_
  · unfold fS
    rw [htake, if_pos (by simp)]
  · unfold fS
    rw [htake]
    have : ((r : Int) ∈ (setL X).take m ++ [(q : Int)]) ↔ (r : Int) ∈ (setL X).take m := by
      rw [List.mem_append, List.mem_singleton]
      exact ⟨fun h => h.resolve_right (by omega), .inl⟩
    simp only [this]
theorem fS_end {N X m : Nat} (hN : N ≤ 17) (hm : (setL X).length ≤ m) : fl N (fS X m) = fl N (sd1 fun q => X.testBit q) := fl_congr fun q hq => by
  unfold fS sd1
  rw [List.take_of_length_le hm]
  simp only [setL_mem]
  have h : q < 17 := by omega
  simp [h]
theorem fl_cell {w : World} {h N q : Nat} {f : Nat → Int} (hB : Blk w h (icells (fl N f)).toArray 2) (hq : q < N) : w.cell? ⟨h, q, none⟩ = some (.int .i64 (f q)) := by
  have h1 := icells_get (zs := fl N f) (j := q) (by rw [fl_len]; exact hq)
  rw [fl_get f hq] at h1
  exact hB.cell h1
theorem fl_store {w : World} {h N q : Nat} {f g : Nat → Int} {v : Int} (hB : Blk w h (icells (fl N f)).toArray 2) (e : (fl N f).set q v = fl N g) : Blk (w.setCell ⟨h, q, none⟩ (.int .i64 v)) h (icells (fl N g)).toArray 2 := by
  have s := hB.same q (.int .i64 v)
  rw [icells_set, e] at s
  exact s
/-- A list of the call's own that is filled in place; a list beside it that is read. -/
def RelSi (g : Nat) (a : Option Addr) (Ls : List Int) (N : Nat) (f : Nat → Int) (w wr : World) : Prop :=
  Blk wr g (icells (fl N f)).toArray 2 ∧ OwnL wr (g + 1) a Ls ∧ Below w.heap.size w wr ∧ w.heap.size ≤ g
theorem RelSi.store {g : Nat} {a : Option Addr} {Ls : List Int} {N q : Nat} {f f' : Nat → Int} {w wr : World} {v : Int} (h : RelSi g a Ls N f w wr) (e : (fl N f).set q v = fl N f') : RelSi g a Ls N f' w (wr.setCell ⟨g, q, none⟩ (.int .i64 v)) := by
  refine ⟨fl_store h.1 e, ?_, h.2.2.1.setCell (p := ⟨g, q, none⟩) h.2.2.2 _, h.2.2.2⟩
  rcases h.2.1 with h | ⟨b, C, h1, h2, h3, h4⟩
  · exact .inl h
  · exact .inr ⟨b, C, h1, h2, (heap_setCell_other wr ⟨g, q, none⟩ b _ (by show b ≠ g; omega)).trans h3, h4⟩
theorem ownL_fl {w : World} {B g N : Nat} {f : Nat → Int} (hB : B ≤ g) (h : Blk w g (icells (fl N f)).toArray 2) : OwnL w B (some ⟨g, 0, none⟩) (fl N f) := by
  refine .inr ⟨g, _, hB, rfl, h, by simp [icells_len], fun j hj => ?_⟩
  have h1 := icells_get (zs := fl N f) (j := j) hj
  exact h1
set_option maxRecDepth 100000 in
set_option maxHeartbeats 4000000 in
theorem impl40_good (N : Nat) (k : Int) (bs : List Nat) (hb : Bys bs) (c : Int) (n1 : 1 ≤ N) (n2 : N ≤ 17) (h0 : given (N : Int) k bs c [] = 0) (w : World) (hT : Tz w) (hw0 : 0 < w.heap.size) :
    Calls Tryd.prog 40 #[.agg (ccells (N : Int) k bs).toArray, .int .i64 c] w (LOut w (sdR N (nsF bs c (eseq N))) (sdC N (nsF bs c (eseq N)))) := by
  have HS := hidd (size_c26 (N : Int) k hb)
  have hgood := given_cases h0
  have HG := hidd (fun W => graph63_0 N k c bs hb W n1 n2 hgood.1 hgood.2)
  have hN := nsF_nbrs bs c n2
  obtain ⟨F, hF⟩ : ∃ F, F = nsF bs c (eseq N) := ⟨_, rfl⟩
  rw [← hF] at hN HG ⊢
  have HSD := hidd (fun W hW hp => sides70 N F hN n1 W hW hp)
  obtain ⟨U, hU⟩ : ∃ U, U = 2 ^ N - 1 := ⟨_, rfl⟩
  rw [← hU] at HG HSD
  have Hz := zero79
  have HZ1 := hidd (size79 U F)
  have HO1 := hidd (show (gcell 0 fun _ => 0).toArray.size = (gcell U F).toArray.size by simp [gcell_len])
  have HA1 := hidd (gcell_one U F)
  have HC0 := hidd (show (ccells (N : Int) k bs).toArray[0]? = some (.int .i64 (N : Int)) from rfl)
  have HT := hidd hT
  have HIF := okA_iff hN
  cases hok : okA N F with
  | false =>
    rw [hok] at HIF HSD
    have hno : ¬ ∃ f, Sds N F f := fun h => by have := HIF.2 h; cases this
    rw [sdR_no hno, sdC_no hno]
    clear hT h0 hgood hF hU hN HIF hno hok
    go_enter Tryd.func40, Tryd.ntmps40
    go_wp2_with (refine wpList_load_row rfl 28 (.tmp 2) rfl w.heap.size rfl 28 _ (0,0) _ (Blk.new _ _ _ _ rfl) Tryd.underlying28 rfl HS.out ?_)
    refine (HG.out _).mono ?_
    rintro e w1 ⟨rfl, hb1⟩
    have b1 := (((Below.refl w.heap.size w).alloc (Nat.le_refl _) (.cells (ccells (N : Int) k bs).toArray 28)).trans (hb1.mono (by simp)))
    have B1 : Below w1.heap.size w1 ((w1.alloc (.cells (gcell 0 fun _ => 0).toArray 79)).setRow w1.heap.size (gcell U F).toArray) := below_setRow ((Below.refl _ _).alloc (Nat.le_refl _) _) (Nat.le_refl _) _
    have b2 := b1.trans (B1.mono b1.size)
    have G1 := hidd (And.intro ((Blk.new w1 (gcell 0 fun _ => 0).toArray 79 _ rfl).rowSame (gcell U F).toArray) (And.intro b2 (HT.out.below b2 hw0)))
    clear hb1 b1 B1 b2
    go_wp2_with (first
      | (refine wpList_store_row rfl 79 (.tmp 6) (.tmp 17) rfl w1.heap.size _ rfl rfl 79 _ (Blk.new _ _ _ _ rfl) HZ1.out HO1.out HA1.out ?_)
      | (refine wpList_load_row rfl 79 (.tmp 6) rfl w1.heap.size rfl 79 _ (0,0) _ G1.out.1 Tryd.underlying79 rfl HZ1.out ?_))
    refine (HSD.out _ G1.out.2.2 (by have := G1.out.2.1.size; omega)).mono ?_
    rintro e w2 ⟨rfl, hb2⟩
    have G2 := hidd (G1.out.2.1.trans (hb2.mono G1.out.2.1.size))
    clear hb2
    go_wp2_with fail
    go_ret2
    exact lout_nil rfl G2.out
  | true =>
    rw [hok] at HIF HSD
    obtain ⟨f, hf⟩ := HIF.1 rfl
    obtain ⟨X, hX⟩ : ∃ X, X = sdS N F 1 := ⟨_, rfl⟩
    rw [if_pos rfl, ← hX] at HSD
    have hX17 : X < 2 ^ 17 := by rw [hX]; exact sdS_lt hN
    have hXb : ∀ q, X.testBit q = true ↔ q < N ∧ f q = true := fun q => by rw [hX]; simpa using sds_found hN hf 1 (by omega) q
    have hres : sdR N F = fl N (sd1 fun q => X.testBit q) := by
      rw [sdR_yes hN hf]
      exact fl_congr fun q hq => by
        unfold sd1
        have := hXb q
        simp only [this, hq, true_and]
    rw [hres, sdC_yes ⟨f, hf⟩]
    have HXN := hidd (fun q (h : X.testBit q = true) => ((hXb q).1 h).1)
    have HP := hidd (fun W hW hp => points47X X hX17 W hW hp)
    have hl17 : (setL X).length ≤ 17 := setL_17 hX17
    have hmk := make29 N (by omega)
    clear hT h0 hgood hF hU hN HIF hok hf hX hXb hres
    go_enter Tryd.func40, Tryd.ntmps40
    go_wp2_with (refine wpList_load_row rfl 28 (.tmp 2) rfl w.heap.size rfl 28 _ (0,0) _ (Blk.new _ _ _ _ rfl) Tryd.underlying28 rfl HS.out ?_)
    refine (HG.out _).mono ?_
    rintro e w1 ⟨rfl, hb1⟩
    have b1 := (((Below.refl w.heap.size w).alloc (Nat.le_refl _) (.cells (ccells (N : Int) k bs).toArray 28)).trans (hb1.mono (by simp)))
    have B1 : Below w1.heap.size w1 ((w1.alloc (.cells (gcell 0 fun _ => 0).toArray 79)).setRow w1.heap.size (gcell U F).toArray) := below_setRow ((Below.refl _ _).alloc (Nat.le_refl _) _) (Nat.le_refl _) _
    have b2 := b1.trans (B1.mono b1.size)
    have k1 := (Blk.new w (ccells (N : Int) k bs).toArray 28 _ rfl).below hb1 (by simp)
    have k2 := k1.below B1 k1.lt
    have G1 := hidd (And.intro ((Blk.new w1 (gcell 0 fun _ => 0).toArray 79 _ rfl).rowSame (gcell U F).toArray) (And.intro b2 (And.intro (HT.out.below b2 hw0) k2)))
    clear hb1 b1 B1 b2 k1 k2
    go_wp2_with (first
      | (refine wpList_store_row rfl 79 (.tmp 6) (.tmp 17) rfl w1.heap.size _ rfl rfl 79 _ (Blk.new _ _ _ _ rfl) HZ1.out HO1.out HA1.out ?_)
      | (refine wpList_load_row rfl 79 (.tmp 6) rfl w1.heap.size rfl 79 _ (0,0) _ G1.out.1 Tryd.underlying79 rfl HZ1.out ?_))
    refine (HSD.out _ G1.out.2.2.1 (by have := G1.out.2.1.size; omega)).mono ?_
    rintro e w2 ⟨rfl, hb2⟩
    have b3 := G1.out.2.1.trans (hb2.mono G1.out.2.1.size)
    have k3 := G1.out.2.2.2.below hb2 G1.out.2.2.2.lt
    have a3 : Below w2.heap.size w2 (w2.alloc (.cells (zrow N) 2)) := (Below.refl _ _).alloc (Nat.le_refl _) _
    have k4 := (Blk.new w2 (zrow N) 2 _ rfl)
    have G2 := hidd (And.intro b3 (And.intro k4 (And.intro (HT.out.below (b3.trans (a3.mono b3.size)) hw0) (b3.trans (a3.mono b3.size)))))
    have cN := k3.cell HC0.out
    have hsz2 := b3.size
    clear hb2 b3 k3 a3 k4
    go_wp2_with fail
    refine (HP.out _ G2.out.2.2.1 (by simp)).mono ?_
    rintro e w3 ⟨a, cap, rfl, ho, hb3⟩
    have HR0 := hidd (show RelSi w2.heap.size a (setL X) N (fS X 0) w w3 from ⟨by rw [fS_zero]; exact G2.out.2.1.below hb3 G2.out.2.1.lt, by simpa using ho, G2.out.2.2.2.trans (hb3.mono G2.out.2.2.2.size), hsz2⟩)
    clear ho hb3 cN hmk
    go_wp2_with fail
    go_loopw [35] (fun e wr => ∃ m : Nat, m ≤ (setL X).length ∧ e = .int .i64 (m : Int) ∧ Hid (RelSi w2.heap.size a (setL X) N (fS X m) w wr)) (fun e _ => (setL X).length - (intOf e).toNat)
    case atStart => exact ⟨0, Nat.zero_le _, rfl, HR0⟩
    case round =>
      clear HR0
      obtain ⟨m, hm, rfl, HK⟩ := hrel
      by_cases hlt : m < (setL X).length
      · have hltI : decide ((m : Int) < ((setL X).length : Int)) = true := by simp; omega
        obtain ⟨q, hq, hq17, hqX⟩ := setL_get hlt
        have hqN := HXN.out q hqX
        have HS2 := hidd (HK.out.store (fS_step hlt hq))
        rcases HK.out.2.1 with e | ⟨b2, C, h1, h2, h3, h4, h5⟩
        · rw [e] at hlt; simp at hlt
        subst h2
        have cm := h3.cell (h5 m hlt)
        rw [hq] at cm
        have cq := fl_cell HK.out.1 hqN
        have fq := HK.out.1.fro q
        obtain ⟨ln, hln⟩ : ∃ ln, ln = (setL X).length := ⟨_, rfl⟩
        rw [← hln] at hlt hltI hl17 hm ⊢
        clear h3 h4 h5 hq
        go_wp2_with fail
        go_roundw
        case rel => exact ⟨m + 1, by omega, by go_num, HS2⟩
        case measure => simp [intOf]; omega
      · have hltI : decide ((m : Int) < ((setL X).length : Int)) = false := by simp; omega
        have K9 := hidd (show OwnL wr w.heap.size (some ⟨w2.heap.size, 0, none⟩) (fl N (sd1 fun q => X.testBit q)) ∧ Below w.heap.size w wr by
          rw [← fS_end (m := m) n2 (by omega)]
          exact ⟨ownL_fl HK.out.2.2.2 HK.out.1, HK.out.2.2.1⟩)
        go_wp2_with fail
        go_ret2
        exact ⟨_, N, by rw [fl_len]; rfl, K9.out.1, K9.out.2⟩
set_option maxRecDepth 100000 in
theorem impl40 (n k : Int) (bs : List Nat) (hb : Bys bs) (c : Int) (w : World) (hT : Tz w) (hw0 : 0 < w.heap.size) :
    Calls Tryd.prog 40 #[.agg (ccells n k bs).toArray, .int .i64 c] w (LOut w (sdL n k bs c) (sdCode n k bs c)) := by
  by_cases h0 : given n k bs c [] = 0
  · obtain ⟨n1, n2, k1, k2⟩ := isCol_bd (given_cases h0).1
    obtain ⟨N, rfl⟩ := Int.eq_ofNat_of_zero_le (show 0 ≤ n by omega)
    unfold sdL sdCode
    rw [if_pos h0, if_pos h0, Int.toNat_natCast]
    exact impl40_good N k bs hb c (by omega) (by omega) h0 w hT hw0
  · unfold sdL sdCode
    rw [if_neg h0, if_neg h0]
    have HS := hidd (size_c26 n k hb)
    have HG := hidd (fun W => graph63_e n k c bs hb W h0)
    have Hz := zero79
    have HZ1 := hidd (size79 0 fun _ => 0)
    have HO1 := hidd (show (gcell 0 fun _ => 0).toArray.size = (gcell 0 fun _ => 0).toArray.size from rfl)
    have HA1 := hidd (gcell_one 0 fun _ => 0)
    obtain ⟨m, hm⟩ : ∃ m, m = given n k bs c [] := ⟨_, rfl⟩
    rw [← hm] at HG ⊢
    have hne : (m != 0) = true := by rw [bne_iff_ne, hm]; exact h0
    clear h0 hm
    go_enter Tryd.func40, Tryd.ntmps40
    go_wp2_with (refine wpList_load_row rfl 28 (.tmp 2) rfl w.heap.size rfl 28 _ (0,0) _ (Blk.new _ _ _ _ rfl) Tryd.underlying28 rfl HS.out ?_)
    refine (HG.out _).mono ?_
    rintro e w1 ⟨rfl, hb1⟩
    have b1 := (((Below.refl w.heap.size w).alloc (Nat.le_refl _) (.cells (ccells n k bs).toArray 28)).trans (hb1.mono (by simp)))
    have B1 : Below w1.heap.size w1 ((w1.alloc (.cells (gcell 0 fun _ => 0).toArray 79)).setRow w1.heap.size (gcell 0 fun _ => 0).toArray) := below_setRow ((Below.refl _ _).alloc (Nat.le_refl _) _) (Nat.le_refl _) _
    have G2 := hidd (b1.trans (B1.mono b1.size))
    clear hb1 b1 B1
    go_wp2_with (refine wpList_store_row rfl 79 (.tmp 6) (.tmp 17) rfl w1.heap.size _ rfl rfl 79 _ (Blk.new _ _ _ _ rfl) HZ1.out rfl HA1.out ?_)
    go_ret2
    exact lout_nil rfl G2.out
end Go.Proofs.YtkiocedhibeieaaDoor
