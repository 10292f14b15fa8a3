/- FullCliques: the program's loop over the cliques. -/
import Derived.WalkMore
import Derived.Test.YtkiocedhibeieaaDoorFlh
namespace Go.Proofs.YtkiocedhibeieaaDoor
set_option linter.unusedVariables false
set_option linter.unusedSimpArgs false
open Go Go.RowKit Go.Shelf
attribute [local go_sem] Oper.semAt_some
def RelFi {N : Nat} (C : Array Value) (F : Nat → Nat) (w : World) (b6 b7 B : Nat) (pre : List (Cl N)) (W : World) : Prop :=
  Cl3 C w W ∧ (∃ v, Blk W b6 #[v] 37 ∧ LLW W B v (flF F pre)) ∧ (flF F pre).length ≤ 200 ∧ B ≤ W.heap.size ∧ Blk W b7 (ncell F).toArray 73
def RelFy {N : Nat} (F : Nat → Nat) (w : World) (c : Code) (pre : List (Cl N)) (W : World) : Prop :=
  c = .ret ∧ Below w.heap.size w W ∧ 200 < (flF F pre).length ∧ Blk W (w.heap.size + 1) #[.slice none 0 0] 37 ∧ Blk W (w.heap.size + 1 + 1) #[.int .i64 3] 2
set_option maxRecDepth 100000 in
set_option maxHeartbeats 1000000 in
theorem impl28_0 (N : Nat) (k c : Int) (bs : List Nat) (hb : Bys bs) (w : World) (N1 : 1 ≤ N) (N2 : N ≤ 17) (hi : isCol (N : Int) k bs = true) (hc : belowB c k = true) (hT : Tz w) (hw0 : 0 < w.heap.size) :
    Calls Tryd.prog 28 #[.agg (ccells (N : Int) k bs).toArray, .int .i64 c] w
      (LLOut w (if (fcS N bs c).length ≤ 200 then (fcS N bs c).map rv else []) (if (fcS N bs c).length ≤ 200 then 0 else 3)) := by
  have hfn : ∀ f, Fence.wide.fn f := fun _ => trivial
  have HS := hidd (size_c26 (N : Int) k hb)
  have HQ := hidd (fun W => cliques48 N k c bs hb W N1 N2)
  have HNR := hidd (fun W => near57 N k c bs hb W N1 N2)
  have hF := fun p => nsF_lt bs c (eseq N) p
  have hsym := nsF_sym bs c (eseq N) N2
  have HAL := hidd (fun (xs : List (Cl N)) h => flF_all (bs := bs) (c := c) N2 (xs := xs) h)
  have HMO := hidd (fun (xs : List (Cl N)) rest h => flF_more (bs := bs) (c := c) N2 (xs := xs) (rest := rest) h)
  obtain ⟨F, hFe⟩ : ∃ F, F = nsF bs c (eseq N) := ⟨_, rfl⟩
  rw [← hFe] at HQ HNR hF hsym HAL HMO
  have HF := hidd hF
  have HSY := hidd hsym
  have HI := hidd hi
  have HC := hidd hc
  have HT := hidd hT
  have HC1 := hidd (show (ccells (N : Int) k bs).toArray[1]? = some (.int .i64 k) from rfl)
  have HC0 := hidd (show (ccells (N : Int) k bs).toArray[0]? = some (.int .i64 (N : Int)) from rfl)
  have H3 := hidd (cl3_start (ccells (N : Int) k bs).toArray w)
  clear hFe hF hsym hi hc hT
  obtain ⟨LR, hLR⟩ : ∃ LR, LR = if (fcS N bs c).length ≤ 200 then (fcS N bs c).map rv else [] := ⟨_, rfl⟩
  obtain ⟨CR, hCR⟩ : ∃ CR : Int, CR = if (fcS N bs c).length ≤ 200 then 0 else 3 := ⟨_, rfl⟩
  rw [← hLR, ← hCR]
  have HR3 := hidd (fun (h : ¬ (fcS N bs c).length ≤ 200) => (And.intro (by rw [hLR, if_neg h]) (by rw [hCR, if_neg h]) : LR = [] ∧ CR = 3))
  have HR0 := hidd (fun (h : (fcS N bs c).length ≤ 200) => (And.intro (by rw [hLR, if_pos h]) (by rw [hCR, if_pos h]) : LR = (fcS N bs c).map rv ∧ CR = 0))
  clear hLR hCR
  have Hz := zero84
  have HZN := hidd (size_n F)
  have HON := hidd (show (ncell fun _ => 0).toArray.size = (ncell F).toArray.size by simp [ncell_len])
  have HAN := hidd (ncell_one F)
  obtain ⟨t0, hi2, hz0, hz1, hz3⟩ := info_parts info25
  have HIF := hidd (And.intro hi2 (And.intro hz0 (And.intro hz1 hz3)))
  clear hi2 hz0 hz1 hz3
  refine (callsIn_wide (n := 8)).1 (callsIn_of_wp_marks Tryd.func28 rfl trivial ?_ rfl)
  simp only [Tryd.ntmps28, List.size_toArray, List.length_cons, List.length_nil, Nat.reduceAdd, Nat.reduceSub, Array.replicate_succ, Array.replicate_zero, List.push_toArray, List.append_toArray, List.nil_append, List.cons_append]
  gi_wp2_with fail
  refine wpIn_scope_straight ?_
  gi_wp2_with (refine inLoadRow rfl 28 (.tmp 2) rfl w.heap.size rfl 28 _ _ H3.out.1 Tryd.underlying28 rfl HS.out ?_)
  refine (callsIn_wide.2 (implIs_any (N : Int) k bs hb _)).mono ?_
  rintro e w1 ⟨rfl, hb1⟩
  rw [HI.out]
  have G := hidd (H3.out.below hb1)
  have c1 := G.out.1.cell HC1.out
  clear hb1
  have G8 := hidd (G.out.below ((Below.refl w1.heap.size w1).alloc (Nat.le_refl _) (.cells #[.slice none 0 0] 37)))
  have B8 := hidd (Blk.new w1 #[.slice none 0 0] 37 _ rfl)
  gi_wp2_with fail
  refine (callsIn_wide.2 (below61 _ _ _)).mono ?_
  rintro e w' ⟨rfl, rfl⟩
  rw [HC.out]
  gi_wp2_with (refine inLoadRow rfl 28 (.tmp 2) rfl w.heap.size rfl 28 _ _ G8.out.1 Tryd.underlying28 rfl HS.out ?_)
  refine (callsIn_wide.2 (HNR.out _)).mono ?_
  rintro e w5 ⟨rfl, hb5⟩
  have G9 := hidd (G8.out.below hb5)
  have B9 := hidd (B8.out.below hb5 B8.out.lt)
  clear hb5 c1
  have ha7 : Below w5.heap.size w5 ((w5.alloc (.cells (ncell fun _ => 0).toArray 73)).setRow w5.heap.size (ncell F).toArray) := below_setRow ((Below.refl _ _).alloc (Nat.le_refl _) _) (Nat.le_refl _) _
  have G7 := hidd (And.intro (G9.out.below ha7) (And.intro (B9.out.below ha7 B9.out.lt) ((Blk.new w5 (ncell fun _ => 0).toArray 73 _ rfl).rowSame (ncell F).toArray)))
  clear ha7
  gi_wp2_with (first
    | (refine inStoreRow rfl 73 (.tmp 7) (.tmp 20) rfl w5.heap.size _ rfl rfl 73 _ (Blk.new _ _ _ _ rfl) HZN.out HON.out HAN.out ?_)
    | (refine inLoadRow rfl 28 (.tmp 2) rfl w.heap.size rfl 28 _ _ G7.out.1.1 Tryd.underlying28 rfl HS.out ?_))
  refine wpIn_label ?_
  gi_wp2_with (refine inLoadRow rfl 28 (.tmp 2) rfl w.heap.size rfl 28 _ _ G7.out.1.1 Tryd.underlying28 rfl HS.out ?_)
  refine (callsIn_wide.2 (HQ.out _)).mono ?_
  rintro e W0 ⟨bx, bn, rfl, hBx, hBn, hb1⟩
  have GW := hidd (And.intro (G7.out.1.below hb1) (And.intro (G7.out.2.1.below hb1 G7.out.2.1.lt) (G7.out.2.2.below hb1 G7.out.2.2.lt)))
  clear hb1
  gi_wp2
  refine wpIn_rangeFunc_ownH rfl (by omega) (gf := 77) (lb := #[.pointer (some ⟨bx, 0, none⟩), .pointer (some ⟨bn, 0, none⟩)]) rfl trivial (enters_of Tryd.func77 (by kernel_rfl) rfl)
    (seq58 6 bx bn N k bs hb F N1 N2 HF.out HSY.out W0 hBx hBn) kpC_t (kpC_b hBx.lt hBn.lt) (Below.refl _ _) (fun _ => rfl)
    (fun pre W => RelFi (ccells (N : Int) k bs).toArray F w w1.heap.size w5.heap.size W0.heap.size pre W)
    (fun c pre W => RelFy F w c pre W)
    (fun s A B row hs hg hr => ⟨cl3_own hs.1 GW.out.1.2.2.2.size hg hr, by
      obtain ⟨v, h1, h2⟩ := hs.2.1
      exact ⟨v, blk_own h1 hg hr, h2.grow hg (fun r e => (hr r e).2)⟩, hs.2.2.1, Nat.le_trans hs.2.2.2.1 hg.size, blk_own hs.2.2.2.2 hg hr⟩)
    (fun c s A B row hs hg hr => ⟨hs.1, ownFrom_below (β := Unit) (Nat.le_refl _) GW.out.1.2.2.2.size () A B row hs.2.1 hg hr, hs.2.2.1, blk_own hs.2.2.2.1 hg hr, blk_own hs.2.2.2.2 hg hr⟩)
    ⟨GW.out.1, ⟨_, GW.out.2.1, LLW.nil _ _⟩, by simp [flF], Nat.le_refl _, GW.out.2.2⟩
    (fun x a' W => a' = { tmps := #[.agg (ccells (N : Int) k bs).toArray, .int .i64 c, .pointer (some ⟨w.heap.size, 0, none⟩), undef, .pointer (some ⟨w.heap.size + 1, 0, none⟩), .pointer (some ⟨w.heap.size + 1 + 1, 0, none⟩), .pointer (some ⟨w1.heap.size, 0, none⟩), .pointer (some ⟨w5.heap.size, 0, none⟩), .int .u32 (bitS x.1 : Nat), undef, .agg (ccells (N : Int) k bs).toArray, .bool true, .bool false, .int .i64 c, .pointer (some ⟨w.heap.size, 1, none⟩), .int .i64 k, .bool true, .bool false, .agg (ccells (N : Int) k bs).toArray, .int .i64 c, .agg (ncell F).toArray, .agg (ccells (N : Int) k bs).toArray, .int .i64 c, .func (.func 77) #[] #[.pointer (some ⟨bx, 0, none⟩), .pointer (some ⟨bn, 0, none⟩)], .int .u32 (bitS x.1 : Nat), undef, undef, undef, undef, undef, undef, undef, undef, undef, undef, undef, undef, undef, undef, undef, undef, undef, undef, undef], defers := [] })
    (fun x a' s A B row hs hg hr => hs) ?assign ?body ?done ?stop
  case assign =>
    intro l pre x W Kx hI hK
    have HI := hidd hI
    have HK := hidd hK
    clear hI hK
    dsimp only [encC]
    gi_wp2
    exact HK.out _ _ (KeepsFrom.refl _ _) ⟨rfl, rfl⟩ HI.out rfl
  case body =>
    rintro l pre x a' W hl _ ⟨g4, g8, gL, gB, g7⟩ rfl hlen
    obtain ⟨xs1, xs2, xs3⟩ := x.2
    have hX17 : bitS x.1 < 2 ^ 17 := bitS_lt _ (fun q hq => by have := xs2 q hq; omega)
    have HFI := hidd (fun p (hp : p < N) W => (show Calls Tryd.prog 61 #[.agg (ncell F).toArray, .int .u32 (bitS x.1 : Nat), .int .i64 (p : Int)] W fun e w' => e = .returned (.bool (fitR F x.1 p)) ∧ Below W.heap.size W w' by
      have h := fits59 F (bitS x.1) p (HF.out p) hX17 (by omega) W
      rw [adn_is (fun q hq => by have := xs2 q hq; omega) (fun q hq => HSY.out p q hp (xs2 q hq))] at h
      exact h))
    have HG := hidd (And.intro g4 (And.intro g8 (And.intro gL (And.intro gB g7))))
    have HX2 := hidd xs2
    have HX1 := hidd xs1
    have c0 := g4.1.cell HC0.out
    have HP := hidd (fun W hW h0 => points47 x.1 xs1 (fun q hq => by have := xs2 q hq; omega) W hW h0)
    obtain ⟨X, hX⟩ : ∃ X, X = bitS x.1 := ⟨_, rfl⟩
    rw [← hX] at HFI HP hX17 ⊢
    clear hX g4 g8 gL gB g7 xs1 xs2 xs3
    have HR0 := hidd (Below.refl W.heap.size W)
    gi_wp2_with fail
    gi_loopw [27] (fun e wr => ∃ p : Nat, p ≤ N ∧ e = .int .i64 (p : Int) ∧ Hid (∀ q, q < p → fitR F x.1 q = false) ∧ Hid (Below W.heap.size W wr)) (fun e _ => N - (intOf e).toNat)
    case atStart => exact ⟨0, Nat.zero_le _, rfl, hidd (fun q hq => absurd hq (by omega)), HR0⟩
    case round =>
    clear HR0
    obtain ⟨p, hp, rfl, HNO, HB⟩ := hrel
    by_cases hlt : p < N
    · have hltI : decide ((p : Int) < (N : Int)) = true := by simp; omega
      have g7 := HG.out.2.2.2.2.below HB.out HG.out.2.2.2.2.lt
      have HFP := hidd (HFI.out p hlt)
      cases hf : fitR F x.1 p with
      | true =>
        rw [hf] at HFP
        have HD := hidd (flF_skip (pre := pre) (fulB_not hlt hf))
        clear hf
        gi_wp2_with (refine inLoadRow rfl 73 (.tmp 7) rfl w5.heap.size rfl 73 _ _ g7 Tryd.underlying73 rfl HZN.out ?_)
        refine (CallsIn.inRound _ (callsIn_wide.2 (HFP.out _))).mono ?_
        rintro e w6 ⟨rfl, hb6⟩
        have hbW := HB.out.trans (hb6.mono HB.out.size)
        have hWx := Nat.lt_of_lt_of_le hBx.lt HG.out.2.2.2.1
        have hWn := Nat.lt_of_lt_of_le hBn.lt HG.out.2.2.2.1
        have K1 := hidd (show RelFi (ccells (N : Int) k bs).toArray F w w1.heap.size w5.heap.size W0.heap.size (pre ++ [x]) w6 from ⟨HG.out.1.below hbW, by
          obtain ⟨v, h1, h2⟩ := HG.out.2.1
          exact ⟨v, h1.below hbW h1.lt, by rw [HD.out]; exact h2.below hbW (Nat.le_refl _)⟩, by rw [HD.out]; exact HG.out.2.2.1, Nat.le_trans HG.out.2.2.2.1 hbW.size, HG.out.2.2.2.2.below hbW HG.out.2.2.2.2.lt⟩)
        have K2 := hidd (show KpC bx bn W w6 from ⟨hbW.block _ hWx, hbW.block _ hWn⟩)
        have K3 := hidd (keeps_below (B := W0.heap.size) hbW)
        clear hbW hb6 c0 g7
        gi_wp2_with fail
        exact ⟨K3.out, K2.out, K1.out⟩
      | false =>
        rw [hf] at HFP
        have HN2 := hidd (show ∀ q, q < p + 1 → fitR F x.1 q = false from fun q hq => by
          by_cases e : q = p
          · subst e; exact hf
          · exact HNO.out q (by omega))
        clear hf
        gi_wp2_with (refine inLoadRow rfl 73 (.tmp 7) rfl w5.heap.size rfl 73 _ _ g7 Tryd.underlying73 rfl HZN.out ?_)
        refine (CallsIn.inRound _ (callsIn_wide.2 (HFP.out _))).mono ?_
        rintro e w6 ⟨rfl, hb6⟩
        have HB2 := hidd (HB.out.trans (hb6.mono HB.out.size))
        clear hb6 c0 g7
        gi_wp2_with fail
        go_roundw
        case rel => exact ⟨p + 1, by omega, by go_num, HN2, HB2⟩
        case measure => simp [intOf]; omega
    · have hltI : decide ((p : Int) < (N : Int)) = false := by simp; omega
      obtain ⟨w', rfl⟩ : ∃ w', w' = wr := ⟨_, rfl⟩
      have hw' := HB.out
      have HD0 := flF_take (pre := pre) (fulB_of (R := F) (N := N) (s := x.1) fun q hq => HNO.out q (by omega))
      have hle : x.1.length = (rv x.1).length := (rv_len _).symm
      have hP := HP.out
      rw [hle] at hP
      obtain ⟨v8, h8, hW8⟩ := HG.out.2.1
      obtain ⟨a8, c8, rfl⟩ := hW8.shape
      obtain ⟨Z, hZ⟩ : ∃ Z, Z = rv x.1 := ⟨_, rfl⟩
      rw [← hZ] at HD0 hP
      have HD := hidd HD0
      have HP := hidd hP
      have H8 := hidd (And.intro h8 hW8)
      obtain ⟨l8, hl8⟩ : ∃ l8, l8 = (flF F pre).length := ⟨_, rfl⟩
      rw [← hl8] at H8
      have HL8 := hidd hl8
      clear hle hP h8 hW8 hZ hl8 HD0
      have G4 := hidd (HG.out.1.below hw')
      have G8' := hidd (And.intro (H8.out.1.below hw' H8.out.1.lt) (H8.out.2.below hw' (Nat.le_refl _)))
      have G73 := hidd (HG.out.2.2.2.2.below hw' HG.out.2.2.2.2.lt)
      have GS := hidd (Nat.le_trans HG.out.2.2.2.1 hw'.size)
      have GK := hidd (And.intro (keeps_below (B := W0.heap.size) hw') (show KpC bx bn W w' from ⟨hw'.block _ (Nat.lt_of_lt_of_le hBx.lt HG.out.2.2.2.1), hw'.block _ (Nat.lt_of_lt_of_le hBn.lt HG.out.2.2.2.1)⟩))
      have e8 := G8'.out.1.cell (j := 0) (show _ = some (Value.slice a8 l8 c8) from rfl)
      have f8 := G8'.out.1.fro 0
      clear hw' c0
      cases hq2 : ((l8 : Int) == 200) with
      | true =>
        have R := hidd (cl3_stores G4.out (.slice none 0 0) 3)
        have c6 := G4.out.2.1.cell (j := 0) (show _ = some (Value.slice none 0 0) from rfl)
        have f6 := G4.out.2.1.fro 0
        have c7 := G4.out.2.2.1.cell (j := 0) (show _ = some (Value.int .i64 0) from rfl)
        have f7 := G4.out.2.2.1.fro 0
        have K1 := hidd (show RelFy F w .ret (pre ++ [x]) ((w'.setCell ⟨w.heap.size + 1, 0, none⟩ (.slice none 0 0)).setCell ⟨w.heap.size + 1 + 1, 0, none⟩ (.int .i64 3)) from
          ⟨rfl, R.out.2.2, by rw [HD.out, List.length_append, ← HL8.out]; simp at hq2 ⊢; omega, R.out.1, R.out.2.1⟩)
        have K3 := hidd ((GK.out.1.trans ((KeepsOthers.setCell w' ⟨w.heap.size + 1, 0, none⟩ (.slice none 0 0)).from _)).trans ((KeepsOthers.setCell (w'.setCell ⟨w.heap.size + 1, 0, none⟩ (.slice none 0 0)) ⟨w.heap.size + 1 + 1, 0, none⟩ (.int .i64 3)).from _))
        gi_wp2_with fail
        exact ⟨K3.out, K1.out⟩
      | false =>
        gi_wp2_with fail
        refine wpIn_region_heldtail 4 (fun W' => W'.cell? ⟨w1.heap.size, 0, none⟩ = some (.slice a8 l8 c8)) (by decide) (by kernel_rfl) (by kernel_rfl) (by kernel_rfl) (by kernel_rfl) ?_ (fun hHeld => ?_)
        · exact e8
        simp only [List.take_succ_cons, List.take_zero, List.drop_succ_cons, List.drop_zero, List.map_cons, List.map_nil, List.cons_append, List.nil_append, idle]
        refine wpAnyHI_take (lets_round l _) (by kernel_rfl) (i := 0) (oi := _) (v := ?_) rfl (by kernel_rfl) (by kernel_rfl) (by kernel_rfl) (fun _ _ _ h => h) (Or.inl ⟨by rfl, ?_⟩) (by assumption) ?_
        rotate_left
        · intro wX hSw; (try dsimp only at hSw); go_simp; first | done | with_reducible rfl
        simp only [List.getElem_toArray, List.getElem_cons_succ, List.getElem_cons_zero, Act.put, List.setIfInBounds_toArray, List.set_cons_zero, List.set_cons_succ]
        refine wpAnyHI_take (lets_round l _) (by kernel_rfl) (i := 1) (oi := _) (v := ?_) rfl (by kernel_rfl) (by kernel_rfl) (by kernel_rfl) (fun _ _ _ h => h) (Or.inl ⟨by rfl, ?_⟩) (by assumption) ?_
        rotate_left
        · intro wX hSw; (try dsimp only at hSw); go_simp; first | done | with_reducible rfl
        simp only [List.getElem_toArray, List.getElem_cons_succ, List.getElem_cons_zero, Act.put, List.setIfInBounds_toArray, List.set_cons_zero, List.set_cons_succ]
        refine wpAnyHI_ready (rs := [2]) (by kernel_rfl) (by simp) (AllReadyHI.cons (o := _) rfl (fun KQ hKQ => ?_) AllReadyHI.nil)
        go_simp
        have hbD : Below w'.heap.size w' w'.drew := (Below.refl _ _).drew
        refine (CallsIn.inRound _ (callsIn_wide.2 (HP.out w'.drew (HT.out.below G4.out.2.2.2.drew hw0) (show 0 < w'.heap.size from Nat.lt_of_lt_of_le hw0 G4.out.2.2.2.size)))).mono ?_
        rintro e X1 ⟨az, cz, rfl, ho, hbX0⟩
        have hbX : Below w'.heap.size w' X1 := hbD.trans hbX0
        have hoX : OwnL X1 w'.heap.size az Z := ho
        have HX := hidd (And.intro hbX hoX)
        have B8X := hidd (G8'.out.1.below hbX G8'.out.1.lt)
        clear hbD hbX0 hbX ho hoX
        refine hKQ.out _ _ ?_ (fun hNext => ?_)
        · exact B8X.out.cell rfl
        clear hKQ KQ hHeld
        have hHeld := hNext
        clear hNext
        refine wpAnyHI_ready (rs := [3]) (by kernel_rfl) (by simp) (AllReadyHI.cons (o := _) rfl (fun KQ hKQ => ?_) AllReadyHI.nil)
        go_simp
        refine hKQ.out _ _ ?_ (fun hNext => ?_)
        · exact (B8X.out.alloc _).cell rfl
        clear hKQ KQ hHeld
        have hHeld := hNext
        clear hNext
        refine wpAnyHI_take (lets_round l _) (by kernel_rfl) (i := 4) (oi := _) (v := ?_) rfl (by kernel_rfl) (by kernel_rfl) (by kernel_rfl) (fun _ _ _ h => h) (Or.inl ⟨by rfl, ?_⟩) (by assumption) ?_
        rotate_left
        · intro wX hSw; (try dsimp only at hSw); go_simp; first | done | with_reducible rfl
        simp only [List.getElem_toArray, List.getElem_cons_succ, List.getElem_cons_zero, Act.put, List.setIfInBounds_toArray, List.set_cons_zero, List.set_cons_succ]
        refine wpAnyHI_take (lets_round l _) (by kernel_rfl) (i := 5) (oi := _) (v := ?_) rfl (by kernel_rfl) (by kernel_rfl) (by kernel_rfl) (fun _ _ _ h => h) (Or.inl ⟨by rfl, ?_⟩) (by assumption) ?_
        rotate_left
        · intro wX hSw; (try dsimp only at hSw); go_simp; first | done | with_reducible rfl
        simp only [List.getElem_toArray, List.getElem_cons_succ, List.getElem_cons_zero, Act.put, List.setIfInBounds_toArray, List.set_cons_zero, List.set_cons_succ]
        refine wpAnyHI_done (by kernel_rfl) ?_ _
        simp only [endQ]
        obtain ⟨A, hA1, hA2, hA3⟩ := G8'.out.2
        have hxa := (own_below hA1 HX.out.1 (Nat.le_refl _)).1
        have hown0 := own_below (own_below hA1 HX.out.1 (Nat.le_refl _)) ((Below.refl X1.heap.size X1).alloc (Nat.le_refl _) (.cells #[.slice az Z.length cz] 25)) (Nat.le_refl _)
        have HA := hidd (And.intro hA2 hA3)
        have HO := hidd hown0
        have hsX := HX.out.1.size
        have hsW := GS.out
        have hl200 := HG.out.2.2.1
        rw [← HL8.out] at hl200
        have HLW := hidd G8'.out.2
        clear hA1 hA2 hA3 hxa hown0 e8 f8 hHeld
        refine wpListIn_append_own _ rfl _ _ 37 rfl W0.heap.size 25 t0 (.slice none 0 0) 1 24 Tryd.underlying37 HIF.out.1 HIF.out.2.1 HIF.out.2.2.1 HIF.out.2.2.2 rfl (by decide) _ _ _ rfl HO.out ⟨X1.heap.size, 0, none⟩ 1 1 [.slice az Z.length cz] rfl rfl ?c1 ?c2 ?c3 ?c4 ?c5 ?_
        case c1 => exact one_new _ _ _
        case c2 => intro u hu; simp at hu; subst hu; rfl
        case c3 => unfold maxLen; rw [← HL8.out]; omega
        case c4 => rw [← HL8.out]; omega
        case c5 => simp; omega
        intro v' Y hown' hgrow _
        have hbXa : Below w'.heap.size w' (X1.alloc (.cells #[.slice az Z.length cz] 25)) := HX.out.1.alloc HX.out.1.size _
        have hbY : Below W0.heap.size (X1.alloc (.cells #[.slice az Z.length cz] 25)) Y := grown_plain HO.out hgrow (by simp; omega)
        have hB37 : Blk Y w1.heap.size #[.slice a8 l8 c8] 37 := (G8'.out.1.below hbXa G8'.out.1.lt).below hbY GW.out.2.1.lt
        have hLY := LLW.push HLW.out hsW HX.out.1 HX.out.2 hgrow HA.out hown'
        obtain ⟨a9, c9, rfl⟩ := hLY.shape
        obtain ⟨l9, hl9⟩ : ∃ l9, l9 = (flF F pre ++ [Z]).length := ⟨_, rfl⟩
        rw [← hl9] at hLY ⊢
        have hlt3 : w.heap.size + 1 + 1 < w1.heap.size := G.out.2.2.1.lt
        have hlt0 : w1.heap.size < W0.heap.size := GW.out.2.1.lt
        have h73 : Blk Y w5.heap.size (ncell F).toArray 73 := (G73.out.below hbXa G73.out.lt).below hbY GW.out.2.2.lt
        have hC4 : Cl3 (ccells (N : Int) k bs).toArray w Y := (G4.out.below hbXa).belowB hbY (by omega)
        have K1 := hidd (show RelFi (ccells (N : Int) k bs).toArray F w w1.heap.size w5.heap.size W0.heap.size (pre ++ [x]) (Y.setCell ⟨w1.heap.size, 0, none⟩ (.slice a9 l9 c9)) from
          ⟨hC4.set _ _ hlt3, ⟨.slice a9 l9 c9, hB37.same 0 _, by rw [HD.out]; exact hLY.set _ _ hlt0⟩, by rw [HD.out, List.length_append, ← HL8.out]; simp at hq2 ⊢; omega, by
            have := hbY.size
            simp at this
            simp [World.setCell]; omega, h73.other ⟨w1.heap.size, 0, none⟩ _ (by have := B9.out.lt; show w5.heap.size ≠ w1.heap.size; omega)⟩)
        have hnx : bx ≠ w1.heap.size := blk_ne hBx GW.out.2.1 (by decide)
        have hnn : bn ≠ w1.heap.size := blk_ne hBn GW.out.2.1 (by decide)
        have K2 := hidd (show KpC bx bn W (Y.setCell ⟨w1.heap.size, 0, none⟩ (.slice a9 l9 c9)) from
          ⟨(heap_setCell_other _ _ bx _ hnx).trans ((hbY.block _ hBx.lt).trans ((hbXa.block _ (Nat.lt_of_lt_of_le hBx.lt hsW)).trans GK.out.2.1)),
           (heap_setCell_other _ _ bn _ hnn).trans ((hbY.block _ hBn.lt).trans ((hbXa.block _ (Nat.lt_of_lt_of_le hBn.lt hsW)).trans GK.out.2.2))⟩)
        have K3 := hidd (((GK.out.1.trans (keeps_below (B := W0.heap.size) hbXa)).trans (keeps_grown HO.out hgrow)).trans ((KeepsOthers.setCell Y ⟨w1.heap.size, 0, none⟩ (.slice a9 l9 c9)).from _))
        have e8 := hB37.cell (j := 0) (show _ = some (Value.slice a8 l8 c8) from rfl)
        have f8 := hB37.fro 0
        clear hbXa hbY hB37 hLY hC4 hnx hnn hown' hgrow hl9
        gi_wp2_with fail
        exact ⟨K3.out, K2.out, K1.out⟩
  case done =>
    rintro D xs W hD hxs ⟨g4, ⟨v, g8, gw⟩, gL, gB, g7⟩ hK
    have hall := HAL.out xs hxs
    rw [hall] at gw gL
    rw [List.length_map] at gL
    have HRR := hidd (HR0.out gL)
    clear hall
    obtain ⟨L, hL⟩ : ∃ L, L = (fcS N bs c).map rv := ⟨_, rfl⟩
    rw [← hL] at gw HRR
    obtain ⟨aL, cL, rfl⟩ := gw.shape
    obtain ⟨lL, hlL⟩ : ∃ lL, lL = L.length := ⟨_, rfl⟩
    rw [← hlL] at gw g8
    have HLL := hidd hlL
    clear hL gL hlL
    have e8 := g8.cell (j := 0) rfl
    have c6 := g4.2.1.cell (j := 0) (show _ = some (Value.slice none 0 0) from rfl)
    have f6 := g4.2.1.fro 0
    have c7 := g4.2.2.1.cell (j := 0) (show _ = some (Value.int .i64 0) from rfl)
    have f7 := g4.2.2.1.fro 0
    have R := hidd (cl3_stores g4 (.slice aL lL cL) 0)
    have hDW : W0.heap.size ≤ D := hD
    have hlt3 : w.heap.size + 1 + 1 < w1.heap.size := G.out.2.2.1.lt
    have hlt0 : w1.heap.size < W0.heap.size := GW.out.2.1.lt
    have hK' : ((W.setCell ⟨w.heap.size + 1, 0, none⟩ (.slice aL lL cL)).setCell ⟨w.heap.size + 1 + 1, 0, none⟩ (.int .i64 0)).heap[D]? = some (.deferred (some [])) :=
      (heap_setCell_other _ ⟨w.heap.size + 1 + 1, 0, none⟩ D _ (by show D ≠ w.heap.size + 1 + 1; omega)).trans ((heap_setCell_other W ⟨w.heap.size + 1, 0, none⟩ D _ (by show D ≠ w.heap.size + 1; omega)).trans hK)
    have GL := hidd ((gw.set ⟨w.heap.size + 1, 0, none⟩ (.slice aL lL cL) (by show w.heap.size + 1 < W0.heap.size; omega)).set ⟨w.heap.size + 1 + 1, 0, none⟩ (.int .i64 0) (by show w.heap.size + 1 + 1 < W0.heap.size; omega))
    have HKD := hidd hK'
    clear hK hK' g4 g8 gw
    gi_wp2
    rw [Exit.noGoto_ret]
    refine ⟨by simp [Act.put], .inl ⟨_, _, rfl, run_takeDeferred HKD.out, ?_⟩⟩
    obtain ⟨W2, hW2⟩ : ∃ W2, W2 = (W.setCell ⟨w.heap.size + 1, 0, none⟩ (.slice aL lL cL)).setCell ⟨w.heap.size + 1 + 1, 0, none⟩ (.int .i64 0) := ⟨_, rfl⟩
    rw [← hW2] at R GL HKD ⊢
    have r6 : Blk (W2.putObj D (.deferred none)) (w.heap.size + 1) #[.slice aL lL cL] 37 := (World.putObj_heap_other (by omega)).trans R.out.1
    have r7 : Blk (W2.putObj D (.deferred none)) (w.heap.size + 1 + 1) #[.int .i64 0] 2 := (World.putObj_heap_other (by omega)).trans R.out.2.1
    have hb3 : Below w.heap.size w (W2.putObj D (.deferred none)) := R.out.2.2.grown (grownBy_putObj' _ D (.deferred none)) R.out.2.2.size (fun k e => by cases e; omega)
    have hLO := GL.out.grow (grownBy_putObj' _ D (.deferred none)) (fun r e => by cases e; exact ⟨_, HKD.out, rfl⟩)
    obtain ⟨a, cap, hv, hO⟩ := hLO.out
    refine ⟨_, results_cells2 rfl _ _ (w.heap.size + 1) (w.heap.size + 1 + 1) _ _ rfl rfl (load37 (r6.cell (j := 0) rfl)) (load2 (r7.cell (j := 0) rfl)), ?_⟩
    rw [HRR.out.1, HRR.out.2]
    exact ⟨a, cap, by rw [hv]; rfl, hO.base (show w.heap.size ≤ W0.heap.size by omega), hb3⟩
  case stop =>
    rintro D c' pre W hD ⟨rest, hrest⟩ ⟨rfl, g1, g2, g3, g4⟩ hK
    have hmo := HMO.out pre rest hrest
    have HRR := hidd (HR3.out (by omega))
    have hDW : W0.heap.size ≤ D := hD
    have hlt3 : w.heap.size + 1 + 1 < w1.heap.size := G.out.2.2.1.lt
    have hlt0 : w1.heap.size < W0.heap.size := GW.out.2.1.lt
    have R := hidd (And.intro g1 (And.intro g3 (And.intro g4 hK)))
    clear g1 g2 g3 g4 hK hmo
    apply wpIn_ret
    simp only [Exit.inBlock, Exit.then, Exit.noGoto_ret]
    refine ⟨by simp [Act.put], .inl ⟨_, _, rfl, run_takeDeferred R.out.2.2.2, ?_⟩⟩
    have r6 : Blk (W.putObj D (.deferred none)) (w.heap.size + 1) #[.slice none 0 0] 37 := (World.putObj_heap_other (by omega)).trans R.out.2.1
    have r7 : Blk (W.putObj D (.deferred none)) (w.heap.size + 1 + 1) #[.int .i64 3] 2 := (World.putObj_heap_other (by omega)).trans R.out.2.2.1
    have hb3 : Below w.heap.size w (W.putObj D (.deferred none)) := R.out.1.grown (grownBy_putObj' _ D (.deferred none)) R.out.1.size (fun k e => by cases e; omega)
    refine ⟨_, results_cells2 rfl _ _ (w.heap.size + 1) (w.heap.size + 1 + 1) _ _ rfl rfl (load37 (r6.cell (j := 0) rfl)) (load2 (r7.cell (j := 0) rfl)), ?_⟩
    rw [HRR.out.1, HRR.out.2]
    exact ⟨none, 0, rfl, .inl rfl, hb3⟩
end Go.Proofs.YtkiocedhibeieaaDoor
