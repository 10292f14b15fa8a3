/- ComponentsOf: the model. -/
import Derived.Test.YtkiocedhibeieaaDoorPt8
namespace Go.Proofs.YtkiocedhibeieaaDoor
set_option linter.unusedVariables false
set_option linter.unusedSimpArgs false
open Go Go.RowKit Go.Shelf
theorem bit_zero (S j : Nat) (hS : S < 4611686018427387904) : (bits .and .i64 ((S : Int) / 2 ^ j) 1 == 0) = !S.testBit j := by
  have h := bit_test S j hS
  have e : ((S : Int) / 2 ^ j) = ((S / 2 ^ j : Nat) : Int) := by simp
  have hlt : S / 2 ^ j < 4611686018427387904 := Nat.lt_of_le_of_lt (Nat.div_le_self _ _) hS
  rw [e] at h ⊢
  have h2 := i64_and_nat (S / 2 ^ j) 1 hlt (by omega)
  rw [show ((1 : Nat) : Int) = 1 from rfl] at h2
  rw [h2] at h ⊢
  rw [← h, Nat.and_one_is_mod]
  have hm : S / 2 ^ j % 2 = 0 ∨ S / 2 ^ j % 2 = 1 := by omega
  rcases hm with hm | hm <;> rw [hm] <;> rfl
/-- The rows of neighbours. -/
abbrev cpG (bs : List Nat) (c : Int) (N : Nat) : Nat → Nat := rwN bs c N
theorem cpG_lt (bs : List Nat) (c : Int) (N : Nat) (p : Nat) : cpG bs c N p < 2 ^ N := arK_lt _ _
/-- The components, as sets. -/
def cpSets (N : Nat) (bs : List Nat) (c : Int) : List Nat := mps (cpG bs c N) N N 0 0
def cpL (n k : Int) (bs : List Nat) (c : Int) : List (List Int) := if given n k bs c [] = 0 then (cpSets n.toNat bs c).map setL else []
theorem cpSets_len (N : Nat) (bs : List Nat) (c : Int) : (cpSets N bs c).length ≤ N := mps_len _ _ _ _ _
theorem cpSets_impl (bs : List Nat) (c : Int) {N : Nat} (hN : N ≤ 17) : cpl (nsF bs c (eseq N)) (2 ^ N - 1) = cpSets N bs c :=
  cpl_mps hN (fun v hv => cmC_congr (fun p hp => nsF_rw bs c hp hN) (cpG_lt bs c N) hv hN) N 0 0 _ (by omega) (fun q => all_bit N q) (fun q hq => absurd hq (by omega))
theorem mps_lt {F : Nat → Nat} {N : Nat} (hF : ∀ p, F p < 2 ^ 17) (hN : N ≤ 17) : ∀ d p met, p + d = N → ∀ s ∈ mps F N d p met, s < 2 ^ 17
  | 0, _, _, _, s, hs => by simp [mps] at hs
  | d + 1, p, met, hp, s, hs => by
    rw [mps] at hs
    split at hs
    · exact mps_lt hF hN d (p + 1) met (by omega) s hs
    · rcases List.mem_cons.1 hs with rfl | hs
      · exact cmC_lt hF (by omega)
      · exact mps_lt hF hN d (p + 1) _ (by omega) s hs
theorem cpG_17 (bs : List Nat) (c : Int) {N : Nat} (hN : N ≤ 17) (p : Nat) : cpG bs c N p < 2 ^ 17 := Nat.lt_of_lt_of_le (cpG_lt bs c N p) (Nat.pow_le_pow_right (by omega) hN)
theorem cpSets_lt (bs : List Nat) (c : Int) {N : Nat} (hN : N ≤ 17) : ∀ s ∈ cpSets N bs c, s < 2 ^ 17 := mps_lt (cpG_17 bs c hN) hN N 0 0 (by omega)
theorem setL_17 {X : Nat} (h : X < 2 ^ 17) : (setL X).length ≤ 17 := by rw [setL_len h]; exact ones_17 h
theorem llw_empty (w : World) (B g : Nat) (hB : B ≤ g) (h : Blk w g #[] 25) : LLW w B (.slice (some ⟨g, 0, none⟩) 0 0) [] :=
  ⟨fun _ => (none, 0), ⟨rfl, .inr ⟨g, 0, #[], rfl, hB, h, Nat.le_refl _, by simp [maxLen], rfl, rfl⟩⟩, fun j hj => by simp at hj, fun i j hi => by simp at hi⟩
/-- What stays when a list of lists grows: the blocks of other types. -/
theorem grow_blk {W X Y : World} {B b : Nat} {v : Value} {L : List (List Int)} {o : Obj} {C : Array Value} {t : TypeId} (h : LLW W B v L) (hb : Below W.heap.size W X) (hg : (X.alloc o).grownBy Y v.ownBlock) (hB : Blk X b C t) (ht : t ≠ 25) : Blk Y b C t := by
  refine (hg.block b (hB.alloc o).lt (fun e => ?_)).trans (hB.alloc o)
  obtain ⟨_, C', h2⟩ := h.row b e.symm
  have h3 := h2.below hb h2.lt
  unfold Blk at h3 hB
  rw [h3] at hB
  simp at hB
  exact ht hB.2.symm
theorem grow_own {W X Y : World} {B B' : Nat} {v : Value} {L : List (List Int)} {o : Obj} {a : Option Addr} {zs : List Int} (h : LLW W B v L) (hb : Below W.heap.size W X) (hg : (X.alloc o).grownBy Y v.ownBlock) (ho : OwnL X B' a zs) : OwnL Y B' a zs :=
  OwnL.grown (ho.below ((Below.refl X.heap.size X).alloc (Nat.le_refl _) o) (Nat.le_refl _)) hg (fun r hr => by
    obtain ⟨h1, C, h2⟩ := h.row r hr
    exact ⟨C, (h2.below hb h2.lt).alloc _⟩)
theorem grow_below {W X Y : World} {B : Nat} {v : Value} {L : List (List Int)} {o : Obj} (h : LLW W B v L) (hb : Below W.heap.size W X) (hg : (X.alloc o).grownBy Y v.ownBlock) (hB : B ≤ W.heap.size) : Below B W Y :=
  (hb.mono hB).trans (((Below.refl B X).alloc (Nat.le_trans hB hb.size) o).grown hg (by simp; have := hb.size; omega) (fun r hr => (h.row r hr).1))
def RelSq (n k : Int) (bs : List Nat) (N : Nat) (G : Nat → Nat) (ar : Option Addr) (w : World) (T : List (List Int)) (p met : Nat) (vo : Value) (L : List (List Int)) (wr : World) : Prop :=
  Blk wr w.heap.size (ccells n k bs).toArray 28 ∧ OwnL wr w.heap.size ar (fillA (fun j => ((G j : Nat) : Int)) N) ∧ LLW wr w.heap.size vo L ∧ Below w.heap.size w wr ∧ met < 2 ^ 17 ∧ L ++ (mps G N (N - p) p met).map setL = T
set_option maxRecDepth 100000 in
set_option maxHeartbeats 4000000 in
theorem spec35_good (N : Nat) (k : Int) (bs : List Nat) (hb : Bys bs) (c : Int) (n1 : 1 ≤ N) (n2 : N ≤ 17) (h0 : given (N : Int) k bs c [] = 0) (w : World) :
    Calls Tryd.prog 35 #[.agg (ccells (N : Int) k bs).toArray, .int .i64 c] w (LLOut0 w ((cpSets N bs c).map setL) 0) := by
  have HS := hidd (size_c26 (N : Int) k hb)
  have HG := hidd (fun W => given56 (N : Int) k bs hb c [] none 0 W (sl_none W) (by simp))
  rw [h0] at HG
  have HR := hidd (fun W => rows74 N k bs hb c n1 n2 W)
  obtain ⟨G, hG⟩ : ∃ G, G = cpG bs c N := ⟨_, rfl⟩
  have hG17 : ∀ p, G p < 2 ^ 17 := fun p => by rw [hG]; exact cpG_17 bs c n2 p
  have HFG := hidd (show fillA (rowF N bs c) N = fillA (fun j => ((G j : Nat) : Int)) N by rw [hG]; rfl)
  have HT := hidd (show (mps G N (N - 0) 0 0).map setL = (cpSets N bs c).map setL by rw [hG]; rfl)
  have HLEN := hidd (show ((cpSets N bs c).map setL).length ≤ 17 by rw [List.length_map]; have := cpSets_len N bs c; omega)
  obtain ⟨T, hT⟩ : ∃ T, T = (cpSets N bs c).map setL := ⟨_, rfl⟩
  rw [← hT] at HT HLEN ⊢
  have HF := hidd hG17
  have HC0 := hidd (show (ccells (N : Int) k bs).toArray[0]? = some (.int .i64 (N : Int)) from rfl)
  obtain ⟨t0, hi2, hz0, hz1, hz3⟩ := info_parts info25
  have HIF := hidd (And.intro hi2 (And.intro hz0 (And.intro hz1 hz3)))
  clear hG hG17 hT h0 hi2 hz0 hz1 hz3
  go_enter Tryd.func35, Tryd.ntmps35
  go_wp2_with (refine wpList_load_row rfl 28 (.tmp 2) rfl w.heap.size rfl 28 _ (0,0) _ (Blk.new _ _ _ _ rfl) Tryd.underlying28 rfl HS.out ?_)
  refine (HG.out _).mono ?_
  rintro e w1 ⟨rfl, hb1⟩
  have G1 := hidd (And.intro ((Blk.new w (ccells (N : Int) k bs).toArray 28 _ rfl).below hb1 (by simp)) (((Below.refl w.heap.size w).alloc (Nat.le_refl _) (.cells (ccells (N : Int) k bs).toArray 28)).trans (hb1.mono (by simp))))
  clear hb1
  go_wp2_with (refine wpList_load_row rfl 28 (.tmp 2) rfl w.heap.size rfl 28 _ (0,0) _ G1.out.1 Tryd.underlying28 rfl HS.out ?_)
  refine (HR.out _).mono ?_
  rintro e w2 ⟨ar, cr, rfl, ho, hb2⟩
  rw [HFG.out] at ho
  have HR0 : RelSq (N : Int) k bs N G ar w T 0 0 (.slice (some ⟨w2.heap.size, 0, none⟩) 0 0) [] (w2.alloc (.cells #[] 25)) := by
    have a2 : Below w2.heap.size w2 (w2.alloc (.cells #[] 25)) := (Below.refl _ _).alloc (Nat.le_refl _) _
    have g1 := G1.out.1.below hb2 G1.out.1.lt
    have g2 := G1.out.2.trans (hb2.mono G1.out.2.size)
    exact ⟨g1.below a2 g1.lt, ownL_base (ho.below a2 (Nat.le_refl _)) G1.out.2.size, llw_empty _ _ _ g2.size (Blk.new _ _ _ _ rfl), g2.trans (a2.mono g2.size), by omega, HT.out⟩
  have HR0 := hidd HR0
  clear ho hb2
  go_wp2_with fail
  go_loopw [8, 9, 10] (fun em eo ep wr => ∃ (p met : Nat) (vo : Value) (L : List (List Int)), p ≤ N ∧ ep = .int .i64 (p : Int) ∧ em = .int .i64 (met : Int) ∧ vo = eo ∧ Hid (RelSq (N : Int) k bs N G ar w T p met vo L wr)) (fun _ _ ep _ => N - (intOf ep).toNat)
  case atStart => exact ⟨0, 0, _, [], by omega, rfl, rfl, rfl, HR0⟩
  case round =>
    clear HR0
    obtain ⟨p, met, vo, L, hp, rfl, rfl, rfl, HK⟩ := hrel
    have c0 := HK.out.1.cell HC0.out
    by_cases hlt : p < N
    · have hltI : decide ((p : Int) < (N : Int)) = true := by simp; omega
      have hm17 := HK.out.2.2.2.2.1
      have hbt := bit_test met p (by omega)
      have hb01 : (bits .and .i64 ((met : Int) / 2 ^ p) 1 == 0) = !met.testBit p := bit_zero met p (by omega)
      have hu2 : IntKind.u64.wrap (p : Int) = (p : Int) := by unfold IntKind.wrap; simp [IntKind.signed, IntKind.bits]; omega
      have hmn2 : min p 64 = p := by omega
      have hd1 : N - p = (N - (p + 1)) + 1 := by omega
      cases hbm : met.testBit p with
      | true =>
        have hb3 : (bits .and .i64 ((met : Int) / 2 ^ p) 1 == 0) = false := by rw [hb01, hbm]; rfl
        have K3 := hidd (show RelSq (N : Int) k bs N G ar w T (p + 1) met vo L wr by
          have h := HK.out
          unfold RelSq at h ⊢
          rw [hd1, mps, if_pos hbm] at h
          exact h)
        clear hbt hbm hb01
        go_wp2_with fail
        go_roundw
        case rel => exact ⟨p + 1, met, vo, L, by omega, by go_num, rfl, rfl, K3⟩
        case measure => simp [intOf]; omega
      | false =>
        have hb3 : (bits .and .i64 ((met : Int) / 2 ^ p) 1 == 0) = true := by rw [hb01, hbm]; rfl
        have hsl := HK.out.2.1.sl
        have HCM := hidd (fun cap => comp67 N G p ar cap _ wr n2 hlt HF.out (fillA_len _ _) (fun j hj => fillA_get _ hj) hsl)
        rw [fillA_len] at HCM
        obtain ⟨C, hC⟩ : ∃ C, C = cmC G N p := ⟨_, rfl⟩
        rw [← hC] at HCM
        have hC17 : C < 2 ^ 17 := by rw [hC]; exact cmC_lt HF.out (by omega)
        have hTT := HK.out.2.2.2.2.2
        rw [hd1, mps, if_neg (by rw [hbm]; simp), ← hC, List.map_cons] at hTT
        have hLl : L.length ≤ 16 := by
          have h1 := congrArg List.length hTT
          have h2 := HLEN.out
          simp only [List.length_append, List.length_cons] at h1
          omega
        have HTT := hidd hTT
        have hor := i64_or_nat met C (by omega) (by omega)
        have hmC : met ||| C < 2 ^ 17 := Nat.or_lt_two_pow hm17 hC17
        have HP8 := hidd (points58 C hC17 wr)
        clear hbt hbm hb01 hC hTT hsl
        go_wp2_with (go_at_call 67; refine (HCM.out _).mono ?_; rintro e w' ⟨rfl, rfl⟩)
        refine HP8.out.mono ?_
        rintro e X1 ⟨vz, rfl, hz, hbX⟩
        obtain ⟨az, cz, rfl, hoz⟩ := own_list hz
        obtain ⟨q1, q2, q3, q4, q5, q6⟩ := HK.out
        obtain ⟨A, hA1, hA2, hA3⟩ := q3
        have HA := hidd (And.intro hA2 hA3)
        have hown0 := own_below (own_below hA1 hbX (Nat.le_refl _)) ((Below.refl X1.heap.size X1).alloc (Nat.le_refl _) (.cells #[.slice az (setL C).length cz] 25)) (Nat.le_refl _)
        have HX := hidd (And.intro hbX hoz)
        have hsX := hbX.size
        have hsW := q4.size
        clear hz hoz hbX q1 q2 q4 q5 q6 hA1 hA2 hA3 c0 HCM HP8
        go_wp2_with (at_builtin; refine wpList_append_own _ rfl _ _ 37 rfl w.heap.size 25 t0 (.slice none 0 0) 1 24 Tryd.underlying37 HIF.out.1 HIF.out.2.1 HIF.out.2.2.1 HIF.out.2.2.2 rfl (by decide) _ _ _ rfl hown0 ⟨X1.heap.size, 0, none⟩ 1 1 [.slice az (setL C).length cz] rfl rfl ?c1 ?c2 ?c3 ?c4 ?c5 ?_)
        case c1 => exact one_new _ _ _
        case c2 => intro u hu; simp at hu; subst hu; rfl
        case c3 => unfold maxLen; omega
        case c4 => omega
        case c5 => simp; omega
        intro v' Y hown' hgrow _
        have hLLW := HK.out.2.2.1
        have K3 := hidd (show RelSq (N : Int) k bs N G ar w T (p + 1) (met ||| C) v' (L ++ [setL C]) Y from
          ⟨grow_blk hLLW HX.out.1 hgrow (HK.out.1.below HX.out.1 HK.out.1.lt) (by decide), grow_own hLLW HX.out.1 hgrow (HK.out.2.1.below HX.out.1 (Nat.le_refl _)), LLW.push hLLW hsW HX.out.1 HX.out.2 hgrow HA.out hown', HK.out.2.2.2.1.trans (grow_below hLLW HX.out.1 hgrow hsW), hmC, by rw [List.append_assoc, List.singleton_append]; exact HTT.out⟩)
        clear hown' hgrow hown0 hLLW
        go_wp2
        go_roundw
        case rel => exact ⟨p + 1, met ||| C, v', L ++ [setL C], by omega, by go_num, rfl, rfl, K3⟩
        case measure => simp [intOf]; omega
    · have hltI : decide ((p : Int) < (N : Int)) = false := by simp; omega
      have hpN : p = N := by omega
      subst hpN
      have hLT : L = T := by
        have h := HK.out.2.2.2.2.2
        rw [Nat.sub_self] at h
        simpa [mps] using h
      obtain ⟨a9, c9, rfl, hLO⟩ := HK.out.2.2.1.out
      have K9 := hidd (And.intro hLO HK.out.2.2.2.1)
      subst hLT
      go_wp2_with fail
      go_ret2
      exact ⟨a9, c9, rfl, K9.out.1.reads, K9.out.2⟩
end Go.Proofs.YtkiocedhibeieaaDoor
