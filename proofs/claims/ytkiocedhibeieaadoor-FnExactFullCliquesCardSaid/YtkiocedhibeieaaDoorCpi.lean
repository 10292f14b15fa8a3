/- ComponentsOf: the program. -/
import Derived.Test.YtkiocedhibeieaaDoorCpr
namespace Go.Proofs.YtkiocedhibeieaaDoor
set_option linter.unusedVariables false
set_option linter.unusedSimpArgs false
open Go Go.RowKit Go.Shelf
/-- A list of sets that can be read. -/
def UA (w : World) (a : Option Addr) (xs : List Nat) : Prop := xs = [] ∨ ∃ g C, a = some ⟨g, 0, none⟩ ∧ Blk w g C 56 ∧ ∀ j, j < xs.length → C[j]? = some (.int .u32 ((xs.getD j 0 : Nat) : Int))
theorem UL.reads {w : World} {B : Nat} {v : Value} {xs : List Nat} (h : UL w B v xs) : ∃ a cap, v = .slice a xs.length cap ∧ UA w a xs := by
  obtain ⟨hl, h | ⟨g, cap, cur, hv, hg, hc, hn, hm, hs, ht⟩⟩ := h
  · exact ⟨none, 0, by rw [h.1, h.2], .inl (List.length_eq_zero_iff.1 h.2)⟩
  · refine ⟨_, _, hv, .inr ⟨g, cur, rfl, hc, fun j hj => ?_⟩⟩
    have h4 : (ucl xs)[j]? = some (.int .u32 ((xs.getD j 0 : Nat) : Int)) := by simp [ucl, List.getD, hj]
    rw [← ht, List.getElem?_take, if_pos (by omega)] at h4
    simpa using h4
theorem UA.below {w w' : World} {a : Option Addr} {xs : List Nat} (h : UA w a xs) (hb : Below w.heap.size w w') : UA w' a xs := by
  rcases h with h | ⟨g, C, h1, h2, h3⟩
  · exact .inl h
  · exact .inr ⟨g, C, h1, h2.below hb h2.lt, h3⟩
theorem UA.grow {W X Y : World} {B : Nat} {v : Value} {L : List (List Int)} {o : Obj} {a : Option Addr} {xs : List Nat} (h : LLW W B v L) (hb : Below W.heap.size W X) (hg : (X.alloc o).grownBy Y v.ownBlock) (ha : UA X a xs) : UA Y a xs := by
  rcases ha with e | ⟨g, C, h1, h2, h3⟩
  · exact .inl e
  · exact .inr ⟨g, C, h1, grow_blk h hb hg h2 (by decide), h3⟩
theorem tz_grow {W X Y : World} {B : Nat} {v : Value} {L : List (List Int)} {o : Obj} (h : LLW W B v L) (hB : 0 < B) (hb : Below W.heap.size W X) (hg : (X.alloc o).grownBy Y v.ownBlock) (hX : 0 < X.heap.size) (hT : Tz X) : Tz Y :=
  hT.kp ((hg.block 0 (by simp) (fun e => by have := (h.row 0 e.symm).1; omega)).trans (Below.heap_alloc X o 0 hX))
def RelIq (a : Option Addr) (S : List Nat) (w : World) (j : Nat) (vo : Value) (wr : World) : Prop :=
  UA wr a S ∧ Tz wr ∧ LLW wr w.heap.size vo ((S.take j).map setL) ∧ Below w.heap.size w wr
set_option maxRecDepth 100000 in
set_option maxHeartbeats 4000000 in
theorem impl36_good (N : Nat) (k : Int) (bs : List Nat) (hb : Bys bs) (c : Int) (n1 : 1 ≤ N) (n2 : N ≤ 17) (h0 : given (N : Int) k bs c [] = 0) (w : World) (hT : Tz w) (hw0 : 0 < w.heap.size) :
    Calls Tryd.prog 36 #[.agg (ccells (N : Int) k bs).toArray, .int .i64 c] w (LLOut w ((cpSets N bs c).map setL) 0) := by
  have HS := hidd (size_c26 (N : Int) k hb)
  have hgood := given_cases h0
  have HG := hidd (fun W => graph63_0 N k c bs hb W n1 n2 hgood.1 hgood.2)
  obtain ⟨F, hF⟩ : ∃ F, F = nsF bs c (eseq N) := ⟨_, rfl⟩
  obtain ⟨U, hU⟩ : ∃ U, U = 2 ^ N - 1 := ⟨_, rfl⟩
  obtain ⟨S, hS⟩ : ∃ S, S = cpSets N bs c := ⟨_, rfl⟩
  have hF17 : ∀ p, F p < 2 ^ 17 := fun p => by rw [hF]; exact nsF_lt _ _ _ _
  have hU17 : U < 2 ^ 17 := by rw [hU]; have := Nat.pow_le_pow_right (show 0 < 2 by omega) n2; have := Nat.two_pow_pos N; omega
  have hcp : cpl F U = S := by rw [hF, hU, hS]; exact cpSets_impl bs c n2
  have hS17 : S.length ≤ 17 := by rw [hS]; have := cpSets_len N bs c; omega
  have HSL := hidd (show ∀ j, j < S.length → S.getD j 0 < 2 ^ 17 from fun j hj => by
    have e : S.getD j 0 = S[j] := by simp [List.getD, hj]
    rw [e]
    exact cpSets_lt bs c n2 _ (by rw [← hS]; exact List.getElem_mem hj))
  have HCO := hidd (fun W hW hp => components68 U F hF17 hU17 (by rw [hcp]; exact hS17) W hW hp)
  rw [hcp] at HCO
  rw [← hF, ← hU] at HG
  rw [← hS]
  have Hz := zero79
  have HZ1 := hidd (size79 U F)
  have HO1 := hidd (show (gcell 0 fun _ => 0).toArray.size = (gcell U F).toArray.size by simp [gcell_len])
  have HA1 := hidd (gcell_one U F)
  have HT := hidd hT
  have HS17 := hidd hS17
  obtain ⟨t0, hi2, hz0, hz1, hz3⟩ := info_parts info25
  have HIF := hidd (And.intro hi2 (And.intro hz0 (And.intro hz1 hz3)))
  clear hT h0 hgood hF hU hS hcp hF17 hU17 hi2 hz0 hz1 hz3
  go_enter Tryd.func36, Tryd.ntmps36
  go_wp2_with (refine wpList_load_row rfl 28 (.tmp 2) rfl w.heap.size rfl 28 _ (0,0) _ (Blk.new _ _ _ _ rfl) Tryd.underlying28 rfl HS.out ?_)
  refine (HG.out _).mono ?_
  rintro e w1 ⟨rfl, hb1⟩
  have b1 := (((Below.refl w.heap.size w).alloc (Nat.le_refl _) (.cells (ccells (N : Int) k bs).toArray 28)).trans (hb1.mono (by simp)))
  have B1 : Below w1.heap.size w1 ((w1.alloc (.cells (gcell 0 fun _ => 0).toArray 79)).setRow w1.heap.size (gcell U F).toArray) := below_setRow ((Below.refl _ _).alloc (Nat.le_refl _) _) (Nat.le_refl _) _
  have b2 := b1.trans (B1.mono b1.size)
  have G1 := hidd (And.intro ((Blk.new w1 (gcell 0 fun _ => 0).toArray 79 _ rfl).rowSame (gcell U F).toArray) (And.intro b2 (HT.out.below b2 hw0)))
  clear hb1 b1 B1 b2
  go_wp2_with (first
    | (refine wpList_store_row rfl 79 (.tmp 6) (.tmp 15) rfl w1.heap.size _ rfl rfl 79 _ (Blk.new _ _ _ _ rfl) HZ1.out HO1.out HA1.out ?_)
    | (refine wpList_load_row rfl 79 (.tmp 6) rfl w1.heap.size rfl 79 _ (0,0) _ G1.out.1 Tryd.underlying79 rfl HZ1.out ?_))
  refine (HCO.out _ G1.out.2.2 (by have := G1.out.2.1.size; omega)).mono ?_
  rintro e w2 ⟨vs, rfl, hul, hb2⟩
  obtain ⟨a, cap, rfl, hua⟩ := hul.reads
  have b3 := G1.out.2.1.trans (hb2.mono G1.out.2.1.size)
  have HR0 := hidd (show RelIq a S w 0 (.slice none 0 0) w2 from ⟨hua, HT.out.below b3 hw0, LLW.nil _ _, b3⟩)
  clear hul hua hb2 b3
  go_wp2_with fail
  go_loopw [8, 23] (fun eo ej wr => ∃ (j : Nat) (vo : Value), j ≤ S.length ∧ ej = .int .i64 (j : Int) ∧ vo = eo ∧ Hid (RelIq a S w j vo wr)) (fun _ ej _ => S.length - (intOf ej).toNat)
  case atStart => exact ⟨0, _, by omega, rfl, rfl, HR0⟩
  case round =>
    clear HR0
    obtain ⟨j, vo, hj, rfl, rfl, HK⟩ := hrel
    by_cases hlt : j < S.length
    · have hltI : decide ((j : Int) < (S.length : Int)) = true := by simp; omega
      have hS17' := HS17.out
      obtain ⟨X, hX⟩ : ∃ X, X = S.getD j 0 := ⟨_, rfl⟩
      have hX17 : X < 2 ^ 17 := by rw [hX]; exact HSL.out j hlt
      have HTK := hidd (show (S.take (j + 1)).map setL = (S.take j).map setL ++ [setL X] by
        rw [List.take_succ_eq_append_getElem hlt, List.map_append, hX]; simp [List.getD, hlt])
      rcases HK.out.1 with e | ⟨g, C, ha, hB, hC⟩
      · subst e; simp at hlt
      · subst ha
        have cj := hB.cell (hC j hlt)
        rw [← hX] at cj
        have HP := hidd (fun W hW hp => points47X X hX17 W hW hp)
        obtain ⟨Ls, hLs⟩ : ∃ Ls, Ls = (S.take j).map setL := ⟨_, rfl⟩
        have hLl : Ls.length ≤ 17 := by rw [hLs, List.length_map, List.length_take]; omega
        rw [← hLs] at HTK
        have HLS := hidd hLs
        clear hX hC hLs hB
        go_wp2_with fail
        refine (HP.out _ HK.out.2.1 (by have := HK.out.2.2.2.size; omega)).mono ?_
        rintro e X1 ⟨az, cz, rfl, hoz, hbX⟩
        have q3 := HK.out.2.2.1
        rw [← HLS.out] at q3
        obtain ⟨A, hA1, hA2, hA3⟩ := q3
        have HA := hidd (And.intro hA2 hA3)
        have hown0 := own_below (own_below hA1 hbX (Nat.le_refl _)) ((Below.refl X1.heap.size X1).alloc (Nat.le_refl _) (.cells #[.slice az (setL X).length cz] 25)) (Nat.le_refl _)
        have HX := hidd (And.intro hbX hoz)
        have hsX := hbX.size
        have hsW := HK.out.2.2.2.size
        clear hoz hbX hA1 hA2 hA3 cj HP
        go_wp2_with (at_builtin; refine wpList_append_own _ rfl _ _ 37 rfl w.heap.size 25 t0 (.slice none 0 0) 1 24 Tryd.underlying37 HIF.out.1 HIF.out.2.1 HIF.out.2.2.1 HIF.out.2.2.2 rfl (by decide) _ _ _ rfl hown0 ⟨X1.heap.size, 0, none⟩ 1 1 [.slice az (setL X).length cz] rfl rfl ?c1 ?c2 ?c3 ?c4 ?c5 ?_)
        case c1 => exact one_new _ _ _
        case c2 => intro u hu; simp at hu; subst hu; rfl
        case c3 => unfold maxLen; omega
        case c4 => omega
        case c5 => simp; omega
        intro v' Y hown' hgrow _
        have hLLW : LLW wr w.heap.size vo Ls := by rw [HLS.out]; exact HK.out.2.2.1
        have hX0 : 0 < X1.heap.size := by omega
        have K3 := hidd (show RelIq (some ⟨g, 0, none⟩) S w (j + 1) v' Y from
          ⟨UA.grow hLLW HX.out.1 hgrow (HK.out.1.below HX.out.1), tz_grow hLLW hw0 HX.out.1 hgrow hX0 (HK.out.2.1.below HX.out.1 (by omega)), by rw [HTK.out]; exact LLW.push hLLW hsW HX.out.1 HX.out.2 hgrow HA.out hown', HK.out.2.2.2.trans (grow_below hLLW HX.out.1 hgrow hsW)⟩)
        clear hown' hgrow hown0 hLLW
        go_wp2
        go_roundw
        case rel => exact ⟨j + 1, v', by omega, by go_num, rfl, K3⟩
        case measure => simp [intOf]; omega
    · have hltI : decide ((j : Int) < (S.length : Int)) = false := by simp; omega
      have hjS : j = S.length := by omega
      subst hjS
      have hLW := HK.out.2.2.1
      rw [List.take_length] at hLW
      obtain ⟨a9, c9, rfl, hLO⟩ := hLW.out
      have K9 := hidd (And.intro hLO HK.out.2.2.2)
      clear hLW hLO
      go_wp2_with fail
      go_ret2
      exact ⟨a9, c9, rfl, K9.out.1, K9.out.2⟩
end Go.Proofs.YtkiocedhibeieaaDoor
