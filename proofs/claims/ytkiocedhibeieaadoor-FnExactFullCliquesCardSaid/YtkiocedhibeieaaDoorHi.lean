/- My texts Cls, CtB, Fzm, Fzi, Fzs, Ge, Gqi, LstSp, in one. -/
import Derived.Test.YtkiocedhibeieaaDoorHg
import Derived.Test.YtkiocedhibeieaaDoorHh
import Derived.Test.YtkiocedhibeieaaDoorHe
import Derived.Test.YtkiocedhibeieaaDoorHf
import Derived.Test.YtkiocedhibeieaaDoorRows
import Derived.Test.YtkiocedhibeieaaDoorHa
import Derived.ChangeOld
import Derived.Test.YtkiocedhibeieaaDoorHc
/- CliqueList: its model. -/
namespace Go.Proofs.YtkiocedhibeieaaDoor
set_option linter.unusedVariables false
set_option linter.unusedSimpArgs false
open Go Go.RowKit Go.Shelf
set_option maxRecDepth 100000 in
set_option maxHeartbeats 1000000 in
theorem spec22 (n k : Int) (bs : List Nat) (hb : Bys bs) (c m : Int) (w : World) :
    Calls Tryd.prog 22 #[.agg (ccells n k bs).toArray, .int .i64 c, .int .i64 m] w (LLOut0 w (clList n k bs c m) (clCode n k bs c m)) := by
  have HS := hidd (size_c26 n k hb)
  have HG := hidd (fun W => given56 n k bs hb c [] none 0 W (sl_none W) (by simp))
  by_cases h0 : given n k bs c [] = 0
  · obtain ⟨n1, n2, k1, k2⟩ := isCol_bd (given_ok h0).1
    rw [h0] at HG
    cases h2 : inB m 1 17 with
    | false =>
      have he := cl_2 h0 h2
      rw [he.1, he.2]
      have HIN := hidd h2
      clear he h0 h2
      go_enter Tryd.func22, Tryd.ntmps22
      go_wp2_with (refine wpList_load_row rfl 28 (.tmp 3) rfl w.heap.size rfl 28 _ (0,0) _ (Blk.new _ _ _ _ rfl) Tryd.underlying28 rfl HS.out ?_)
      refine (HG.out _).mono ?_
      rintro e w1 ⟨rfl, hb1⟩
      have G := hidd (((Below.refl w.heap.size w).alloc (Nat.le_refl _) (.cells (ccells n k bs).toArray 28)).trans (hb1.mono (by simp)))
      clear hb1
      go_wp2_with (go_at_call 52; refine (in49 _ _ _ _).mono ?_; rintro e w' ⟨rfl, rfl⟩; rw [HIN.out])
      go_ret2
      exact ⟨none, 0, rfl, .inl rfl, G.out⟩
    | true =>
      have hmb := inB_bd h2
      obtain ⟨N, rfl⟩ := Int.eq_ofNat_of_zero_le (show 0 ≤ n by omega)
      obtain ⟨M, rfl⟩ := Int.eq_ofNat_of_zero_le (show 0 ≤ m by omega)
      have HIN := hidd h2
      have HLI := hidd (fun W => list45 N k bs hb c M 201 (by omega) (by omega) (by omega) (by omega) (by omega) W)
      by_cases h3 : 200 < (clqL bs c N M).length
      · have he := cl_3 h0 h2 (c := c) (by rw [Int.toNat_natCast, Int.toNat_natCast]; exact h3)
        rw [he.1, he.2]
        have hlen : ((clqL bs c N M).take 201).length = 201 := by rw [List.length_take]; omega
        rw [hlen] at HLI
        clear he h0 h2 h3 hlen
        go_enter Tryd.func22, Tryd.ntmps22
        go_wp2_with (refine wpList_load_row rfl 28 (.tmp 3) rfl w.heap.size rfl 28 _ (0,0) _ (Blk.new _ _ _ _ rfl) Tryd.underlying28 rfl HS.out ?_)
        refine (HG.out _).mono ?_
        rintro e w1 ⟨rfl, hb1⟩
        have G := hidd (And.intro ((Blk.new w (ccells (N : Int) k bs).toArray 28 _ rfl).below hb1 (by simp)) (((Below.refl w.heap.size w).alloc (Nat.le_refl _) (.cells (ccells (N : Int) k bs).toArray 28)).trans (hb1.mono (by simp))))
        clear hb1
        go_wp2_with (first | (go_at_call 52; refine (in49 _ _ _ _).mono ?_; rintro e w' ⟨rfl, rfl⟩; rw [HIN.out]) | refine wpList_load_row rfl 28 (.tmp 3) rfl w.heap.size rfl 28 _ (0,0) _ G.out.1 Tryd.underlying28 rfl HS.out ?_)
        refine (HLI.out _).mono ?_
        rintro e w2 ⟨a, cap, rfl, hL, hb2⟩
        have G2 := hidd (G.out.2.trans (hb2.mono G.out.2.size))
        clear hb2 hL
        go_wp2_with fail
        go_ret2
        exact ⟨none, 0, rfl, .inl rfl, G2.out⟩
      · have he := cl_0 h0 h2 (c := c) (by rw [Int.toNat_natCast, Int.toNat_natCast]; exact h3)
        rw [Int.toNat_natCast, Int.toNat_natCast] at he
        rw [he.1, he.2]
        have hlen : (clqL bs c N M).take 201 = clqL bs c N M := List.take_of_length_le (by omega)
        rw [hlen] at HLI
        have hl200 : (clqL bs c N M).length ≤ 200 := by omega
        obtain ⟨L, hL⟩ : ∃ L, L = clqL bs c N M := ⟨_, rfl⟩
        rw [← hL] at HLI hl200 ⊢
        clear he h0 h2 h3 hlen hL
        go_enter Tryd.func22, Tryd.ntmps22
        go_wp2_with (refine wpList_load_row rfl 28 (.tmp 3) rfl w.heap.size rfl 28 _ (0,0) _ (Blk.new _ _ _ _ rfl) Tryd.underlying28 rfl HS.out ?_)
        refine (HG.out _).mono ?_
        rintro e w1 ⟨rfl, hb1⟩
        have G := hidd (And.intro ((Blk.new w (ccells (N : Int) k bs).toArray 28 _ rfl).below hb1 (by simp)) (((Below.refl w.heap.size w).alloc (Nat.le_refl _) (.cells (ccells (N : Int) k bs).toArray 28)).trans (hb1.mono (by simp))))
        clear hb1
        go_wp2_with (first | (go_at_call 52; refine (in49 _ _ _ _).mono ?_; rintro e w' ⟨rfl, rfl⟩; rw [HIN.out]) | refine wpList_load_row rfl 28 (.tmp 3) rfl w.heap.size rfl 28 _ (0,0) _ G.out.1 Tryd.underlying28 rfl HS.out ?_)
        refine (HLI.out _).mono ?_
        rintro e w2 ⟨a, cap, rfl, hL, hb2⟩
        obtain ⟨a', cap', hv, hr⟩ := hL.reads
        cases hv
        have G2 := hidd (And.intro hr (G.out.2.trans (hb2.mono G.out.2.size)))
        clear hb2 hL hr
        go_wp2_with fail
        go_ret2
        exact ⟨a, cap, rfl, G2.out.1, G2.out.2⟩
  · have he := cl_1 (m := m) h0
    rw [he.1, he.2]
    obtain ⟨cd, hcd⟩ : ∃ cd, cd = given n k bs c [] := ⟨_, rfl⟩
    rw [← hcd] at HG h0 ⊢
    have hne : (cd != 0) = true := by rw [bne_iff_ne]; exact h0
    have hne2 : (cd == 0) = false := by rw [beq_eq_false_iff_ne]; exact h0
    clear he hcd h0
    go_enter Tryd.func22, Tryd.ntmps22
    go_wp2_with (refine wpList_load_row rfl 28 (.tmp 3) rfl w.heap.size rfl 28 _ (0,0) _ (Blk.new _ _ _ _ rfl) Tryd.underlying28 rfl HS.out ?_)
    refine (HG.out _).mono ?_
    rintro e w1 ⟨rfl, hb1⟩
    have G := hidd (((Below.refl w.heap.size w).alloc (Nat.le_refl _) (.cells (ccells n k bs).toArray 28)).trans (hb1.mono (by simp)))
    clear hb1
    go_wp2_with fail
    go_ret2
    exact ⟨none, 0, rfl, .inl rfl, G.out⟩
end Go.Proofs.YtkiocedhibeieaaDoor
/- CountTriangles: the program answers as the model's list tells. -/
namespace Go.Proofs.YtkiocedhibeieaaDoor
set_option linter.unusedVariables false
set_option linter.unusedSimpArgs false
open Go Go.RowKit Go.Shelf
theorem ct_eq (n k : Int) (bs : List Nat) : (if isCol n k bs then dgL k.toNat (teC bs (eseq n.toNat)) else []) = ctList n k bs := by
  unfold ctList
  rw [show teC bs (eseq n.toNat) = ctF bs n.toNat from funext fun c => teC_cC bs c n.toNat]
theorem ctList_len {n k : Int} {bs : List Nat} : (ctList n k bs).length ≤ 17 := by
  unfold ctList
  split
  · rename_i h
    have := isCol_bd h
    rw [dgL_len]; omega
  · simp
end Go.Proofs.YtkiocedhibeieaaDoor
/- The first clique of a size: nothing of the program. -/
namespace Go.Proofs.YtkiocedhibeieaaDoor
set_option linter.unusedVariables false
set_option linter.unusedSimpArgs false
open Go Go.RowKit Go.Shelf
/-- The first clique of m points of a colour, its points backwards; no point if there is none. -/
def foS (N : Nat) (bs : List Nat) (c : Int) (m : Nat) : List Nat := ((cqE (fitR (rwN bs c N)) N N []).find? fun s => decide (s.length = m)).getD []
theorem foS_take {N : Nat} {bs : List Nat} {c : Int} {m : Nat} (hm : m ≠ 0) : (clqL bs c N m).take 1 = if foS N bs c m = [] then [] else [rv (foS N bs c m)] := by
  rw [clqL_take hm]
  unfold foS
  have h := List.head?_filter (p := fun s : List Nat => decide (s.length = m)) (l := cqE (fitR (rwN bs c N)) N N [])
  rw [← h]
  cases hf : (cqE (fitR (rwN bs c N)) N N []).filter fun s => decide (s.length = m) with
  | nil => simp
  | cons s l =>
    have hs : s ∈ (cqE (fitR (rwN bs c N)) N N []).filter fun s => decide (s.length = m) := by rw [hf]; exact List.mem_cons_self ..
    have hl : s.length = m := by simpa using (List.mem_filter.1 hs).2
    have hne : s ≠ [] := fun e => by subst e; simp at hl; omega
    simp [hne]
theorem foS_ok {N : Nat} {bs : List Nat} {c : Int} {m : Nat} (hN : N ≤ 17) : (foS N bs c m).Pairwise (· > ·) ∧ ∀ q ∈ foS N bs c m, q < 17 := by
  unfold foS
  cases hf : (cqE (fitR (rwN bs c N)) N N []).find? fun s => decide (s.length = m) with
  | none => exact ⟨List.Pairwise.nil, by simp⟩
  | some s =>
    have h := cqE_ok N [] s (Nat.le_refl _) List.Pairwise.nil (by simp) (List.mem_of_find?_eq_some hf)
    exact ⟨h.1, fun q hq => by have := h.2 q hq; omega⟩
theorem foS_X {N : Nat} {bs : List Nat} {c : Int} {m : Nat} (hN : N ≤ 17) : fosX (nsF bs c (eseq N)) N (m : Int) = bitS (foS N bs c m) := by
  unfold fosX foS
  rw [clq_list bs c hN]
  have e : (fun s : List Nat => decide ((s.length : Int) = (m : Int))) = fun s => decide (s.length = m) := by
    funext s
    by_cases h : s.length = m
    · rw [decide_eq_true h, decide_eq_true (by omega)]
    · rw [decide_eq_false h, decide_eq_false (by omega)]
  rw [e]
theorem find_congr {α : Type} {p q : α → Bool} : ∀ (l : List α), (∀ x ∈ l, p x = q x) → l.find? p = l.find? q
  | [], _ => rfl
  | x :: l, h => by
    rw [List.find?_cons, List.find?_cons, h x (List.mem_cons_self ..), find_congr l (fun y hy => h y (List.mem_cons_of_mem _ hy))]
/-- The set that is told for the colour j. -/
def fzS (N : Nat) (bs : List Nat) (zs : List Int) (j : Nat) : List Nat := foS N bs (j : Int) (zs.getD j 0).toNat
/-- The least colour with a clique of its size. -/
def fzI (N : Nat) (bs : List Nat) (zs : List Int) (K : Nat) : Option Nat := (List.range K).find? fun c => decide (fzS N bs zs c ≠ [])
theorem fzI_none {N : Nat} {bs : List Nat} {zs : List Int} {K : Nat} (h : ∀ j, j < K → fzS N bs zs j = []) : fzI N bs zs K = none := by
  unfold fzI
  exact List.find?_eq_none.2 (fun j hj => by rw [h j (List.mem_range.1 hj)]; simp)
theorem fzI_hit {N : Nat} {bs : List Nat} {zs : List Int} {K d : Nat} (h : ∀ j, j < d → fzS N bs zs j = []) (hd : d < K) (h2 : fzS N bs zs d ≠ []) : fzI N bs zs K = some d := by
  unfold fzI
  rw [List.find?_range_eq_some]
  exact ⟨by simpa using h2, List.mem_range.2 hd, fun j hj => by rw [h j hj]; simp⟩
def fzR (N : Nat) (bs : List Nat) (zs : List Int) (K : Nat) : Int × List Int × Int :=
  match fzI N bs zs K with
  | none => (0, [], 4)
  | some c => ((c : Int), rv (fzS N bs zs c), 0)
theorem fzR_none {N : Nat} {bs : List Nat} {zs : List Int} {K : Nat} (h : fzI N bs zs K = none) : fzR N bs zs K = (0, [], 4) := by unfold fzR; rw [h]
theorem fzR_some {N : Nat} {bs : List Nat} {zs : List Int} {K c : Nat} (h : fzI N bs zs K = some c) : fzR N bs zs K = ((c : Int), rv (fzS N bs zs c), 0) := by unfold fzR; rw [h]
theorem fsR_fz {N : Nat} {bs : List Nat} {zs : List Int} {K : Nat} (hN : N ≤ 17) (hsz : szP zs K = true) :
    fsR N bs zs K = match fzI N bs zs K with | none => (0, 0) | some c => (c, bitS (fzS N bs zs c)) := by
  have hz : ∀ j, j < K → fosX (nsF bs (j : Int) (eseq N)) N (zs.getD j 0) = bitS (fzS N bs zs j) := fun j hj => by
    have h1 := inB_bd (szP_get hsz hj)
    unfold fzS
    obtain ⟨m, hm⟩ := Int.eq_ofNat_of_zero_le (show 0 ≤ zs.getD j 0 by omega)
    rw [hm, Int.toNat_natCast]
    exact foS_X hN
  have e : ((List.range K).find? fun (c : Nat) => decide (fosX (nsF bs (c : Int) (eseq N)) N (zs.getD c 0) ≠ 0)) = fzI N bs zs K := by
    unfold fzI
    refine find_congr _ fun j hj => ?_
    rw [hz j (List.mem_range.1 hj)]
    by_cases h : fzS N bs zs j = []
    · rw [h]; rfl
    · have h2 : bitS (fzS N bs zs j) ≠ 0 := fun e => h (bitS_zero.1 e)
      rw [decide_eq_true h, decide_eq_true h2]
  unfold fsR
  rw [e]
  cases hi : fzI N bs zs K with
  | none => rfl
  | some c =>
    have hc : c < K := List.mem_range.1 (List.mem_of_find?_eq_some hi)
    simp only [hz c hc]
def fzC (n k : Int) (bs : List Nat) (zs : List Int) : Int := if szCode n k bs zs = 0 then (fzR n.toNat bs zs k.toNat).1 else 0
def fzL (n k : Int) (bs : List Nat) (zs : List Int) : List Int := if szCode n k bs zs = 0 then (fzR n.toNat bs zs k.toNat).2.1 else []
def fzE (n k : Int) (bs : List Nat) (zs : List Int) : Int := if szCode n k bs zs = 0 then (fzR n.toNat bs zs k.toNat).2.2 else szCode n k bs zs
theorem fz_bad {n k : Int} {bs : List Nat} {zs : List Int} (h : szCode n k bs zs ≠ 0) : fzC n k bs zs = 0 ∧ fzL n k bs zs = [] ∧ fzE n k bs zs = szCode n k bs zs := by
  unfold fzC fzL fzE; rw [if_neg h, if_neg h, if_neg h]; exact ⟨rfl, rfl, rfl⟩
theorem fz_good {n k : Int} {bs : List Nat} {zs : List Int} (h : szCode n k bs zs = 0) : fzC n k bs zs = (fzR n.toNat bs zs k.toNat).1 ∧ fzL n k bs zs = (fzR n.toNat bs zs k.toNat).2.1 ∧ fzE n k bs zs = (fzR n.toNat bs zs k.toNat).2.2 := by
  unfold fzC fzL fzE; rw [if_pos h, if_pos h, if_pos h]; exact ⟨rfl, rfl, rfl⟩
theorem sz_ok {n k : Int} {bs : List Nat} {zs : List Int} (h : szCode n k bs zs = 0) : isCol n k bs = true ∧ szOk k zs = true := by
  cases h1 : isCol n k bs with
  | false => rw [szCode_1 h1] at h; omega
  | true =>
    cases h2 : szOk k zs with
    | false => rw [szCode_2 h1 h2] at h; omega
    | true => exact ⟨rfl, rfl⟩
theorem pw_len : ∀ {s : List Nat} {m : Nat}, s.Pairwise (· > ·) → (∀ q ∈ s, q < m) → s.length ≤ m
  | [], _, _, _ => Nat.zero_le _
  | q :: s, m, h, hb => by
    rw [List.pairwise_cons] at h
    have h1 := pw_len h.2 h.1
    have h2 := hb q (List.mem_cons_self ..)
    simp; omega
theorem fzL_len {n k : Int} {bs : List Nat} {zs : List Int} : (fzL n k bs zs).length ≤ 17 := by
  by_cases h : szCode n k bs zs = 0
  · rw [(fz_good h).2.1]
    obtain ⟨n1, n2, k1, k2⟩ := isCol_bd (sz_ok h).1
    unfold fzR
    split
    · simp
    · rename_i c _
      have ho := foS_ok (bs := bs) (c := (c : Int)) (m := (zs.getD c 0).toNat) (show n.toNat ≤ 17 by omega)
      show (rv _).length ≤ 17
      rw [rv_len]
      exact pw_len ho.1 ho.2
  · rw [(fz_bad h).2.1]; simp
end Go.Proofs.YtkiocedhibeieaaDoor
/- FirstOfSizes: the program. -/
namespace Go.Proofs.YtkiocedhibeieaaDoor
set_option linter.unusedVariables false
set_option linter.unusedSimpArgs false
open Go Go.RowKit Go.Shelf
/-- A number, a list of the call's own and a code. -/
def NOut (w : World) (c : Int) (zs : List Int) (code : Int) (e : Ending) (w' : World) : Prop :=
  ∃ a cap, e = .returned (.tuple #[.int .i64 c, .slice a zs.length cap, .int .i64 code]) ∧ OwnL w' w.heap.size a zs ∧ Below w.heap.size w w'
theorem fsR_no {N : Nat} {bs : List Nat} {zs : List Int} {K : Nat} (hN : N ≤ 17) (hsz : szP zs K = true) (h : fzI N bs zs K = none) : fsR N bs zs K = (0, 0) := by
  have := fsR_fz (bs := bs) hN hsz
  rw [h] at this
  exact this
theorem fsR_yes {N : Nat} {bs : List Nat} {zs : List Int} {K d : Nat} (hN : N ≤ 17) (hsz : szP zs K = true) (h : fzI N bs zs K = some d) : fsR N bs zs K = (d, bitS (fzS N bs zs d)) := by
  have := fsR_fz (bs := bs) hN hsz
  rw [h] at this
  exact this
set_option maxRecDepth 100000 in
set_option maxHeartbeats 2000000 in
theorem impl16 (n k : Int) (bs : List Nat) (hb : Bys bs) (zs : List Int) (a : Option Addr) (cap : Nat) (w : World) (hT : Tz w) (hw0 : 0 < w.heap.size) (hs : SlI w a zs) (hl : zs.length ≤ 1048576) (hcap : zs.length ≤ cap) :
    Calls Tryd.prog 16 #[.agg (ccells n k bs).toArray, .slice a zs.length cap] w (NOut w (fzC n k bs zs) (fzL n k bs zs) (fzE n k bs zs)) := by
  have HS := hidd (size_c26 n k hb)
  have HC1 := hidd (show (ccells n k bs).toArray[1]? = some (.int .i64 k) from rfl)
  have HSL := hidd hs
  have HT := hidd hT
  have HSZ := hidd (fun W h => sizes30 k zs a cap W h hl)
  clear hT
  cases hi : isCol n k bs with
  | false =>
    have hc1 := szCode_1 (zs := zs) hi
    have hg := fz_bad (n := n) (k := k) (bs := bs) (zs := zs) (by rw [hc1]; omega)
    rw [hg.1, hg.2.1, hg.2.2, hc1]
    have HI := hidd hi
    clear hi hc1 hg hs
    go_enter Tryd.func16, Tryd.ntmps16
    go_wp2_with (refine wpList_load_row rfl 28 (.tmp 2) rfl w.heap.size rfl 28 _ (0,0) _ (Blk.new _ _ _ _ rfl) Tryd.underlying28 rfl HS.out ?_)
    refine (implIs_any n k bs hb _).mono ?_
    rintro e w1 ⟨rfl, hb1⟩
    rw [HI.out]
    have G := hidd (((Below.refl w.heap.size w).alloc (Nat.le_refl _) (.cells (ccells n k bs).toArray 28)).trans (hb1.mono (by simp)))
    clear hb1
    go_wp2_with fail
    go_ret3
    exact ⟨none, 0, rfl, .inl rfl, G.out⟩
  | true =>
    obtain ⟨n1, n2, k1, k2⟩ := isCol_bd hi
    have HI := hidd hi
    cases hok : szOk k zs with
    | false =>
      have hc2 := szCode_2 hi hok
      have hg := fz_bad (n := n) (k := k) (bs := bs) (zs := zs) (by rw [hc2]; omega)
      rw [hg.1, hg.2.1, hg.2.2, hc2]
      have HOK := hidd hok
      clear hi hc2 hg hs hok
      go_enter Tryd.func16, Tryd.ntmps16
      go_wp2_with (refine wpList_load_row rfl 28 (.tmp 2) rfl w.heap.size rfl 28 _ (0,0) _ (Blk.new _ _ _ _ rfl) Tryd.underlying28 rfl HS.out ?_)
      refine (implIs_any n k bs hb _).mono ?_
      rintro e w1 ⟨rfl, hb1⟩
      rw [HI.out]
      have c1 := ((Blk.new w (ccells n k bs).toArray 28 _ rfl).below hb1 (by simp)).cell HC1.out
      have G := hidd (((Below.refl w.heap.size w).alloc (Nat.le_refl _) (.cells (ccells n k bs).toArray 28)).trans (hb1.mono (by simp)))
      have HZ := hidd (HSZ.out _ (HSL.out.below G.out (Nat.le_refl _)))
      clear hb1
      go_wp2_with (go_at_call 45; refine HZ.out.mono ?_; rintro e w' ⟨rfl, rfl⟩; rw [HOK.out])
      go_ret3
      exact ⟨none, 0, rfl, .inl rfl, G.out⟩
    | true =>
      have hc0 := szCode_0 hi hok
      have HOK := hidd hok
      have hg := fz_good (n := n) (k := k) (bs := bs) (zs := zs) hc0
      unfold szOk at hok
      rw [Bool.and_eq_true] at hok
      have hlk := of_decide_eq_true hok.1
      obtain ⟨N, rfl⟩ := Int.eq_ofNat_of_zero_le (show 0 ≤ n by omega)
      obtain ⟨K, rfl⟩ := Int.eq_ofNat_of_zero_le (show 0 ≤ k by omega)
      have hlK : zs.length = K := by omega
      have hsz : szP zs K = true := by rw [← hlK]; exact hok.2
      rw [Int.toNat_natCast, Int.toNat_natCast] at hg
      rw [hg.1, hg.2.1, hg.2.2]
      have hFS := fun W h => firsts31 N K bs hb zs a cap W h hlK (by omega) (by omega) (by omega)
      rw [hlK] at HSZ ⊢
      cases hfi : fzI N bs zs K with
      | none =>
        have HR := hidd (fzR_none hfi)
        have hfr := fsR_no (N := N) (bs := bs) (by omega) hsz hfi
        rw [hfr] at hFS
        have HFS := hidd hFS
        clear hFS hfr hfi hi hc0 hok hlk hg hs hlK hl hsz
        go_enter Tryd.func16, Tryd.ntmps16
        go_wp2_with (refine wpList_load_row rfl 28 (.tmp 2) rfl w.heap.size rfl 28 _ (0,0) _ (Blk.new _ _ _ _ rfl) Tryd.underlying28 rfl HS.out ?_)
        refine (implIs_any (N : Int) (K : Int) bs hb _).mono ?_
        rintro e w1 ⟨rfl, hb1⟩
        rw [HI.out]
        have B1 := ((Blk.new w (ccells (N : Int) (K : Int) bs).toArray 28 _ rfl).below hb1 (by simp))
        have c1 := B1.cell HC1.out
        have G := hidd (And.intro B1 (((Below.refl w.heap.size w).alloc (Nat.le_refl _) (.cells (ccells (N : Int) (K : Int) bs).toArray 28)).trans (hb1.mono (by simp))))
        have HZ := hidd (HSZ.out _ (HSL.out.below G.out.2 (Nat.le_refl _)))
        have HF := hidd (HFS.out w1 (HSL.out.below G.out.2 (Nat.le_refl _)))
        clear hb1 B1
        go_wp2_with (first | (go_at_call 45; refine HZ.out.mono ?_; rintro e w' ⟨rfl, rfl⟩; rw [HOK.out]) | refine wpList_load_row rfl 28 (.tmp 2) rfl w.heap.size rfl 28 _ (0,0) _ G.out.1 Tryd.underlying28 rfl HS.out ?_)
        refine HF.out.mono ?_
        rintro e w2 ⟨rfl, hb2⟩
        have R := hidd (G.out.2.trans (hb2.mono G.out.2.size))
        clear hb2
        go_wp2_with fail
        go_ret3
        rw [HR.out]
        exact ⟨none, 0, rfl, .inl rfl, R.out⟩
      | some d =>
        have HR := hidd (fzR_some hfi)
        have hfr := fsR_yes (N := N) (bs := bs) (by omega) hsz hfi
        rw [hfr] at hFS
        have hne : fzS N bs zs d ≠ [] := by
          have := List.find?_some hfi
          simpa using this
        have ho : (fzS N bs zs d).Pairwise (· > ·) ∧ ∀ q ∈ fzS N bs zs d, q < 17 := foS_ok (by omega)
        have hP := fun W hW h0 => points47 (fzS N bs zs d) ho.1 ho.2 W hW h0
        have hx0 : bitS (fzS N bs zs d) ≠ 0 := fun e => hne (bitS_zero.1 e)
        have hle : (fzS N bs zs d).length = (rv (fzS N bs zs d)).length := (rv_len _).symm
        rw [hle] at hP
        obtain ⟨Z, hZ⟩ : ∃ Z, Z = rv (fzS N bs zs d) := ⟨_, rfl⟩
        obtain ⟨X, hX⟩ : ∃ X, X = bitS (fzS N bs zs d) := ⟨_, rfl⟩
        rw [← hZ] at HR
        rw [← hX] at hFS hx0
        rw [← hX, ← hZ] at hP
        have HP := hidd hP
        have HFS := hidd hFS
        have hXI : ((X : Int) == 0) = false := by simp; omega
        clear hFS hfr hfi hi hc0 hok hlk hg hs hlK hl hsz hP ho hne hle hX hZ hx0
        go_enter Tryd.func16, Tryd.ntmps16
        go_wp2_with (refine wpList_load_row rfl 28 (.tmp 2) rfl w.heap.size rfl 28 _ (0,0) _ (Blk.new _ _ _ _ rfl) Tryd.underlying28 rfl HS.out ?_)
        refine (implIs_any (N : Int) (K : Int) bs hb _).mono ?_
        rintro e w1 ⟨rfl, hb1⟩
        rw [HI.out]
        have B1 := ((Blk.new w (ccells (N : Int) (K : Int) bs).toArray 28 _ rfl).below hb1 (by simp))
        have c1 := B1.cell HC1.out
        have G := hidd (And.intro B1 (((Below.refl w.heap.size w).alloc (Nat.le_refl _) (.cells (ccells (N : Int) (K : Int) bs).toArray 28)).trans (hb1.mono (by simp))))
        have HZ := hidd (HSZ.out _ (HSL.out.below G.out.2 (Nat.le_refl _)))
        have HF := hidd (HFS.out w1 (HSL.out.below G.out.2 (Nat.le_refl _)))
        clear hb1 B1
        go_wp2_with (first | (go_at_call 45; refine HZ.out.mono ?_; rintro e w' ⟨rfl, rfl⟩; rw [HOK.out]) | refine wpList_load_row rfl 28 (.tmp 2) rfl w.heap.size rfl 28 _ (0,0) _ G.out.1 Tryd.underlying28 rfl HS.out ?_)
        refine HF.out.mono ?_
        rintro e w2 ⟨rfl, hb2⟩
        have R := hidd (G.out.2.trans (hb2.mono G.out.2.size))
        have HT2 := hidd (HT.out.below R.out hw0)
        clear hb2
        go_wp2_with fail
        refine (HP.out _ HT2.out (by have := R.out.size; omega)).mono ?_
        rintro e w3 ⟨a3, cap3, rfl, ho3, hb3⟩
        have R3 := hidd (And.intro (ownL_base ho3 R.out.size) (R.out.trans (hb3.mono R.out.size)))
        clear ho3 hb3
        go_wp2_with fail
        go_ret3
        rw [HR.out]
        exact ⟨a3, cap3, rfl, R3.out.1, R3.out.2⟩
end Go.Proofs.YtkiocedhibeieaaDoor
/- FirstOfSizes: its model. -/
namespace Go.Proofs.YtkiocedhibeieaaDoor
set_option linter.unusedVariables false
set_option linter.unusedSimpArgs false
open Go Go.RowKit Go.Shelf
/-- A number, a list and a code; the list need not be new. -/
def NOut0 (w : World) (c : Int) (zs : List Int) (code : Int) (e : Ending) (w' : World) : Prop :=
  ∃ a cap, e = .returned (.tuple #[.int .i64 c, .slice a zs.length cap, .int .i64 code]) ∧ OwnL w' 0 a zs ∧ Below w.heap.size w w'
set_option maxRecDepth 100000 in
set_option maxHeartbeats 2000000 in
theorem spec13f (n k : Int) (bs : List Nat) (hb : Bys bs) (zs : List Int) (a : Option Addr) (cap : Nat) (w : World) (hs : SlI w a zs) (hl : zs.length ≤ 1048576) :
    Calls Tryd.prog 13 #[.agg (ccells n k bs).toArray, .slice a zs.length cap] w (NOut0 w (fzC n k bs zs) (fzL n k bs zs) (fzE n k bs zs)) := by
  have HS := hidd (size_c26 n k hb)
  have HSC := hidd (fun W h => sizes28 n k bs hb zs a cap W h hl)
  have HSL := hidd hs
  by_cases hc0 : szCode n k bs zs = 0
  · obtain ⟨hi, ho⟩ := sz_ok hc0
    obtain ⟨n1, n2, k1, k2⟩ := isCol_bd hi
    unfold szOk at ho
    rw [Bool.and_eq_true] at ho
    have hlk := of_decide_eq_true ho.1
    obtain ⟨N, rfl⟩ := Int.eq_ofNat_of_zero_le (show 0 ≤ n by omega)
    obtain ⟨K, rfl⟩ := Int.eq_ofNat_of_zero_le (show 0 ≤ k by omega)
    have hlK : zs.length = K := by omega
    have hg := fz_good hc0
    rw [Int.toNat_natCast, Int.toNat_natCast] at hg
    rw [hg.1, hg.2.1, hg.2.2]
    rw [hc0] at HSC
    have HSZ := hidd (show szP zs K = true by rw [← hlK]; exact ho.2)
    have n1N : 1 ≤ N := by omega
    have hN17 : N ≤ 17 := by omega
    have hK4 : K ≤ 4 := by omega
    have HC1 := hidd (show (ccells (N : Int) (K : Int) bs).toArray[1]? = some (.int .i64 (K : Int)) from rfl)
    have HLZ := hidd hlK
    rw [hlK] at HSC ⊢
    clear hi hc0 ho hlk hg hs hlK hl
    go_enter Tryd.func13, Tryd.ntmps13
    go_wp2_with (refine wpList_load_row rfl 28 (.tmp 2) rfl w.heap.size rfl 28 _ (0,0) _ (Blk.new _ _ _ _ rfl) Tryd.underlying28 rfl HS.out ?_)
    have hbA : Below w.heap.size w (w.alloc (.cells (ccells (N : Int) (K : Int) bs).toArray 28)) := (Below.refl w.heap.size w).alloc (Nat.le_refl _) _
    refine (HSC.out _ (HSL.out.below hbA (Nat.le_refl _))).mono ?_
    rintro e w1 ⟨rfl, hb1⟩
    have G := hidd (And.intro ((Blk.new w (ccells (N : Int) (K : Int) bs).toArray 28 _ rfl).below hb1 (by simp)) (hbA.trans (hb1.mono (by simp))))
    clear hb1 hbA
    go_wp2_with fail
    go_loopw [8] (fun e wr => ∃ d : Nat, d ≤ K ∧ e = .int .i64 (d : Int) ∧ Hid ((∀ j, j < d → fzS N bs zs j = []) ∧ Blk wr w.heap.size (ccells (N : Int) (K : Int) bs).toArray 28 ∧ Below w.heap.size w wr)) (fun e _ => K - (intOf e).toNat)
    case atStart => exact ⟨0, Nat.zero_le _, rfl, fun j hj => by omega, G.out.1, G.out.2⟩
    case round =>
      obtain ⟨d, hd, rfl, HK⟩ := hrel
      have c1 := HK.out.2.1.cell HC1.out
      by_cases hlt : d < K
      · have hin := inB_bd (szP_get HSZ.out hlt)
        obtain ⟨m, hm⟩ := Int.eq_ofNat_of_zero_le (show 0 ≤ zs.getD d 0 by omega)
        have hm17 : m ≤ 17 := by omega
        have hm0 : m ≠ 0 := by omega
        rcases HSL.out with hz | ⟨bl, off, ha, hc⟩
        · have := HLZ.out; rw [hz] at this; simp at this; omega
        · subst ha
          have hcd := hc d (by have := HLZ.out; omega)
          rw [hm] at hcd
          have cj := cell_below hcd HK.out.2.2
          have htk := foS_take (N := N) (bs := bs) (c := (d : Int)) hm0
          have hfz : fzS N bs zs d = foS N bs (d : Int) m := by unfold fzS; rw [hm, Int.toNat_natCast]
          rw [← hfz] at htk
          have HLI := hidd (fun W => list45 N (K : Int) bs hb (d : Int) m 1 n1N hN17 (by omega) (by omega) (by omega) W)
          rw [htk] at HLI
          have HCB := hidd (fun W (h : Blk W w.heap.size (ccells (N : Int) (K : Int) bs).toArray 28) (h2 : W.cell? ⟨bl, off + d, none⟩ = some (.int .i64 (m : Int))) => (And.intro h h2 : Blk W w.heap.size (ccells (N : Int) (K : Int) bs).toArray 28 ∧ W.cell? ⟨bl, off + d, none⟩ = some (.int .i64 (m : Int))))
          have HRG := hidd (fun W (h : Blk W w.heap.size (ccells (N : Int) (K : Int) bs).toArray 28 ∧ W.cell? ⟨bl, off + d, none⟩ = some (.int .i64 (m : Int))) => h.1.range 0 (ccells (N : Int) (K : Int) bs) (fun j v hj => by simpa using hj))
          have HSZ2 := hidd (show (Tryd.prog.info? 28).map (·.size) = some (ccells (N : Int) (K : Int) bs).length by rw [HS.out]; simp)
          have HCD := hidd (fun W (h : Below w.heap.size w W) => cell_below hcd h)
          by_cases hx : fzS N bs zs d = []
          · have HX := hidd hx
            rw [if_pos hx] at HLI
            clear hc hcd htk hfz hx hm hm0 hin
            go_wp2_with fail
            refine wp_region_held_drew (S := (fun W => Blk W w.heap.size (ccells (N : Int) (K : Int) bs).toArray 28 ∧ W.cell? ⟨bl, off + d, none⟩ = some (.int .i64 (m : Int)))) (by kernel_rfl) ?_ (fun hHeld => ?_)
            · exact HCB.out _ HK.out.2.1 cj
            refine wpAnyH_take (i := 0) (oi := _) (v := _) rfl (by kernel_rfl) (by kernel_rfl) (by kernel_rfl) (fun _ _ _ h => h) (yieldsIf_load_mid (by rfl) _ _ rfl _ _ rfl _ _ (HRG.out) Tryd.underlying28 rfl (HSZ2.out)) (by assumption) ?_
            simp only [List.getElem_toArray, List.getElem_cons_succ, List.getElem_cons_zero, Act.put, List.setIfInBounds_toArray, List.set_cons_zero, List.set_cons_succ]
            refine wpAnyH_take (i := 1) (oi := _) (v := ?_) rfl (by kernel_rfl) (by kernel_rfl) (by kernel_rfl) (fun _ _ _ h => h) (Or.inl ⟨by rfl, ?_⟩) (by assumption) ?_
            rotate_left
            · intro wX hSw; (try dsimp only at hSw); go_simp; first | done | with_reducible rfl
            simp only [List.getElem_toArray, List.getElem_cons_succ, List.getElem_cons_zero, Act.put, List.setIfInBounds_toArray, List.set_cons_zero, List.set_cons_succ]
            refine wpAnyH_take (i := 2) (oi := _) (v := ?_) rfl (by kernel_rfl) (by kernel_rfl) (by kernel_rfl) (fun _ _ _ h => h) (Or.inl ⟨by rfl, ?_⟩) (by assumption) ?_
            rotate_left
            · intro wX hSw; (try dsimp only at hSw); go_simp; first | done | with_reducible rfl
            simp only [List.getElem_toArray, List.getElem_cons_succ, List.getElem_cons_zero, Act.put, List.setIfInBounds_toArray, List.set_cons_zero, List.set_cons_succ]
            refine wpAnyH_take (i := 3) (oi := _) (v := ?_) rfl (by kernel_rfl) (by kernel_rfl) (by kernel_rfl) (fun _ _ _ h => h) (Or.inl ⟨by rfl, ?_⟩) (by assumption) ?_
            rotate_left
            · intro wX hSw; (try dsimp only at hSw); go_simp; first | done | with_reducible rfl
            simp only [List.getElem_toArray, List.getElem_cons_succ, List.getElem_cons_zero, Act.put, List.setIfInBounds_toArray, List.set_cons_zero, List.set_cons_succ]
            refine wpAnyH_take (i := 4) (oi := _) (v := ?_) rfl (by kernel_rfl) (by kernel_rfl) (by kernel_rfl) (fun _ _ _ h => h) (Or.inl ⟨by rfl, ?_⟩) (by assumption) ?_
            rotate_left
            · intro wX hSw; (try dsimp only at hSw); go_simp; first | done | with_reducible rfl
            simp only [List.getElem_toArray, List.getElem_cons_succ, List.getElem_cons_zero, Act.put, List.setIfInBounds_toArray, List.set_cons_zero, List.set_cons_succ]
            refine wpAnyH_take (i := 5) (oi := _) (v := ?_) rfl (by kernel_rfl) (by kernel_rfl) (by kernel_rfl) (fun _ _ _ h => h) (Or.inl ⟨by rfl, ?_⟩) (by assumption) ?_
            rotate_left
            · intro wX hSw; (try dsimp only at hSw); go_simp; first | done | with_reducible rfl
            simp only [List.getElem_toArray, List.getElem_cons_succ, List.getElem_cons_zero, Act.put, List.setIfInBounds_toArray, List.set_cons_zero, List.set_cons_succ]
            refine wpAnyH_ready (rs := [6]) (by kernel_rfl) (by simp) (AllReadyH.cons (o := _) rfl (fun KQ hKQ => ?_) AllReadyH.nil)
            go_simp
            go_wp2_with (refine (HLI.out _).mono ?_; rintro e W1 ⟨a1, c1', rfl, hLX, hbY⟩; have hbX : Below w.heap.size w W1 := HK.out.2.2.trans ((((Below.refl wr.heap.size wr).drew).trans hbY).mono HK.out.2.2.size); have hbC : Blk W1 w.heap.size (ccells (N : Int) (K : Int) bs).toArray 28 := HK.out.2.1.below (((Below.refl wr.heap.size wr).drew).trans hbY) HK.out.2.1.lt)
            refine hKQ.out _ _ ?_ (fun hNext => ?_)
            · exact HCB.out _ hbC (HCD.out _ hbX)
            clear hKQ KQ hHeld
            have hHeld := hNext
            clear hNext
            have K1 := hidd (And.intro hbC hbX)
            clear hbC hbX hbY hLX
            refine wpAnyH_ready (rs := [7]) (by kernel_rfl) (by simp) (AllReadyH.cons (o := _) rfl (fun KQ hKQ => ?_) AllReadyH.nil)
            go_simp
            refine hKQ.out _ _ ?_ (fun hNext => ?_)
            · exact hHeld
            clear hKQ KQ hHeld
            have hHeld := hNext
            clear hNext
            refine wpAnyH_done (by kernel_rfl) ?_ _
            clear hHeld cj
            go_wp2_with fail
            go_roundw
            case rel => exact ⟨d + 1, by omega, by go_num, ⟨fun j hj => by
              by_cases e : j = d
              · subst e; exact HX.out
              · exact HK.out.1 j (by omega), K1.out⟩⟩
            case measure => simp [intOf]; omega
          · have HR := hidd (fzR_some (fzI_hit HK.out.1 hlt hx))
            rw [if_neg hx] at HLI
            obtain ⟨Z, hZ⟩ : ∃ Z, Z = rv (fzS N bs zs d) := ⟨_, rfl⟩
            rw [← hZ] at HLI HR
            clear hc hcd htk hfz hx hm hm0 hin hZ
            go_wp2_with fail
            refine wp_region_held_drew (S := (fun W => Blk W w.heap.size (ccells (N : Int) (K : Int) bs).toArray 28 ∧ W.cell? ⟨bl, off + d, none⟩ = some (.int .i64 (m : Int)))) (by kernel_rfl) ?_ (fun hHeld => ?_)
            · exact HCB.out _ HK.out.2.1 cj
            refine wpAnyH_take (i := 0) (oi := _) (v := _) rfl (by kernel_rfl) (by kernel_rfl) (by kernel_rfl) (fun _ _ _ h => h) (yieldsIf_load_mid (by rfl) _ _ rfl _ _ rfl _ _ (HRG.out) Tryd.underlying28 rfl (HSZ2.out)) (by assumption) ?_
            simp only [List.getElem_toArray, List.getElem_cons_succ, List.getElem_cons_zero, Act.put, List.setIfInBounds_toArray, List.set_cons_zero, List.set_cons_succ]
            refine wpAnyH_take (i := 1) (oi := _) (v := ?_) rfl (by kernel_rfl) (by kernel_rfl) (by kernel_rfl) (fun _ _ _ h => h) (Or.inl ⟨by rfl, ?_⟩) (by assumption) ?_
            rotate_left
            · intro wX hSw; (try dsimp only at hSw); go_simp; first | done | with_reducible rfl
            simp only [List.getElem_toArray, List.getElem_cons_succ, List.getElem_cons_zero, Act.put, List.setIfInBounds_toArray, List.set_cons_zero, List.set_cons_succ]
            refine wpAnyH_take (i := 2) (oi := _) (v := ?_) rfl (by kernel_rfl) (by kernel_rfl) (by kernel_rfl) (fun _ _ _ h => h) (Or.inl ⟨by rfl, ?_⟩) (by assumption) ?_
            rotate_left
            · intro wX hSw; (try dsimp only at hSw); go_simp; first | done | with_reducible rfl
            simp only [List.getElem_toArray, List.getElem_cons_succ, List.getElem_cons_zero, Act.put, List.setIfInBounds_toArray, List.set_cons_zero, List.set_cons_succ]
            refine wpAnyH_take (i := 3) (oi := _) (v := ?_) rfl (by kernel_rfl) (by kernel_rfl) (by kernel_rfl) (fun _ _ _ h => h) (Or.inl ⟨by rfl, ?_⟩) (by assumption) ?_
            rotate_left
            · intro wX hSw; (try dsimp only at hSw); go_simp; first | done | with_reducible rfl
            simp only [List.getElem_toArray, List.getElem_cons_succ, List.getElem_cons_zero, Act.put, List.setIfInBounds_toArray, List.set_cons_zero, List.set_cons_succ]
            refine wpAnyH_take (i := 4) (oi := _) (v := ?_) rfl (by kernel_rfl) (by kernel_rfl) (by kernel_rfl) (fun _ _ _ h => h) (Or.inl ⟨by rfl, ?_⟩) (by assumption) ?_
            rotate_left
            · intro wX hSw; (try dsimp only at hSw); go_simp; first | done | with_reducible rfl
            simp only [List.getElem_toArray, List.getElem_cons_succ, List.getElem_cons_zero, Act.put, List.setIfInBounds_toArray, List.set_cons_zero, List.set_cons_succ]
            refine wpAnyH_take (i := 5) (oi := _) (v := ?_) rfl (by kernel_rfl) (by kernel_rfl) (by kernel_rfl) (fun _ _ _ h => h) (Or.inl ⟨by rfl, ?_⟩) (by assumption) ?_
            rotate_left
            · intro wX hSw; (try dsimp only at hSw); go_simp; first | done | with_reducible rfl
            simp only [List.getElem_toArray, List.getElem_cons_succ, List.getElem_cons_zero, Act.put, List.setIfInBounds_toArray, List.set_cons_zero, List.set_cons_succ]
            refine wpAnyH_ready (rs := [6]) (by kernel_rfl) (by simp) (AllReadyH.cons (o := _) rfl (fun KQ hKQ => ?_) AllReadyH.nil)
            go_simp
            go_wp2_with (refine (HLI.out _).mono ?_; rintro e W1 ⟨a1, c1', rfl, hLX, hbY⟩; have hbX : Below w.heap.size w W1 := HK.out.2.2.trans ((((Below.refl wr.heap.size wr).drew).trans hbY).mono HK.out.2.2.size); have hbC : Blk W1 w.heap.size (ccells (N : Int) (K : Int) bs).toArray 28 := HK.out.2.1.below (((Below.refl wr.heap.size wr).drew).trans hbY) HK.out.2.1.lt)
            refine hKQ.out _ _ ?_ (fun hNext => ?_)
            · exact HCB.out _ hbC (HCD.out _ hbX)
            clear hKQ KQ hHeld
            have hHeld := hNext
            clear hNext
            obtain ⟨g, cap1, hv, a2, c2, hcell, hown⟩ := ll_first hLX
            cases hv
            have K1 := hidd (And.intro hbX hown)
            clear hbC hbX hbY hLX hown
            refine wpAnyH_ready (rs := [7]) (by kernel_rfl) (by simp) (AllReadyH.cons (o := _) rfl (fun KQ hKQ => ?_) AllReadyH.nil)
            go_simp
            refine hKQ.out _ _ ?_ (fun hNext => ?_)
            · exact hHeld
            clear hKQ KQ hHeld
            have hHeld := hNext
            clear hNext
            refine wpAnyH_done (by kernel_rfl) ?_ _
            clear hHeld cj
            go_wp2_with fail
            go_quiet (fail)
            go_wp2_with fail
            go_ret3
            rw [HR.out]
            exact ⟨a2, c2, rfl, OwnL.below K1.out.2 (below_drewN (Below.refl _ _) _) (Nat.le_refl _), below_drewN K1.out.1 _⟩
      · have hde : d = K := by omega
        have HP := hidd (fzR_none (fzI_none (K := K) (fun j hj => HK.out.1 j (by omega))))
        have hltI : decide ((d : Int) < (K : Int)) = false := by simp; omega
        clear hde
        go_wp2_with fail
        go_ret3
        rw [HP.out]
        exact ⟨none, 0, rfl, .inl rfl, HK.out.2.2⟩
  · have hg := fz_bad hc0
    rw [hg.1, hg.2.1, hg.2.2]
    obtain ⟨cd, hcd⟩ : ∃ cd, cd = szCode n k bs zs := ⟨_, rfl⟩
    rw [← hcd] at HSC hc0 ⊢
    have hz : (cd != 0) = true := by rw [bne_iff_ne]; exact hc0
    clear hg hcd hs hc0
    go_enter Tryd.func13, Tryd.ntmps13
    go_wp2_with (refine wpList_load_row rfl 28 (.tmp 2) rfl w.heap.size rfl 28 _ (0,0) _ (Blk.new _ _ _ _ rfl) Tryd.underlying28 rfl HS.out ?_)
    have hbA : Below w.heap.size w (w.alloc (.cells (ccells n k bs).toArray 28)) := (Below.refl w.heap.size w).alloc (Nat.le_refl _) _
    refine (HSC.out _ (HSL.out.below hbA (Nat.le_refl _))).mono ?_
    rintro e w1 ⟨rfl, hb1⟩
    have G := hidd (hbA.trans (hb1.mono (by simp)))
    clear hb1 hbA
    go_wp2_with fail
    go_ret3
    exact ⟨none, 0, rfl, .inl rfl, G.out⟩
end Go.Proofs.YtkiocedhibeieaaDoor
/- My texts Law, Laws, Keep, in one. -/
/- What every law's proof wants of the program as a whole. -/
namespace Go.Proofs.YtkiocedhibeieaaDoor
open Go Go.RowKit Go.ChangeShapes Go.WideShapes Go.ChangeAt
theorem own : ownKnob Tryd.prog.godebug = none := by kernel_rfl
theorem laidOut : laidOutB Tryd.prog = true := by kernel_rfl
theorem read24 : Tryd.prog.readableRec 24 = true := by kernel_rfl
theorem read2 : Tryd.prog.readableRec 2 = true := by kernel_rfl
theorem read29 : Tryd.prog.readableRec 25 = true := by kernel_rfl
theorem row24 : 24 < Tryd.prog.types.size := of_decide_eq_true (by kernel_rfl)
theorem row2 : 2 < Tryd.prog.types.size := of_decide_eq_true (by kernel_rfl)
theorem row29 : 25 < Tryd.prog.types.size := of_decide_eq_true (by kernel_rfl)
set_option maxRecDepth 100000 in
/-- A number that came in. -/
theorem open_num {H : Type} {enc : TypeId × Value → H} {w : World} {base : Nat} {spare : Nat → Bool} {held : Bool} {v : Value} {d : DataW H} {ps : List MemPlace} {r : Reach} {b : Nat}
    (hv : Value.okWide Tryd.prog w r b 2 v) (h : DataW.Trod enc Tryd.prog w base spare held 2 v d ps) : ∃ n, v = .int .i64 n ∧ -9223372036854775808 ≤ n ∧ n ≤ 9223372036854775807 := by
  obtain ⟨n, rfl, _, _, wn⟩ := open_int Tryd.underlying2 hv h
  exact ⟨n, rfl, i64_bd wn⟩
theorem lt_of_trod {H : Type} {enc : TypeId × Value → H} {w : World} {spare : Nat → Bool} {held : Bool} {t : TypeId} {v : Value} {d : DataW H} {ps : List MemPlace}
    (h : DataW.Trod enc Tryd.prog w 0 spare held t v d ps) : ∀ x ∈ ps, x.block < w.heap.size := by
  obtain ⟨m, hm⟩ := h; exact DataW.trod_lt m _ _ _ hm
end Go.Proofs.YtkiocedhibeieaaDoor
/- Lists that came in. -/
namespace Go.Proofs.YtkiocedhibeieaaDoor
set_option linter.unusedVariables false
set_option linter.unusedSimpArgs false
open Go Go.RowKit Go.ChangeShapes Go.WideShapes Go.ChangeAt
set_option maxRecDepth 100000 in
theorem open_list {H : Type} {enc : TypeId × Value → H} {w : World} {base : Nat} {held : Bool} {v : Value} {d : DataW H} {ps : List MemPlace} {r : Reach} {b : Nat}
    (hv : Value.okWide Tryd.prog w r b 25 v) (h : DataW.Trod enc Tryd.prog w base (fun _ => true) held 25 v d ps) :
    ∃ a zs cap, v = .slice a (zs : List Int).length cap ∧ SlI w a zs ∧ zs.length ≤ 9223372036854775807 ∧ ∀ j, j < zs.length → -9223372036854775808 ≤ zs.getD j 0 ∧ zs.getD j 0 ≤ 9223372036854775807 := by
  obtain ⟨a, len, cap, rfl⟩ := okWide_slice Tryd.underlying25 hv
  obtain ⟨fuel, hf⟩ := h
  rcases open_ints Tryd.underlying25 Tryd.underlying2 cells2 hf with ⟨hcs, _⟩ | ⟨x, l, c, zs, hcs, _, hl, hm, hz, _, hcell, hwz⟩
  · simp [Value.cells] at hcs
    obtain ⟨rfl, rfl, rfl⟩ := hcs
    exact ⟨none, [], 0, rfl, .inl rfl, by simp, fun j hj => by simp at hj⟩
  · simp [Value.cells] at hcs
    obtain ⟨rfl, rfl, rfl⟩ := hcs
    have hzl : zs.length = cap := by simpa using hz
    have htl : (zs.take len).length = len := by simp; omega
    unfold maxLen at hm
    refine ⟨some x, zs.take len, cap, by rw [htl], ?_, by omega, fun j hj => ?_⟩
    · by_cases h0 : len = 0
      · left; simp [h0]
      · obtain ⟨bl, off, spot⟩ := x
        have hc := hcell 0 (by omega)
        have hspot : spot = none := by simpa [Addr.add] using World.cell?_spot hc
        subst hspot
        refine .inr ⟨bl, off, rfl, fun j hj => ?_⟩
        rw [htl] at hj
        have hcj := hcell j (by omega)
        rw [Addr.add_mid] at hcj
        rw [hcj]
        simp [List.getD, List.getElem?_take, hj]
    · rw [htl] at hj
      have hj2 : j < zs.length := by omega
      have e : (zs.take len).getD j 0 = zs[j] := by simp [List.getD, List.getElem?_take, hj, hj2]
      rw [e]
      exact i64_bd (hwz _ (List.getElem_mem hj2))
end Go.Proofs.YtkiocedhibeieaaDoor
/- What is kept when a law stores a result and goes on. -/
namespace Go.Proofs.YtkiocedhibeieaaDoor
set_option linter.unusedVariables false
set_option linter.unusedSimpArgs false
open Go Go.RowKit Go.ChangeShapes Go.WideShapes Go.ChangeAt
/-- A variable of its own for a colouring: what is known behind the store. -/
theorem kept_row {w w2 : World} {C D : Array Value} {b : Nat} {t : TypeId} (g : Blk w2 b C t) (h : Below w.heap.size w w2) (Z : Array Value) :
    Blk ((w2.alloc (.cells Z 28)).setRow w2.heap.size D) b C t ∧ Blk ((w2.alloc (.cells Z 28)).setRow w2.heap.size D) w2.heap.size D 28 ∧ Below w.heap.size w ((w2.alloc (.cells Z 28)).setRow w2.heap.size D) :=
  ⟨(g.alloc _).rowOther _ _ (by have := g.lt; omega), (Blk.new _ _ _ _ rfl).rowSame _, below_setRow (h.alloc h.size _) h.size _⟩
theorem copy19b (zs : List Int) (a : Option Addr) (cap : Nat) (w : World) (b : Nat) (hb : b = w.heap.size) (hs : SlI w a zs) (hl : zs.length ≤ 1048576) :
    Calls Tryd.prog 15 #[.slice a zs.length cap] w fun e w' => e = .returned (.slice (some ⟨b, 0, none⟩) zs.length zs.length) ∧ Blk w' b (icells zs).toArray 2 ∧ Below w.heap.size w w' := by
  subst hb; exact copy19 zs a cap w hs hl
theorem kept_more {w2 : World} {C D : Array Value} {b : Nat} {t : TypeId} (g : Blk w2 b C t) (Z : Array Value) : Blk ((w2.alloc (.cells Z 28)).setRow w2.heap.size D) b C t :=
  (g.alloc _).rowOther _ _ (by have := g.lt; omega)
end Go.Proofs.YtkiocedhibeieaaDoor
/- GreatestClique: the program. -/
namespace Go.Proofs.YtkiocedhibeieaaDoor
set_option linter.unusedVariables false
set_option linter.unusedSimpArgs false
open Go Go.RowKit Go.Shelf
theorem grB_gcS (N : Nat) (bs : List Nat) (c : Int) : grB N bs c = bitS (gcS N bs c) := rfl
set_option maxRecDepth 100000 in
set_option maxHeartbeats 1000000 in
theorem impl21 (n k : Int) (bs : List Nat) (hb : Bys bs) (c : Int) (w : World) (hT : Tz w) (hw0 : 0 < w.heap.size) :
    Calls Tryd.prog 21 #[.agg (ccells n k bs).toArray, .int .i64 c] w (LOut w (gcList n k bs c) (given n k bs c [])) := by
  have HS := hidd (size_c26 n k hb)
  have HT := hidd hT
  clear hT
  cases hi : isCol n k bs with
  | false =>
    have e2 : given n k bs c [] = 1 := given_1 hi
    have e1 : gcList n k bs c = [] := by unfold gcList; rw [if_neg (by omega)]
    have HI := hidd hi
    rw [e1, e2]
    clear hi e1 e2
    go_enter Tryd.func21, Tryd.ntmps21
    go_wp2_with (refine wpList_load_row rfl 28 (.tmp 2) rfl w.heap.size rfl 28 _ (0,0) _ (Blk.new _ _ _ _ rfl) Tryd.underlying28 rfl HS.out ?_)
    refine (implIs_any n k bs hb _).mono ?_
    rintro e w1 ⟨rfl, hb1⟩
    rw [HI.out]
    have G := hidd (((Below.refl w.heap.size w).alloc (Nat.le_refl _) (.cells (ccells n k bs).toArray 28)).trans (hb1.mono (by simp)))
    clear hb1
    go_wp2_with fail
    go_ret2
    exact lout_nil rfl G.out
  | true =>
    have HC1 := hidd (show (ccells n k bs).toArray[1]? = some (.int .i64 k) from rfl)
    cases hc : belowB c k with
    | false =>
      have e2 : given n k bs c [] = 2 := given_2 hi (by rw [hc]; rfl)
      have e1 : gcList n k bs c = [] := by unfold gcList; rw [if_neg (by omega)]
      have HI := hidd hi
      have HC := hidd hc
      rw [e1, e2]
      clear hi e1 e2 hc
      go_enter Tryd.func21, Tryd.ntmps21
      go_wp2_with (refine wpList_load_row rfl 28 (.tmp 2) rfl w.heap.size rfl 28 _ (0,0) _ (Blk.new _ _ _ _ rfl) Tryd.underlying28 rfl HS.out ?_)
      refine (implIs_any n k bs hb _).mono ?_
      rintro e w1 ⟨rfl, hb1⟩
      rw [HI.out]
      have c1 := ((Blk.new w (ccells n k bs).toArray 28 _ rfl).below hb1 (by simp)).cell HC1.out
      have G := hidd (((Below.refl w.heap.size w).alloc (Nat.le_refl _) (.cells (ccells n k bs).toArray 28)).trans (hb1.mono (by simp)))
      clear hb1
      go_wp2_with fail
      refine (below61 _ _ _).mono ?_
      rintro e w' ⟨rfl, rfl⟩
      rw [HC.out]
      go_wp2_with fail
      go_ret2
      exact lout_nil rfl G.out
    | true =>
      have e2 : given n k bs c [] = 0 := given_0 hi hc rfl
      have e1 : gcList n k bs c = gcL n.toNat bs c := by unfold gcList; rw [if_pos e2]; rfl
      obtain ⟨n1, n2, k1, k2⟩ := isCol_bd hi
      have HI := hidd hi
      have HC := hidd hc
      rw [e1, e2]
      obtain ⟨N, rfl⟩ := Int.eq_ofNat_of_zero_le (show 0 ≤ n by omega)
      rw [Int.toNat_natCast]
      have HGR := hidd (fun W => greatest33 N k c bs hb W (by omega) (by omega))
      have hok := gcS_ok (N := N) (bs := bs) (c := c) (by omega) (by omega)
      have HP := hidd (fun W hW h0 => points47 (gcS N bs c) hok.1 hok.2 W hW h0)
      have hx := grB_gcS N bs c
      obtain ⟨X, hX⟩ : ∃ X, X = grB N bs c := ⟨_, rfl⟩
      have hle : (gcS N bs c).length = (gcL N bs c).length := (rv_len _).symm
      rw [← hX] at HGR hx
      rw [← hx, hle] at HP
      clear hi e1 e2 hc hok hx hX hle
      go_enter Tryd.func21, Tryd.ntmps21
      go_wp2_with (refine wpList_load_row rfl 28 (.tmp 2) rfl w.heap.size rfl 28 _ (0,0) _ (Blk.new _ _ _ _ rfl) Tryd.underlying28 rfl HS.out ?_)
      refine (implIs_any (N : Int) k bs hb _).mono ?_
      rintro e w1 ⟨rfl, hb1⟩
      rw [HI.out]
      have B1 := (Blk.new w (ccells (N : Int) k bs).toArray 28 _ rfl).below hb1 (by simp)
      have c1 := B1.cell HC1.out
      have G := hidd (And.intro B1 (((Below.refl w.heap.size w).alloc (Nat.le_refl _) (.cells (ccells (N : Int) k bs).toArray 28)).trans (hb1.mono (by simp))))
      clear hb1 B1
      go_wp2_with fail
      refine (below61 _ _ _).mono ?_
      rintro e w' ⟨rfl, rfl⟩
      rw [HC.out]
      go_wp2_with (refine wpList_load_row rfl 28 (.tmp 2) rfl w.heap.size rfl 28 _ (0,0) _ G.out.1 Tryd.underlying28 rfl HS.out ?_)
      refine (HGR.out _).mono ?_
      rintro e w2 ⟨rfl, hb2, _, _⟩
      have G2 := hidd (G.out.2.trans (hb2.mono G.out.2.size))
      have HT2 := hidd (HT.out.below G2.out hw0)
      clear hb2
      go_wp2_with fail
      refine (HP.out _ HT2.out (by have := G2.out.size; omega)).mono ?_
      rintro e w3 ⟨a, cap, rfl, ho, hb3⟩
      have G3 := hidd (And.intro (ownL_base ho G2.out.size) (G2.out.trans (hb3.mono G2.out.size)))
      clear ho hb3
      go_wp2_with fail
      go_ret2
      exact ⟨a, cap, rfl, G3.out.1, G3.out.2⟩
end Go.Proofs.YtkiocedhibeieaaDoor
/- ListOfCircular: its model. -/
namespace Go.Proofs.YtkiocedhibeieaaDoor
set_option linter.unusedVariables false
set_option linter.unusedSimpArgs false
open Go Go.RowKit Go.Shelf
def RelLs (bs : List Nat) (C : Array Value) (w : World) (d : Nat) (v : Value) (wr : World) : Prop :=
  Blk wr w.heap.size C 28 ∧ wr.ownsRow (w.heap.size + 1) 2 1 v (fillA (fcol bs) d).length (icells (fillA (fcol bs) d)) ∧ Below w.heap.size w wr
/-- What l03List returns: a list and whether it tells the colouring. -/
def LB (w : World) (zs : List Int) (c : Bool) (e : Ending) (w' : World) : Prop :=
  ∃ a cap, e = .returned (.tuple #[.slice a zs.length cap, .bool c]) ∧ OwnL w' w.heap.size a zs ∧ Below w.heap.size w w'
end Go.Proofs.YtkiocedhibeieaaDoor
