/- AvoidsSizes: the program's own text. -/
import Derived.Test.YtckffliiidgilaaDoorFos
import Derived.Test.YtckffliiidgilaaDoorAvSp
namespace Go.Proofs.YtckffliiidgilaaDoor
set_option linter.unusedVariables false
set_option linter.unusedSimpArgs false
open Go Go.RowKit Go.Shelf
attribute [local go_sem] Oper.semAt_some
theorem fitR_congr {F R : Nat → Nat} {N : Nat} (h : ∀ p, p < N → F p = R p) (p : Nat) : ∀ (s : List Nat), (∀ q ∈ s, q < N) → fitR F s p = fitR R s p
  | [], _ => rfl
  | q :: s, hs => by rw [fitR_cons, fitR_cons, h q (hs q (List.mem_cons_self ..)), fitR_congr h p s (fun r hr => hs r (List.mem_cons_of_mem _ hr))]
theorem cqE_congr {F R : Nat → Nat} {N : Nat} (h : ∀ p, p < N → F p = R p) : ∀ (d : Nat) (s : List Nat), d ≤ N → (∀ q ∈ s, q < N) → cqE (fitR F) N d s = cqE (fitR R) N d s
  | 0, _, _, _ => rfl
  | d + 1, s, hd, hs => by
    have hc : ∀ q ∈ (N - (d + 1)) :: s, q < N := fun q hq => by
      rcases List.mem_cons.1 hq with h1 | h1
      · omega
      · exact hs q h1
    rw [cqE, cqE, fitR_congr h _ s hs, cqE_congr h d s (by omega) hs, cqE_congr h d _ (by omega) hc]
/-- There is a clique of so many points where the model's list is not empty. -/
theorem fosX_zero (bs : List Nat) (c : Int) {N m : Nat} (hN : N ≤ 17) (hm : m ≠ 0) : (fosX (nsF bs c (eseq N)) N (m : Int) = 0) ↔ (clqL bs c N m).isEmpty = true := by
  have hl : cqR (fitR (nsF bs c (eseq N))) N [] N = cqE (fitR (rwN bs c N)) N N [] := cqE_congr (fun p hp => nsF_rw bs c hp hN) N [] (Nat.le_refl _) (by simp)
  unfold fosX clqL
  rw [cqH_less (by simpa using fun e => hm e.symm), hl]
  unfold cqL
  rw [List.isEmpty_iff, List.map_eq_nil_iff, List.filter_eq_nil_iff]
  cases hf : (cqE (fitR (rwN bs c N)) N N []).find? fun s => decide ((s.length : Int) = (m : Int)) with
  | none =>
    rw [List.find?_eq_none] at hf
    constructor
    · intro _ s hs
      have := hf s hs
      simp only [decide_eq_true_eq] at this ⊢
      omega
    · intro _; rfl
  | some s =>
    have h1 := List.mem_of_find?_eq_some hf
    have h2 := List.find?_some hf
    constructor
    · intro h
      have : s = [] := bitS_zero.1 h
      subst this
      simp at h2; omega
    · intro h
      simp only [decide_eq_true_eq] at h2
      exact absurd (by simp only [decide_eq_true_eq]; omega) (h s h1)
/-- The least colour with a clique of its size, and the first such clique. -/
def fsR (N : Nat) (bs : List Nat) (zs : List Int) (K : Nat) : Nat × Nat :=
  match (List.range K).find? fun (c : Nat) => decide (fosX (nsF bs (c : Int) (eseq N)) N (zs.getD c 0) ≠ 0) with
  | none => (0, 0)
  | some c => (c, fosX (nsF bs (c : Int) (eseq N)) N (zs.getD c 0))
theorem fsR_none {N : Nat} {bs : List Nat} {zs : List Int} {K : Nat} (h : ∀ j, j < K → fosX (nsF bs (j : Int) (eseq N)) N (zs.getD j 0) = 0) : fsR N bs zs K = (0, 0) := by
  unfold fsR
  rw [List.find?_eq_none.2 (fun j hj => by rw [h j (List.mem_range.1 hj)]; simp)]
theorem fsR_hit {N : Nat} {bs : List Nat} {zs : List Int} {K d : Nat} (h : ∀ j, j < d → fosX (nsF bs (j : Int) (eseq N)) N (zs.getD j 0) = 0) (hd : d < K) (h2 : fosX (nsF bs (d : Int) (eseq N)) N (zs.getD d 0) ≠ 0) :
    fsR N bs zs K = (d, fosX (nsF bs (d : Int) (eseq N)) N (zs.getD d 0)) := by
  unfold fsR
  have e : (List.range K).find? (fun (c : Nat) => decide (fosX (nsF bs (c : Int) (eseq N)) N (zs.getD c 0) ≠ 0)) = some d := by
    rw [List.find?_range_eq_some]
    exact ⟨by simpa using h2, List.mem_range.2 hd, fun j hj => by rw [h j hj]; simp⟩
  rw [e]
theorem fsR_av {N : Nat} {bs : List Nat} {zs : List Int} {K : Nat} (hN : N ≤ 17) (hsz : szP zs K = true) : (((fsR N bs zs K).2 : Int) == 0) = avP N bs zs K := by
  have hz : ∀ j, j < K → ((fosX (nsF bs (j : Int) (eseq N)) N (zs.getD j 0) = 0) ↔ (clqL bs (j : Int) N (zs.getD j 0).toNat).isEmpty = true) := fun j hj => by
    have h1 := szP_get hsz hj
    have h2 : 1 ≤ zs.getD j 0 := by
      unfold inB at h1
      simp at h1; simp; omega
    obtain ⟨m, hm⟩ := Int.eq_ofNat_of_zero_le (show 0 ≤ zs.getD j 0 by omega)
    rw [hm, Int.toNat_natCast]
    exact fosX_zero bs j hN (by omega)
  cases ha : avP N bs zs K with
  | true =>
    rw [fsR_none (fun j hj => (hz j hj).2 (List.all_eq_true.1 ha j (List.mem_range.2 hj)))]; rfl
  | false =>
    rw [beq_eq_false_iff_ne]
    intro h0
    unfold fsR at h0
    split at h0
    · rename_i hn
      rw [List.find?_eq_none] at hn
      have : avP N bs zs K = true := List.all_eq_true.2 fun j hj => (hz j (List.mem_range.1 hj)).1 (by simpa using hn j hj)
      rw [this] at ha; cases ha
    · rename_i c hc
      have := List.find?_some hc
      simp at this h0
      exact this h0
set_option maxRecDepth 100000 in
set_option maxHeartbeats 1000000 in
theorem sizes30 (k : Int) (zs : List Int) (a : Option Addr) (cap : Nat) (w : World) (hs : SlI w a zs) (hl : zs.length ≤ 1048576) :
    Calls Tryd.prog 108 #[.slice a zs.length cap, .int .i64 k] w fun e w' => e = .returned (.bool (szOk k zs)) ∧ w = w' := by
  have HSL := hidd hs
  have hwl : IntKind.i64.wrap (zs.length : Int) = zs.length := IntWalk.i64_in _ (by omega)
  go_enter Tryd.func108, Tryd.ntmps108
  go_wp2_with fail
  go_loopw [9] (fun e wr => ∃ j : Nat, j ≤ zs.length ∧ e = .int .i64 (j : Int) ∧ Hid (szP zs j = true) ∧ Hid (w = wr)) (fun e _ => zs.length - (intOf e).toNat)
  case atStart => exact ⟨0, Nat.zero_le _, rfl, rfl, rfl⟩
  case round =>
    obtain ⟨j, hj, rfl, HK, hww⟩ := hrel
    obtain rfl : w = wr := hww
    by_cases hlt : j < zs.length
    · have hltI : decide ((j : Int) < (zs.length : Int)) = true := by simp; omega
      rcases HSL.out with hz | ⟨bl, off, ha, hc⟩
      · rw [hz] at hlt; simp at hlt
      · subst ha
        have cj := hc j hlt
        obtain ⟨z, hzz⟩ : ∃ z, z = zs.getD j 0 := ⟨_, rfl⟩
        rw [← hzz] at cj
        have hst := szP_step zs j
        rw [HK.out, Bool.true_and, ← hzz] at hst
        cases hin : inB z 1 17 with
        | true =>
          have HST := hidd (hst.trans hin)
          have HIN := hidd hin
          clear hc hst hin hzz
          go_wp2_with (go_at_call 62; refine (within45 _ _ _ _).mono ?_; rintro e w' ⟨rfl, rfl⟩; rw [HIN.out])
          go_roundw
          case rel => exact ⟨j + 1, by omega, by go_num, HST.out, trivial⟩
          case measure => simp [intOf]; omega
        | false =>
          have HST := hidd (szP_fall (zs := zs) (d := j) (by rw [← hzz]; exact hin) hlt)
          have HIN := hidd hin
          clear hc hst hin hzz
          go_wp2_with (go_at_call 62; refine (within45 _ _ _ _).mono ?_; rintro e w' ⟨rfl, rfl⟩; rw [HIN.out])
          go_ret
          exact ⟨by unfold szOk; rw [HST.out, Bool.and_false]; rfl, rfl⟩
    · have hltI : decide ((j : Int) < (zs.length : Int)) = false := by simp; omega
      have hje : j = zs.length := by omega
      have HP := hidd (show szP zs zs.length = true by rw [← hje]; exact HK.out)
      clear hje
      go_wp2_with fail
      go_ret
      exact ⟨by unfold szOk; rw [HP.out, Bool.and_true]; rfl, rfl⟩
set_option maxRecDepth 100000 in
set_option maxHeartbeats 1000000 in
theorem firsts31 (N K : Nat) (bs : List Nat) (hb : Bys bs) (zs : List Int) (a : Option Addr) (cap : Nat) (w : World) (hs : SlI w a zs) (hl : zs.length = K) (n1 : 1 ≤ N) (hN17 : N ≤ 17) (hK : K ≤ 4) :
    Calls Tryd.prog 81 #[.agg (ccells (N : Int) (K : Int) bs).toArray, .slice a K cap] w fun e w' => e = .returned (.tuple #[.int .i64 ((fsR N bs zs K).1 : Int), .int .u32 ((fsR N bs zs K).2 : Int)]) ∧ Below w.heap.size w w' := by
  have HS := hidd (size_c26 (N : Int) (K : Int) hb)
  have HSL := hidd hs
  have HL := hidd hl
  have HFO := hidd (fun c m W => fos47 N (K : Int) c m bs hb W n1 hN17)
  clear hs hl
  go_enter Tryd.func81, Tryd.ntmps81
  go_wp2_with fail
  go_loopw [11] (fun e wr => ∃ j : Nat, j ≤ K ∧ e = .int .i64 (j : Int) ∧ Hid ((∀ i, i < j → fosX (nsF bs (i : Int) (eseq N)) N (zs.getD i 0) = 0) ∧ Blk wr w.heap.size (ccells (N : Int) (K : Int) bs).toArray 28 ∧ Below w.heap.size w wr)) (fun e _ => K - (intOf e).toNat)
  case atStart => exact ⟨0, Nat.zero_le _, rfl, fun i hi => by omega, Blk.new _ _ _ _ rfl, (Below.refl _ _).alloc (Nat.le_refl _) _⟩
  case round =>
    obtain ⟨j, hj, rfl, HK⟩ := hrel
    by_cases hlt : j < K
    · have hltI : decide ((j : Int) < (K : Int)) = true := by simp; omega
      rcases HSL.out with hz | ⟨bl, off, ha, hc⟩
      · have := HL.out; rw [hz] at this; simp at this; omega
      · subst ha
        have cj := cell_below (hc j (by rw [HL.out]; exact hlt)) HK.out.2.2
        obtain ⟨z, hzz⟩ : ∃ z, z = zs.getD j 0 := ⟨_, rfl⟩
        rw [← hzz] at cj
        have HF := hidd (HFO.out (j : Int) z)
        obtain ⟨X, hX⟩ : ∃ X, X = fosX (nsF bs (j : Int) (eseq N)) N z := ⟨_, rfl⟩
        rw [← hX] at HF
        rw [hzz] at hX
        by_cases h0 : X = 0
        · have HX := hidd (hX.symm.trans h0)
          have hXI : ((X : Int) != 0) = false := by rw [bne_eq_false_iff_eq]; omega
          clear hc hzz hX h0
          go_wp2_with (refine wpList_load_row rfl 28 (.tmp 2) rfl w.heap.size rfl 28 _ (0,0) _ HK.out.2.1 Tryd.underlying28 rfl HS.out ?_)
          refine (HF.out _).mono ?_
          rintro e w1 ⟨rfl, hb1⟩
          have K1 := hidd (And.intro (HK.out.2.1.below hb1 HK.out.2.1.lt) (HK.out.2.2.trans (hb1.mono HK.out.2.2.size)))
          clear hb1
          go_wp2_with fail
          go_roundw
          case rel =>
            refine ⟨j + 1, by omega, by go_num, ⟨fun i hi => ?_, K1.out⟩⟩
            by_cases e : i = j
            · subst e; exact HX.out
            · exact HK.out.1 i (by omega)
          case measure => simp [intOf]; omega
        · have HR := hidd (fsR_hit (zs := zs) (K := K) HK.out.1 hlt (by rw [← hX]; exact h0))
          have HX := hidd hX
          have hXI : ((X : Int) != 0) = true := by rw [bne_iff_ne]; omega
          clear hc hzz hX h0
          go_wp2_with (refine wpList_load_row rfl 28 (.tmp 2) rfl w.heap.size rfl 28 _ (0,0) _ HK.out.2.1 Tryd.underlying28 rfl HS.out ?_)
          refine (HF.out _).mono ?_
          rintro e w1 ⟨rfl, hb1⟩
          have K1 := hidd (HK.out.2.2.trans (hb1.mono HK.out.2.2.size))
          clear hb1
          go_wp2_with fail
          go_ret2
          exact ⟨by rw [HR.out, ← HX.out]; rfl, K1.out⟩
    · have hltI : decide ((j : Int) < (K : Int)) = false := by simp; omega
      have hje : j = K := by omega
      subst hje
      have HR := hidd (fsR_none HK.out.1)
      go_wp2_with fail
      go_ret2
      exact ⟨by rw [HR.out]; rfl, HK.out.2.2⟩
end Go.Proofs.YtckffliiidgilaaDoor
