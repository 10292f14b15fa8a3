/- My texts Avi, Ge, Cos, in one. -/
import Derived.Test.YtckffliiidgilaaDoorBac
import Derived.Test.YtckffliiidgilaaDoorRows
import Derived.Test.YtckffliiidgilaaDoorBaa
import Derived.ChangeOld
import Derived.Maps.AppendAt
/- AvoidsSizes: the program's own text. -/
namespace Go.Proofs.YtckffliiidgilaaDoor
set_option linter.unusedVariables false
set_option linter.unusedSimpArgs false
open Go Go.RowKit Go.Shelf
attribute [local go_sem] Oper.semAt_some
theorem fitR_congr {F R : Nat → Nat} {N : Nat} (h : ∀ p, p < N → F p = R p) (p : Nat) : ∀ (s : List Nat), (∀ q ∈ s, q < N) → fitR F s p = fitR R s p
  | [], _ => rfl
  | q :: s, hs => by rw [fitR_cons, fitR_cons, h q (hs q (List.mem_cons_self ..)), fitR_congr h p s (fun r hr => hs r (List.mem_cons_of_mem _ hr))]
theorem cqE_congr {F R : Nat → Nat} {N : Nat} (h : ∀ p, p < N → F p = R p) : ∀ (d : Nat) (s : List Nat), d ≤ N → (∀ q ∈ s, q < N) → cqE (fitR F) N d s = cqE (fitR R) N d s
  | 0, _, _, _ => rfl
  | d + 1, s, hd, hs => by
    have hc : ∀ q ∈ (N - (d + 1)) :: s, q < N := fun q hq => by
      rcases List.mem_cons.1 hq with h1 | h1
      · omega
      · exact hs q h1
    rw [cqE, cqE, fitR_congr h _ s hs, cqE_congr h d s (by omega) hs, cqE_congr h d _ (by omega) hc]
/-- There is a clique of so many points where the model's list is not empty. -/
theorem fosX_zero (bs : List Nat) (c : Int) {N m : Nat} (hN : N ≤ 17) (hm : m ≠ 0) : (fosX (nsF bs c (eseq N)) N (m : Int) = 0) ↔ (clqL bs c N m).isEmpty = true := by
  have hl : cqR (fitR (nsF bs c (eseq N))) N [] N = cqE (fitR (rwN bs c N)) N N [] := cqE_congr (fun p hp => nsF_rw bs c hp hN) N [] (Nat.le_refl _) (by simp)
  unfold fosX clqL
  rw [cqH_less (by simpa using fun e => hm e.symm), hl]
  unfold cqL
  rw [List.isEmpty_iff, List.map_eq_nil_iff, List.filter_eq_nil_iff]
  cases hf : (cqE (fitR (rwN bs c N)) N N []).find? fun s => decide ((s.length : Int) = (m : Int)) with
  | none =>
    rw [List.find?_eq_none] at hf
    constructor
    · intro _ s hs
      have := hf s hs
      simp only [decide_eq_true_eq] at this ⊢
      omega
    · intro _; rfl
  | some s =>
    have h1 := List.mem_of_find?_eq_some hf
    have h2 := List.find?_some hf
    constructor
    · intro h
      have : s = [] := bitS_zero.1 h
      subst this
      simp at h2; omega
    · intro h
      simp only [decide_eq_true_eq] at h2
      exact absurd (by simp only [decide_eq_true_eq]; omega) (h s h1)
/-- The least colour with a clique of its size, and the first such clique. -/
def fsR (N : Nat) (bs : List Nat) (zs : List Int) (K : Nat) : Nat × Nat :=
  match (List.range K).find? fun (c : Nat) => decide (fosX (nsF bs (c : Int) (eseq N)) N (zs.getD c 0) ≠ 0) with
  | none => (0, 0)
  | some c => (c, fosX (nsF bs (c : Int) (eseq N)) N (zs.getD c 0))
theorem fsR_none {N : Nat} {bs : List Nat} {zs : List Int} {K : Nat} (h : ∀ j, j < K → fosX (nsF bs (j : Int) (eseq N)) N (zs.getD j 0) = 0) : fsR N bs zs K = (0, 0) := by
  unfold fsR
  rw [List.find?_eq_none.2 (fun j hj => by rw [h j (List.mem_range.1 hj)]; simp)]
theorem fsR_hit {N : Nat} {bs : List Nat} {zs : List Int} {K d : Nat} (h : ∀ j, j < d → fosX (nsF bs (j : Int) (eseq N)) N (zs.getD j 0) = 0) (hd : d < K) (h2 : fosX (nsF bs (d : Int) (eseq N)) N (zs.getD d 0) ≠ 0) :
    fsR N bs zs K = (d, fosX (nsF bs (d : Int) (eseq N)) N (zs.getD d 0)) := by
  unfold fsR
  have e : (List.range K).find? (fun (c : Nat) => decide (fosX (nsF bs (c : Int) (eseq N)) N (zs.getD c 0) ≠ 0)) = some d := by
    rw [List.find?_range_eq_some]
    exact ⟨by simpa using h2, List.mem_range.2 hd, fun j hj => by rw [h j hj]; simp⟩
  rw [e]
theorem fsR_av {N : Nat} {bs : List Nat} {zs : List Int} {K : Nat} (hN : N ≤ 17) (hsz : szP zs K = true) : (((fsR N bs zs K).2 : Int) == 0) = avP N bs zs K := by
  have hz : ∀ j, j < K → ((fosX (nsF bs (j : Int) (eseq N)) N (zs.getD j 0) = 0) ↔ (clqL bs (j : Int) N (zs.getD j 0).toNat).isEmpty = true) := fun j hj => by
    have h1 := szP_get hsz hj
    have h2 : 1 ≤ zs.getD j 0 := by
      unfold inB at h1
      simp at h1; simp; omega
    obtain ⟨m, hm⟩ := Int.eq_ofNat_of_zero_le (show 0 ≤ zs.getD j 0 by omega)
    rw [hm, Int.toNat_natCast]
    exact fosX_zero bs j hN (by omega)
  cases ha : avP N bs zs K with
  | true =>
    rw [fsR_none (fun j hj => (hz j hj).2 (List.all_eq_true.1 ha j (List.mem_range.2 hj)))]; rfl
  | false =>
    rw [beq_eq_false_iff_ne]
    intro h0
    unfold fsR at h0
    split at h0
    · rename_i hn
      rw [List.find?_eq_none] at hn
      have : avP N bs zs K = true := List.all_eq_true.2 fun j hj => (hz j (List.mem_range.1 hj)).1 (by simpa using hn j hj)
      rw [this] at ha; cases ha
    · rename_i c hc
      have := List.find?_some hc
      simp at this h0
      exact this h0
set_option maxRecDepth 100000 in
set_option maxHeartbeats 1000000 in
theorem sizes30 (k : Int) (zs : List Int) (a : Option Addr) (cap : Nat) (w : World) (hs : SlI w a zs) (hl : zs.length ≤ 1048576) :
    Calls Tryd.prog 108 #[.slice a zs.length cap, .int .i64 k] w fun e w' => e = .returned (.bool (szOk k zs)) ∧ w = w' := by
  have HSL := hidd hs
  have hwl : IntKind.i64.wrap (zs.length : Int) = zs.length := IntWalk.i64_in _ (by omega)
  go_enter Tryd.func108, Tryd.ntmps108
  go_wp2_with fail
  go_loopw [9] (fun e wr => ∃ j : Nat, j ≤ zs.length ∧ e = .int .i64 (j : Int) ∧ Hid (szP zs j = true) ∧ Hid (w = wr)) (fun e _ => zs.length - (intOf e).toNat)
  case atStart => exact ⟨0, Nat.zero_le _, rfl, rfl, rfl⟩
  case round =>
    obtain ⟨j, hj, rfl, HK, hww⟩ := hrel
    obtain rfl : w = wr := hww
    by_cases hlt : j < zs.length
    · have hltI : decide ((j : Int) < (zs.length : Int)) = true := by simp; omega
      rcases HSL.out with hz | ⟨bl, off, ha, hc⟩
      · rw [hz] at hlt; simp at hlt
      · subst ha
        have cj := hc j hlt
        obtain ⟨z, hzz⟩ : ∃ z, z = zs.getD j 0 := ⟨_, rfl⟩
        rw [← hzz] at cj
        have hst := szP_step zs j
        rw [HK.out, Bool.true_and, ← hzz] at hst
        cases hin : inB z 1 17 with
        | true =>
          have HST := hidd (hst.trans hin)
          have HIN := hidd hin
          clear hc hst hin hzz
          go_wp2_with (go_at_call 62; refine (within45 _ _ _ _).mono ?_; rintro e w' ⟨rfl, rfl⟩; rw [HIN.out])
          go_roundw
          case rel => exact ⟨j + 1, by omega, by go_num, HST.out, trivial⟩
          case measure => simp [intOf]; omega
        | false =>
          have HST := hidd (szP_fall (zs := zs) (d := j) (by rw [← hzz]; exact hin) hlt)
          have HIN := hidd hin
          clear hc hst hin hzz
          go_wp2_with (go_at_call 62; refine (within45 _ _ _ _).mono ?_; rintro e w' ⟨rfl, rfl⟩; rw [HIN.out])
          go_ret
          exact ⟨by unfold szOk; rw [HST.out, Bool.and_false]; rfl, rfl⟩
    · have hltI : decide ((j : Int) < (zs.length : Int)) = false := by simp; omega
      have hje : j = zs.length := by omega
      have HP := hidd (show szP zs zs.length = true by rw [← hje]; exact HK.out)
      clear hje
      go_wp2_with fail
      go_ret
      exact ⟨by unfold szOk; rw [HP.out, Bool.and_true]; rfl, rfl⟩
set_option maxRecDepth 100000 in
set_option maxHeartbeats 1000000 in
theorem firsts31 (N K : Nat) (bs : List Nat) (hb : Bys bs) (zs : List Int) (a : Option Addr) (cap : Nat) (w : World) (hs : SlI w a zs) (hl : zs.length = K) (n1 : 1 ≤ N) (hN17 : N ≤ 17) (hK : K ≤ 4) :
    Calls Tryd.prog 81 #[.agg (ccells (N : Int) (K : Int) bs).toArray, .slice a K cap] w fun e w' => e = .returned (.tuple #[.int .i64 ((fsR N bs zs K).1 : Int), .int .u32 ((fsR N bs zs K).2 : Int)]) ∧ Below w.heap.size w w' := by
  have HS := hidd (size_c26 (N : Int) (K : Int) hb)
  have HSL := hidd hs
  have HL := hidd hl
  have HFO := hidd (fun c m W => fos47 N (K : Int) c m bs hb W n1 hN17)
  clear hs hl
  go_enter Tryd.func81, Tryd.ntmps81
  go_wp2_with fail
  go_loopw [11] (fun e wr => ∃ j : Nat, j ≤ K ∧ e = .int .i64 (j : Int) ∧ Hid ((∀ i, i < j → fosX (nsF bs (i : Int) (eseq N)) N (zs.getD i 0) = 0) ∧ Blk wr w.heap.size (ccells (N : Int) (K : Int) bs).toArray 28 ∧ Below w.heap.size w wr)) (fun e _ => K - (intOf e).toNat)
  case atStart => exact ⟨0, Nat.zero_le _, rfl, fun i hi => by omega, Blk.new _ _ _ _ rfl, (Below.refl _ _).alloc (Nat.le_refl _) _⟩
  case round =>
    obtain ⟨j, hj, rfl, HK⟩ := hrel
    by_cases hlt : j < K
    · have hltI : decide ((j : Int) < (K : Int)) = true := by simp; omega
      rcases HSL.out with hz | ⟨bl, off, ha, hc⟩
      · have := HL.out; rw [hz] at this; simp at this; omega
      · subst ha
        have cj := cell_below (hc j (by rw [HL.out]; exact hlt)) HK.out.2.2
        obtain ⟨z, hzz⟩ : ∃ z, z = zs.getD j 0 := ⟨_, rfl⟩
        rw [← hzz] at cj
        have HF := hidd (HFO.out (j : Int) z)
        obtain ⟨X, hX⟩ : ∃ X, X = fosX (nsF bs (j : Int) (eseq N)) N z := ⟨_, rfl⟩
        rw [← hX] at HF
        rw [hzz] at hX
        by_cases h0 : X = 0
        · have HX := hidd (hX.symm.trans h0)
          have hXI : ((X : Int) != 0) = false := by rw [bne_eq_false_iff_eq]; omega
          clear hc hzz hX h0
          go_wp2_with (refine wpList_load_row rfl 28 (.tmp 2) rfl w.heap.size rfl 28 _ (0,0) _ HK.out.2.1 Tryd.underlying28 rfl HS.out ?_)
          refine (HF.out _).mono ?_
          rintro e w1 ⟨rfl, hb1⟩
          have K1 := hidd (And.intro (HK.out.2.1.below hb1 HK.out.2.1.lt) (HK.out.2.2.trans (hb1.mono HK.out.2.2.size)))
          clear hb1
          go_wp2_with fail
          go_roundw
          case rel =>
            refine ⟨j + 1, by omega, by go_num, ⟨fun i hi => ?_, K1.out⟩⟩
            by_cases e : i = j
            · subst e; exact HX.out
            · exact HK.out.1 i (by omega)
          case measure => simp [intOf]; omega
        · have HR := hidd (fsR_hit (zs := zs) (K := K) HK.out.1 hlt (by rw [← hX]; exact h0))
          have HX := hidd hX
          have hXI : ((X : Int) != 0) = true := by rw [bne_iff_ne]; omega
          clear hc hzz hX h0
          go_wp2_with (refine wpList_load_row rfl 28 (.tmp 2) rfl w.heap.size rfl 28 _ (0,0) _ HK.out.2.1 Tryd.underlying28 rfl HS.out ?_)
          refine (HF.out _).mono ?_
          rintro e w1 ⟨rfl, hb1⟩
          have K1 := hidd (HK.out.2.2.trans (hb1.mono HK.out.2.2.size))
          clear hb1
          go_wp2_with fail
          go_ret2
          exact ⟨by rw [HR.out, ← HX.out]; rfl, K1.out⟩
    · have hltI : decide ((j : Int) < (K : Int)) = false := by simp; omega
      have hje : j = K := by omega
      subst hje
      have HR := hidd (fsR_none HK.out.1)
      go_wp2_with fail
      go_ret2
      exact ⟨by rw [HR.out]; rfl, HK.out.2.2⟩
end Go.Proofs.YtckffliiidgilaaDoor
/- My texts Law, Laws, Keep, in one. -/
/- What every law's proof wants of the program as a whole. -/
namespace Go.Proofs.YtckffliiidgilaaDoor
open Go Go.RowKit Go.ChangeShapes Go.WideShapes Go.ChangeAt
theorem own : ownKnob Tryd.prog.godebug = none := by kernel_rfl
theorem laidOut : laidOutB Tryd.prog = true := by kernel_rfl
theorem read24 : Tryd.prog.readableRec 24 = true := by kernel_rfl
theorem read2 : Tryd.prog.readableRec 2 = true := by kernel_rfl
theorem read29 : Tryd.prog.readableRec 25 = true := by kernel_rfl
theorem row24 : 24 < Tryd.prog.types.size := of_decide_eq_true (by kernel_rfl)
theorem row2 : 2 < Tryd.prog.types.size := of_decide_eq_true (by kernel_rfl)
theorem row29 : 25 < Tryd.prog.types.size := of_decide_eq_true (by kernel_rfl)
set_option maxRecDepth 100000 in
/-- A number that came in. -/
theorem open_num {H : Type} {enc : TypeId × Value → H} {w : World} {base : Nat} {spare : Nat → Bool} {held : Bool} {v : Value} {d : DataW H} {ps : List MemPlace} {r : Reach} {b : Nat}
    (hv : Value.okWide Tryd.prog w r b 2 v) (h : DataW.Trod enc Tryd.prog w base spare held 2 v d ps) : ∃ n, v = .int .i64 n ∧ -9223372036854775808 ≤ n ∧ n ≤ 9223372036854775807 := by
  obtain ⟨n, rfl, _, _, wn⟩ := open_int Tryd.underlying2 hv h
  exact ⟨n, rfl, i64_bd wn⟩
theorem lt_of_trod {H : Type} {enc : TypeId × Value → H} {w : World} {spare : Nat → Bool} {held : Bool} {t : TypeId} {v : Value} {d : DataW H} {ps : List MemPlace}
    (h : DataW.Trod enc Tryd.prog w 0 spare held t v d ps) : ∀ x ∈ ps, x.block < w.heap.size := by
  obtain ⟨m, hm⟩ := h; exact DataW.trod_lt m _ _ _ hm
end Go.Proofs.YtckffliiidgilaaDoor
/- Lists that came in. -/
namespace Go.Proofs.YtckffliiidgilaaDoor
set_option linter.unusedVariables false
set_option linter.unusedSimpArgs false
open Go Go.RowKit Go.ChangeShapes Go.WideShapes Go.ChangeAt
set_option maxRecDepth 100000 in
theorem open_list {H : Type} {enc : TypeId × Value → H} {w : World} {base : Nat} {held : Bool} {v : Value} {d : DataW H} {ps : List MemPlace} {r : Reach} {b : Nat}
    (hv : Value.okWide Tryd.prog w r b 25 v) (h : DataW.Trod enc Tryd.prog w base (fun _ => true) held 25 v d ps) :
    ∃ a zs cap, v = .slice a (zs : List Int).length cap ∧ SlI w a zs ∧ zs.length ≤ 9223372036854775807 ∧ ∀ j, j < zs.length → -9223372036854775808 ≤ zs.getD j 0 ∧ zs.getD j 0 ≤ 9223372036854775807 := by
  obtain ⟨a, len, cap, rfl⟩ := okWide_slice Tryd.underlying25 hv
  obtain ⟨fuel, hf⟩ := h
  rcases open_ints Tryd.underlying25 Tryd.underlying2 cells2 hf with ⟨hcs, _⟩ | ⟨x, l, c, zs, hcs, _, hl, hm, hz, _, hcell, hwz⟩
  · simp [Value.cells] at hcs
    obtain ⟨rfl, rfl, rfl⟩ := hcs
    exact ⟨none, [], 0, rfl, .inl rfl, by simp, fun j hj => by simp at hj⟩
  · simp [Value.cells] at hcs
    obtain ⟨rfl, rfl, rfl⟩ := hcs
    have hzl : zs.length = cap := by simpa using hz
    have htl : (zs.take len).length = len := by simp; omega
    unfold maxLen at hm
    refine ⟨some x, zs.take len, cap, by rw [htl], ?_, by omega, fun j hj => ?_⟩
    · by_cases h0 : len = 0
      · left; simp [h0]
      · obtain ⟨bl, off, spot⟩ := x
        have hc := hcell 0 (by omega)
        have hspot : spot = none := by simpa [Addr.add] using World.cell?_spot hc
        subst hspot
        refine .inr ⟨bl, off, rfl, fun j hj => ?_⟩
        rw [htl] at hj
        have hcj := hcell j (by omega)
        rw [Addr.add_mid] at hcj
        rw [hcj]
        simp [List.getD, List.getElem?_take, hj]
    · rw [htl] at hj
      have hj2 : j < zs.length := by omega
      have e : (zs.take len).getD j 0 = zs[j] := by simp [List.getD, List.getElem?_take, hj, hj2]
      rw [e]
      exact i64_bd (hwz _ (List.getElem_mem hj2))
end Go.Proofs.YtckffliiidgilaaDoor
/- What is kept when a law stores a result and goes on. -/
namespace Go.Proofs.YtckffliiidgilaaDoor
set_option linter.unusedVariables false
set_option linter.unusedSimpArgs false
open Go Go.RowKit Go.ChangeShapes Go.WideShapes Go.ChangeAt
/-- A variable of its own for a colouring: what is known behind the store. -/
theorem kept_row {w w2 : World} {C D : Array Value} {b : Nat} {t : TypeId} (g : Blk w2 b C t) (h : Below w.heap.size w w2) (Z : Array Value) :
    Blk ((w2.alloc (.cells Z 28)).setRow w2.heap.size D) b C t ∧ Blk ((w2.alloc (.cells Z 28)).setRow w2.heap.size D) w2.heap.size D 28 ∧ Below w.heap.size w ((w2.alloc (.cells Z 28)).setRow w2.heap.size D) :=
  ⟨(g.alloc _).rowOther _ _ (by have := g.lt; omega), (Blk.new _ _ _ _ rfl).rowSame _, below_setRow (h.alloc h.size _) h.size _⟩
theorem copy19b (zs : List Int) (a : Option Addr) (cap : Nat) (w : World) (b : Nat) (hb : b = w.heap.size) (hs : SlI w a zs) (hl : zs.length ≤ 1048576) :
    Calls Tryd.prog 15 #[.slice a zs.length cap] w fun e w' => e = .returned (.slice (some ⟨b, 0, none⟩) zs.length zs.length) ∧ Blk w' b (icells zs).toArray 2 ∧ Below w.heap.size w w' := by
  subst hb; exact copy19 zs a cap w hs hl
theorem kept_more {w2 : World} {C D : Array Value} {b : Nat} {t : TypeId} (g : Blk w2 b C t) (Z : Array Value) : Blk ((w2.alloc (.cells Z 28)).setRow w2.heap.size D) b C t :=
  (g.alloc _).rowOther _ _ (by have := g.lt; omega)
end Go.Proofs.YtckffliiidgilaaDoor
/- cliquesOfSize: the cliques of one size, in a list of sets. -/
namespace Go.Proofs.YtckffliiidgilaaDoor
set_option linter.unusedVariables false
set_option linter.unusedSimpArgs false
open Go Go.RowKit Go.Shelf
attribute [local go_sem] Oper.semAt_some
theorem cqE_many (R : List Nat → Nat → Bool) (N : Nat) : ∀ (d : Nat) (s : List Nat), (cqE R N d s).length + 1 ≤ 2 ^ d
  | 0, s => by simp [cqE]
  | d + 1, s => by
    have h1 := cqE_many R N d ((N - (d + 1)) :: s)
    have h2 := cqE_many R N d s
    rw [cqE, Nat.pow_succ]
    split
    · simp; omega
    · omega
theorem cqR_many (F : Nat → Nat) {N : Nat} (hN : N ≤ 17) : (cqR (fitR F) N [] N).length ≤ 131072 := by
  have h1 := cqE_many (fitR F) N N []
  have h2 : 2 ^ N ≤ 2 ^ 17 := Nat.pow_le_pow_right (by omega) hN
  show (cqE (fitR F) N N []).length ≤ _
  omega
/-- The ones of m points among the cliques that have come. -/
def clS {N : Nat} (m : Int) (pre : List (Cl N)) : List (List Nat) := (pre.map Cl.v).filter fun s => decide ((s.length : Int) = m)
theorem clS_no {N : Nat} {m : Int} {pre : List (Cl N)} {x : Cl N} (h : decide ((x.1.length : Int) = m) = false) : clS m (pre ++ [x]) = clS m pre := by
  unfold clS
  rw [List.map_append, List.filter_append, List.map_cons, List.map_nil, show List.filter (fun s => decide ((s.length : Int) = m)) [Cl.v x] = [] from by
    rw [List.filter_cons_of_neg (by show ¬ (decide ((x.1.length : Int) = m) = true); rw [h]; simp)]; rfl, List.append_nil]
theorem clS_yes {N : Nat} {m : Int} {pre : List (Cl N)} {x : Cl N} (h : decide ((x.1.length : Int) = m) = true) : clS m (pre ++ [x]) = clS m pre ++ [x.1] := by
  unfold clS
  rw [List.map_append, List.filter_append, List.map_cons, List.map_nil, show List.filter (fun s => decide ((s.length : Int) = m)) [Cl.v x] = [x.1] from by
    rw [List.filter_cons_of_pos (by show decide ((x.1.length : Int) = m) = true; exact h)]; rfl]
theorem clS_len {N : Nat} {m : Int} (pre : List (Cl N)) : (clS m pre).length ≤ pre.length := by
  unfold clS
  exact Nat.le_trans (List.length_filter_le _ _) (by simp)
/-- All cliques of m points. -/
def csL (F : Nat → Nat) (N : Nat) (m : Int) : List (List Nat) := (cqR (fitR F) N [] N).filter fun s => decide ((s.length : Int) = m)
def ucs (L : List (List Nat)) : List Value := L.map fun s => .int .u32 (bitS s : Nat)
theorem ucs_len (L : List (List Nat)) : (ucs L).length = L.length := by simp [ucs]
theorem ucs_app (L M : List (List Nat)) : ucs (L ++ M) = ucs L ++ ucs M := by simp [ucs]
/-- A list of sets that can be read. -/
def SlU (w : World) (a : Option Addr) (L : List (List Nat)) : Prop := L = [] ∨ ∃ g, a = some ⟨g, 0, none⟩ ∧ g < w.heap.size ∧ ∀ j s, L[j]? = some s → w.cell? ⟨g, j, none⟩ = some (.int .u32 (bitS s : Nat))
theorem SlU.below {w w' : World} {a : Option Addr} {L : List (List Nat)} (h : SlU w a L) (hb : Below w.heap.size w w') : SlU w' a L := by
  rcases h with h | ⟨g, h1, h2, h3⟩
  · exact .inl h
  · exact .inr ⟨g, h1, Nat.lt_of_lt_of_le h2 hb.size, fun j s hj => by
      rw [hb.cell (p := ⟨g, j, none⟩) h2]; exact h3 j s hj⟩
theorem slU_own {w : World} {B : Nat} {v : Value} {L : List (List Nat)} (h : w.ownsRow B 88 1 v L.length (ucs L)) : ∃ a cap, v = .slice a L.length cap ∧ SlU w a L := by
  obtain ⟨_, h | ⟨g, cap, cur, hv, hg, hc, hn, _, hs, ht⟩⟩ := h
  · obtain ⟨rfl, h0⟩ := h
    have hz : L = [] := List.length_eq_zero_iff.1 h0
    subst hz
    exact ⟨none, 0, rfl, .inl rfl⟩
  · refine ⟨some ⟨g, 0, none⟩, cap, hv, .inr ⟨g, rfl, (Array.getElem?_eq_some_iff.1 hc).1, fun j s hj => ?_⟩⟩
    have hB : Blk w g cur 88 := hc
    refine hB.cell ?_
    have hjl : j < L.length := (List.getElem?_eq_some_iff.1 hj).1
    have e : (ucs L)[j]? = some (.int .u32 (bitS s : Nat)) := by unfold ucs; rw [List.getElem?_map, hj]; rfl
    rw [← ht, List.getElem?_take_of_lt (by omega)] at e
    simpa using e
theorem ownR_grow {W W' : World} {B : Nat} {t : TypeId} {v : Value} {n : Nat} {xs : List Value} {row : Option Nat} (h : W.ownsRow B t 1 v n xs) (hg : W.grownBy W' row) (hr : ∀ r, row = some r → ∃ o : Obj, W.heap[r]? = some o ∧ o.isCells = false) : W'.ownsRow B t 1 v n xs := by
  refine ⟨h.1, ?_⟩
  rcases h.2 with h2 | ⟨g, cap, cur, hv, hB, hc, r⟩
  · exact .inl h2
  · refine .inr ⟨g, cap, cur, hv, hB, (hg.block g (Array.getElem?_eq_some_iff.1 hc).1 (fun e => ?_)).trans hc, r⟩
    obtain ⟨o, ho, hoc⟩ := hr g e.symm
    rw [hc] at ho
    cases ho; cases hoc
theorem ownR_set {W : World} {B : Nat} {t : TypeId} {v : Value} {n : Nat} {xs : List Value} (h : W.ownsRow B t 1 v n xs) (p : Addr) (u : Value) (hp : p.block < B) : (W.setCell p u).ownsRow B t 1 v n xs := by
  refine ⟨h.1, ?_⟩
  rcases h.2 with h2 | ⟨g, cap, cur, hv, hB, hc, r⟩
  · exact .inl h2
  · exact .inr ⟨g, cap, cur, hv, hB, (heap_setCell_other W p g u (by omega)).trans hc, r⟩
theorem keeps_grown {W W' : World} {B b : Nat} {e : TypeId} {size : Nat} {v : Value} {n : Nat} {xs : List Value} (hown : W.ownsRow b e size v n xs) (hg : W.grownBy W' v.ownBlock) : KeepsFrom B W W' := by
  refine ⟨hg.size, fun k o _ hk hc => (hg.block k (Array.getElem?_eq_some_iff.1 hk).1 (fun he => ?_)).trans hk⟩
  rcases hown.2 with ⟨h1, _⟩ | ⟨g, cap, cur, hv, _, hcur, _⟩
  · rw [h1] at he; cases he
  · rw [hv] at he
    cases he
    rw [hcur] at hk
    cases hk; cases hc
theorem info88 : (Tryd.prog.info? 88).map (fun i => (i.zero, i.size, i.bytes)) = some (some (.int .u32 0), 1, 4) := by kernel_rfl
def RelCz {N : Nat} (m : Int) (w : World) (B : Nat) (pre : List (Cl N)) (W : World) : Prop :=
  Blk W (w.heap.size + 1) #[.int .i64 m] 2 ∧ (∃ v, Blk W (w.heap.size + 1 + 1) #[v] 90 ∧ W.ownsRow B 88 1 v (clS m pre).length (ucs (clS m pre))) ∧ Below w.heap.size w W ∧ B ≤ W.heap.size
set_option maxRecDepth 100000 in
set_option maxHeartbeats 2000000 in
theorem cos75 (N : Nat) (k c m : Int) (bs : List Nat) (hb : Bys bs) (w : World) (N1 : 1 ≤ N) (N2 : N ≤ 17) :
    Calls Tryd.prog 75 #[.agg (ccells (N : Int) k bs).toArray, .int .i64 c, .int .i64 m] w fun e w' => ∃ a cap, e = .returned (.slice a (csL (nsF bs c (eseq N)) N m).length cap) ∧ SlU w' a (csL (nsF bs c (eseq N)) N m) ∧ Below w.heap.size w w' := by
  have hfn : ∀ f, Fence.wide.fn f := fun _ => trivial
  have HS := hidd (size_c26 (N : Int) k hb)
  have HQ := hidd (fun W => cliques48 N k c bs hb W N1 N2)
  have hF := fun p => nsF_lt bs c (eseq N) p
  have hsym := nsF_sym bs c (eseq N) N2
  obtain ⟨F, hFe⟩ : ∃ F, F = nsF bs c (eseq N) := ⟨_, rfl⟩
  rw [← hFe] at HQ hF hsym ⊢
  have HF := hidd hF
  have HSY := hidd hsym
  have HMA := hidd (cqR_many F N2)
  clear hFe hF hsym
  obtain ⟨t0, hi2, hz0, hz1, hz3⟩ := info_parts info88
  have HIF := hidd (And.intro hi2 (And.intro hz0 (And.intro hz1 hz3)))
  clear hi2 hz0 hz1 hz3
  refine (callsIn_wide (n := 8)).1 (callsIn_of_wp_marks Tryd.func75 rfl trivial ?_ rfl)
  simp only [Tryd.ntmps75, List.size_toArray, List.length_cons, List.length_nil, Nat.reduceAdd, Nat.reduceSub, Array.replicate_succ, Array.replicate_zero, List.push_toArray, List.append_toArray, List.nil_append, List.cons_append]
  have b3 : Blk (((w.alloc (Obj.cells (ccells (N : Int) k bs).toArray 28)).alloc (Obj.cells #[.int .i64 m] 2)).alloc (Obj.cells #[.slice none 0 0] 90)) w.heap.size (ccells (N : Int) k bs).toArray 28 := ((Blk.new _ _ _ _ rfl).alloc _).alloc _
  have H3 := hidd b3
  gi_wp2_with (refine inLoadRow rfl 28 (.tmp 3) rfl w.heap.size rfl 28 _ _ H3.out Tryd.underlying28 rfl HS.out ?_)
  have b5 : Blk (((w.alloc (Obj.cells (ccells (N : Int) k bs).toArray 28)).alloc (Obj.cells #[.int .i64 m] 2)).alloc (Obj.cells #[.slice none 0 0] 90)) (w.heap.size + 1) #[.int .i64 m] 2 := (Blk.new _ _ _ _ (by simp)).alloc _
  have b6 : Blk (((w.alloc (Obj.cells (ccells (N : Int) k bs).toArray 28)).alloc (Obj.cells #[.int .i64 m] 2)).alloc (Obj.cells #[.slice none 0 0] 90)) (w.heap.size + 1 + 1) #[.slice none 0 0] 90 := Blk.new _ _ _ _ (by simp)
  refine (callsIn_wide.2 (HQ.out _)).mono ?_
  rintro e W0 ⟨bx, bn, rfl, hBx, hBn, hb1⟩
  have hbl0 : Below w.heap.size w W0 := ((((Below.refl _ _).alloc (Nat.le_refl _) _).alloc (by simp) _).alloc (by simp; omega) _).trans (hb1.mono (by simp; omega))
  have h5 := b5.below hb1 b5.lt
  have h6 := b6.below hb1 b6.lt
  clear hb1 b3 b5 b6
  have hlt6 := h6.lt
  have hnx : bx ≠ w.heap.size + 1 + 1 := fun e => by subst e; have h1 := hBx; have h2 := h6; unfold Blk at h1 h2; rw [h1] at h2; cases h2
  have hnn : bn ≠ w.heap.size + 1 + 1 := fun e => by subst e; have h1 := hBn; have h2 := h6; unfold Blk at h1 h2; rw [h1] at h2; cases h2
  have HNX := hidd (And.intro hnx hnn)
  have HL6 := hidd hlt6
  clear hnx hnn hlt6
  gi_wp2
  refine wpIn_rangeFunc_ownH rfl (by omega) (gf := 110) (lb := #[.pointer (some ⟨bx, 0, none⟩), .pointer (some ⟨bn, 0, none⟩)]) rfl trivial (enters_of Tryd.func110 (by kernel_rfl) rfl)
    (seq58 6 bx bn N k bs hb F N1 N2 HF.out HSY.out W0 hBx hBn) kpC_t (kpC_b hBx.lt hBn.lt) (Below.refl _ _) (fun _ => rfl)
    (fun pre W => RelCz m w W0.heap.size pre W)
    (fun c pre W => False)
    (fun s A B row hs hg hr => ⟨blk_own hs.1 hg hr, by
      obtain ⟨v, h1, h2⟩ := hs.2.1
      exact ⟨v, blk_own h1 hg hr, ownR_grow h2 hg (fun r e => (hr r e).2)⟩, ownFrom_below (β := Unit) (Nat.le_refl _) hbl0.size () A B row hs.2.2.1 hg hr, Nat.le_trans hs.2.2.2 hg.size⟩)
    (fun c s A B row hs hg hr => hs)
    ⟨h5, ⟨_, h6, rfl, .inl ⟨rfl, rfl⟩⟩, hbl0, Nat.le_refl _⟩
    (fun x a' W => a' = { tmps := #[.agg (ccells (N : Int) k bs).toArray, .int .i64 c, .int .i64 m, .pointer (some ⟨w.heap.size, 0, none⟩), undef, .pointer (some ⟨w.heap.size + 1, 0, none⟩), .slice none 0 0, .pointer (some ⟨w.heap.size + 1 + 1, 0, none⟩), .int .u32 (bitS x.1 : Nat), .agg (ccells (N : Int) k bs).toArray, .int .i64 c, .func (.func 110) #[] #[.pointer (some ⟨bx, 0, none⟩), .pointer (some ⟨bn, 0, none⟩)], .int .u32 (bitS x.1 : Nat), undef, undef, undef, undef, undef, undef, undef, undef, undef], defers := [] })
    (fun x a' s A B row hs hg hr => hs) ?assign ?body ?done ?stop
  case assign =>
    intro l pre x W Kx hI hK
    have HI := hidd hI
    have HK := hidd hK
    clear hI hK
    dsimp only [encC]
    gi_wp2
    exact HK.out _ _ (KeepsFrom.refl _ _) ⟨rfl, rfl⟩ HI.out rfl
  case body =>
    rintro l pre x a' W hl _ ⟨g5, ⟨v, g6, gv⟩, g7, g9⟩ rfl hlen
    obtain ⟨xs1, xs2, xs3⟩ := x.2
    have hX17 : bitS x.1 < 2 ^ 17 := bitS_lt _ (fun q hq => by have := xs2 q hq; omega)
    have HZ := hidd (fun W => size34 (bitS x.1) hX17 W)
    rw [ones_bitS x.1 xs1] at HZ
    obtain ⟨X, hX⟩ : ∃ X, X = bitS x.1 := ⟨_, rfl⟩
    obtain ⟨ln, hln⟩ : ∃ ln, ln = x.1.length := ⟨_, rfl⟩
    rw [← hX, ← hln] at HZ
    rw [← hX]
    have HG := hidd (And.intro g5 (And.intro g6 (And.intro gv (And.intro g7 g9))))
    have HXL := hidd (And.intro hX hln)
    have HLN := hidd (show (clS m pre).length < 131072 by
      have := clS_len (m := m) pre
      have := HMA.out
      omega)
    clear g5 g6 g7 g9 gv hX17 xs1 xs2 xs3 hX hln hlen
    have hWx := Nat.lt_of_lt_of_le hBx.lt HG.out.2.2.2.2
    have hWn := Nat.lt_of_lt_of_le hBn.lt HG.out.2.2.2.2
    cases hq : ((ln : Int) == m) with
    | false =>
      have hd : decide ((x.1.length : Int) = m) = false := by rw [← HXL.out.2]; exact decide_eq_false (beq_eq_false_iff_ne.1 hq)
      have HD := hidd (clS_no (pre := pre) hd)
      clear hd
      gi_wp2
      refine wpIn_region_tail_lit (lets_round l _) 3 (fun w' => Below W.heap.size W w') (by decide) (by kernel_rfl) ((Below.refl _ _).drew) (by kernel_rfl) (by kernel_rfl) (by kernel_rfl) (by kernel_rfl) (by kernel_rfl) ?_
      simp only [List.take_succ_cons, List.take_zero, List.drop_succ_cons, List.drop_zero, List.map_cons, List.map_nil, List.cons_append, List.nil_append, idle]
      refine qs rfl (fun KQ hKQ => ?_)
      apply Exists.intro
      refine ⟨fun w' hw' => ?_, ?_⟩
      · go_simp; exact rfl
      go_simp
      refine hKQ _ ?_
      clear hKQ KQ
      refine qs rfl (fun KQ hKQ => ?_)
      apply Exists.intro
      refine ⟨fun w' hw' => ?_, ?_⟩
      · go_simp; exact (HZ.out _).mono fun _ _ h => ⟨h.1, by rw [h.2]; exact hw'.drew⟩
      go_simp
      refine hKQ _ ?_
      clear hKQ KQ
      refine qs rfl (fun KQ hKQ => ?_)
      apply Exists.intro
      refine ⟨fun w' hw' => ?_, ?_⟩
      · have e1 := (HG.out.1.below hw' HG.out.1.lt).cell (j := 0) (show _ = some (Value.int .i64 m) from rfl); go_simp; exact rfl
      go_simp
      refine hKQ _ ?_
      clear hKQ KQ
      refine qs rfl (fun KQ hKQ => ?_)
      apply Exists.intro
      refine ⟨fun w' hw' => ?_, ?_⟩
      · go_simp; exact rfl
      go_simp
      refine hKQ _ ?_
      clear hKQ KQ
      refine wpQuiet_nil ?_
      intro w' hw'
      have K1 := hidd (show RelCz m w W0.heap.size (pre ++ [x]) w' from ⟨HG.out.1.below hw' HG.out.1.lt, ⟨v, HG.out.2.1.below hw' HG.out.2.1.lt, by rw [HD.out]; exact own_below HG.out.2.2.1 hw' (Nat.le_refl _)⟩, HG.out.2.2.2.1.trans (hw'.mono HG.out.2.2.2.1.size), Nat.le_trans HG.out.2.2.2.2 hw'.size⟩)
      have K2 := hidd (show KpC bx bn W w' from ⟨hw'.block _ hWx, hw'.block _ hWn⟩)
      have K3 := hidd (keeps_below (B := W0.heap.size) hw')
      clear hw'
      gi_wp2_with fail
      exact ⟨K3.out, K2.out, K1.out⟩
    | true =>
      have hd : decide ((x.1.length : Int) = m) = true := by rw [← HXL.out.2]; exact decide_eq_true (beq_iff_eq.1 hq)
      have HD := hidd (clS_yes (pre := pre) hd)
      clear hd
      gi_wp2
      refine wpIn_region_tail_lit (lets_round l _) 3 (fun w' => Below W.heap.size W w') (by decide) (by kernel_rfl) ((Below.refl _ _).drew) (by kernel_rfl) (by kernel_rfl) (by kernel_rfl) (by kernel_rfl) (by kernel_rfl) ?_
      simp only [List.take_succ_cons, List.take_zero, List.drop_succ_cons, List.drop_zero, List.map_cons, List.map_nil, List.cons_append, List.nil_append, idle]
      refine qs rfl (fun KQ hKQ => ?_)
      apply Exists.intro
      refine ⟨fun w' hw' => ?_, ?_⟩
      · go_simp; exact rfl
      go_simp
      refine hKQ _ ?_
      clear hKQ KQ
      refine qs rfl (fun KQ hKQ => ?_)
      apply Exists.intro
      refine ⟨fun w' hw' => ?_, ?_⟩
      · go_simp; exact (HZ.out _).mono fun _ _ h => ⟨h.1, by rw [h.2]; exact hw'.drew⟩
      go_simp
      refine hKQ _ ?_
      clear hKQ KQ
      refine qs rfl (fun KQ hKQ => ?_)
      apply Exists.intro
      refine ⟨fun w' hw' => ?_, ?_⟩
      · have e1 := (HG.out.1.below hw' HG.out.1.lt).cell (j := 0) (show _ = some (Value.int .i64 m) from rfl); go_simp; exact rfl
      go_simp
      refine hKQ _ ?_
      clear hKQ KQ
      refine qs rfl (fun KQ hKQ => ?_)
      apply Exists.intro
      refine ⟨fun w' hw' => ?_, ?_⟩
      · go_simp; exact rfl
      go_simp
      refine hKQ _ ?_
      clear hKQ KQ
      refine wpQuiet_nil ?_
      intro w' hw'
      have r5 := HG.out.1.below hw' HG.out.1.lt
      have r6 := HG.out.2.1.below hw' HG.out.2.1.lt
      have rv := own_below HG.out.2.2.1 hw' (Nat.le_refl _)
      have r7 := HG.out.2.2.2.1.trans (hw'.mono HG.out.2.2.2.1.size)
      have rs := Nat.le_trans HG.out.2.2.2.2 hw'.size
      have f6 := r6.fro 0
      have c6 := r6.cell (j := 0) rfl
      have HA := hidd (own_below rv ((Below.refl w'.heap.size w').alloc (Nat.le_refl _) (.cells #[.int .u32 (X : Int)] 88)) (Nat.le_refl _))
      have HR := hidd (And.intro r5 (And.intro r6 (And.intro r7 rs)))
      have HW := hidd hw'
      clear r5 r6 rv r7 rs hw'
      gi_wp2_with (gi_at_builtin; refine wpListIn_append_own _ rfl _ _ 90 rfl W0.heap.size 88 t0 (.int .u32 0) 1 4 Tryd.underlying90 HIF.out.1 HIF.out.2.1 HIF.out.2.2.1 HIF.out.2.2.2 rfl (by decide) _ _ _ rfl HA.out ⟨w'.heap.size, 0, none⟩ 1 1 [.int .u32 (X : Int)] rfl rfl ?c1 ?c2 ?c3 ?c4 ?c5 ?_)
      case c1 => exact one_new _ _ _
      case c2 => intro u hu; simp at hu; subst hu; rfl
      case c3 => unfold maxLen; have := HLN.out; omega
      case c4 => have := HLN.out; omega
      case c5 => have := HR.out.2.2.2; simp; omega
      intro v' Y hown' hgrow _
      have hL2 : (clS m pre).length + 1 = (clS m (pre ++ [x])).length := by rw [HD.out]; simp
      have hX2 : ucs (clS m pre) ++ [.int .u32 (X : Int)] = ucs (clS m (pre ++ [x])) := by rw [HD.out, ucs_app, HXL.out.1]; rfl
      rw [hL2, hX2] at hown'
      obtain ⟨aN, cN, rfl, _⟩ := slU_own hown'
      have hbY : Below W0.heap.size (w'.alloc (.cells #[.int .u32 (X : Int)] 88)) Y := grown_plain HA.out hgrow (by have := HR.out.2.2.2; simp; omega)
      have hbA : Below w'.heap.size w' (w'.alloc (.cells #[.int .u32 (X : Int)] 88)) := (Below.refl w'.heap.size w').alloc (Nat.le_refl _) _
      have k5 : Blk Y (w.heap.size + 1) #[.int .i64 m] 2 := (HR.out.1.below hbA HR.out.1.lt).below hbY h5.lt
      have k6 : Blk Y (w.heap.size + 1 + 1) #[v] 90 := (HR.out.2.1.below hbA HR.out.2.1.lt).below hbY h6.lt
      have k7 : Below w.heap.size w Y := (HR.out.2.2.1.trans (hbA.mono HR.out.2.2.1.size)).trans (hbY.mono hbl0.size)
      have e6 := k6.cell (j := 0) rfl
      have g6 := k6.fro 0
      obtain ⟨lN, hvN⟩ : ∃ lN, lN = (clS m (pre ++ [x])).length := ⟨_, rfl⟩
      rw [← hvN] at hown' ⊢
      have hown2 : Y.ownsRow W0.heap.size 88 1 (.slice aN lN cN) (clS m (pre ++ [x])).length (ucs (clS m (pre ++ [x]))) := by rw [← hvN]; exact hown'
      have K1 := hidd (show RelCz m w W0.heap.size (pre ++ [x]) (Y.setCell ⟨w.heap.size + 1 + 1, 0, none⟩ (.slice aN lN cN)) from
        ⟨k5.other _ _ (by simp), ⟨_, k6.same 0 _, ownR_set hown2 _ _ (by show w.heap.size + 1 + 1 < W0.heap.size; have := HL6.out; omega)⟩, k7.setCell (by show w.heap.size ≤ w.heap.size + 1 + 1; omega) _, by
          have := HR.out.2.2.2
          simp [World.setCell]
          have h3 := hbY.size
          simp at h3
          omega⟩)
      have K2 := hidd (show KpC bx bn W (Y.setCell ⟨w.heap.size + 1 + 1, 0, none⟩ (.slice aN lN cN)) from
        ⟨(heap_setCell_other _ _ bx _ HNX.out.1).trans ((hbY.block _ hBx.lt).trans ((hbA.block _ (Nat.lt_of_lt_of_le hWx HW.out.size)).trans (HW.out.block _ hWx))),
         (heap_setCell_other _ _ bn _ HNX.out.2).trans ((hbY.block _ hBn.lt).trans ((hbA.block _ (Nat.lt_of_lt_of_le hWn HW.out.size)).trans (HW.out.block _ hWn)))⟩)
      have K3 := hidd ((((keeps_below (B := W0.heap.size) HW.out).trans (keeps_below (B := W0.heap.size) hbA)).trans (keeps_grown HA.out hgrow)).trans ((KeepsOthers.setCell Y ⟨w.heap.size + 1 + 1, 0, none⟩ (.slice aN lN cN)).from _))
      clear hbY hbA k5 k6 k7 hown' hown2 hgrow hL2 hX2 hvN
      gi_wp2_with fail
      exact ⟨K3.out, K2.out, K1.out⟩
  case done =>
    rintro D xs W hD hxs ⟨g5, ⟨v, g6, gv⟩, g7, g9⟩ hK
    have hall : clS m xs = csL F N m := by unfold clS csL; rw [hxs]
    rw [hall] at gv
    obtain ⟨aL, cL, rfl, _⟩ := slU_own gv
    obtain ⟨lL, hL⟩ : ∃ lL, lL = (csL F N m).length := ⟨_, rfl⟩
    have gv2 : W.ownsRow W0.heap.size 88 1 (.slice aL (csL F N m).length cL) (csL F N m).length (ucs (csL F N m)) := gv
    rw [← hL] at g6
    have HLL := hidd hL
    have gv := gv2
    clear gv2
    have c6 := g6.cell (j := 0) rfl
    have R := hidd (And.intro gv (And.intro g7 (And.intro hK g9)))
    have hDW : W0.heap.size ≤ D := hD
    have hl0 := hbl0.size
    clear gv g7 hK g9 g5 hL hall hxs
    gi_wp2
    refine ⟨by simp [Act.put], .inl ⟨_, _, rfl, run_takeDeferred R.out.2.2.1, ?_⟩⟩
    have hb3 : Below w.heap.size w (W.putObj D (.deferred none)) := R.out.2.1.grown (grownBy_putObj' _ D (.deferred none)) R.out.2.1.size (fun k e => by cases e; omega)
    have hv := ownR_grow R.out.1 (grownBy_putObj' _ D (.deferred none)) (fun r e => by cases e; exact ⟨_, R.out.2.2.1, rfl⟩)
    obtain ⟨aM, cM, hvM, hSU⟩ := slU_own hv
    cases hvM
    refine ⟨.slice aL lL cL, ?_, aL, cL, ?_, hSU, hb3⟩
    · simp [results, show Tryd.f75.results = #[.tmp 6] from rfl]
    · rw [← HLL.out]
  case stop =>
    rintro D c pre W hD _ h
    exact h.elim
end Go.Proofs.YtckffliiidgilaaDoor
