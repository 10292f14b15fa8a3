/- AvoidsSizes: its model. -/
import Derived.Test.YtkiocedhibeieaaDoorGoList
namespace Go.Proofs.YtkiocedhibeieaaDoor
set_option linter.unusedVariables false
set_option linter.unusedSimpArgs false
open Go Go.RowKit Go.Shelf
theorem cell_below {w w' : World} {p : Addr} {v : Value} (h : w.cell? p = some v) (hb : Below w.heap.size w w') : w'.cell? p = some v := by
  rw [World.cell?_of_block (hb.block _ (World.block_lt_of_cell? w p h))]; exact h
def szP (zs : List Int) (d : Nat) : Bool := (List.range d).all fun j => inB (zs.getD j 0) 1 17
theorem szP_step (zs : List Int) (d : Nat) : szP zs (d + 1) = (szP zs d && inB (zs.getD d 0) 1 17) := by simp [szP, List.range_succ]
theorem szP_get {zs : List Int} {d j : Nat} (h : szP zs d = true) (hj : j < d) : inB (zs.getD j 0) 1 17 = true := List.all_eq_true.1 h j (List.mem_range.2 hj)
theorem szP_fall {zs : List Int} {d m : Nat} (h : inB (zs.getD d 0) 1 17 = false) (hm : d < m) : szP zs m = false := by
  unfold szP
  rw [List.all_eq_false]
  exact ⟨d, List.mem_range.2 hm, by rw [h]; simp⟩
def szOk (k : Int) (zs : List Int) : Bool := decide ((zs.length : Int) = k) && szP zs zs.length
def szCode (n k : Int) (bs : List Nat) (zs : List Int) : Int := if isCol n k bs then (if szOk k zs then 0 else 2) else 1
theorem szCode_1 {n k : Int} {bs : List Nat} {zs : List Int} (h : isCol n k bs = false) : szCode n k bs zs = 1 := by simp [szCode, h]
theorem szCode_2 {n k : Int} {bs : List Nat} {zs : List Int} (h : isCol n k bs = true) (h2 : szOk k zs = false) : szCode n k bs zs = 2 := by simp [szCode, h, h2]
theorem szCode_0 {n k : Int} {bs : List Nat} {zs : List Int} (h : isCol n k bs = true) (h2 : szOk k zs = true) : szCode n k bs zs = 0 := by simp [szCode, h, h2]
/-- Is there no clique of the size of one of the first d colours? -/
def avP (N : Nat) (bs : List Nat) (zs : List Int) (d : Nat) : Bool := (List.range d).all fun c => (clqL bs (c : Int) N (zs.getD c 0).toNat).isEmpty
theorem avP_step (N : Nat) (bs : List Nat) (zs : List Int) (d : Nat) : avP N bs zs (d + 1) = (avP N bs zs d && (clqL bs (d : Int) N (zs.getD d 0).toNat).isEmpty) := by simp [avP, List.range_succ]
theorem avP_fall {N : Nat} {bs : List Nat} {zs : List Int} {d m : Nat} (h : (clqL bs (d : Int) N (zs.getD d 0).toNat).isEmpty = false) (hm : d < m) : avP N bs zs m = false := by
  unfold avP
  rw [List.all_eq_false]
  exact ⟨d, List.mem_range.2 hm, by rw [h]; simp⟩
def avB (n k : Int) (bs : List Nat) (zs : List Int) : Bool := decide (szCode n k bs zs = 0) && avP n.toNat bs zs k.toNat
set_option maxRecDepth 100000 in
set_option maxHeartbeats 2000000 in
theorem sizes28 (n k : Int) (bs : List Nat) (hb : Bys bs) (zs : List Int) (a : Option Addr) (cap : Nat) (w : World) (hs : SlI w a zs) (hl : zs.length ≤ 1048576) :
    Calls Tryd.prog 41 #[.agg (ccells n k bs).toArray, .slice a zs.length cap] w fun e w' => e = .returned (.int .i64 (szCode n k bs zs)) ∧ Below w.heap.size w w' := by
  have HS := hidd (size_c26 n k hb)
  have HC1 := hidd (show (ccells n k bs).toArray[1]? = some (.int .i64 k) from rfl)
  have HSL := hidd hs
  cases hi : isCol n k bs with
  | false =>
    have HI := hidd hi
    rw [szCode_1 hi]
    clear hi hs
    go_enter Tryd.func41, Tryd.ntmps41
    go_wp2_with (refine wpList_load_row rfl 28 (.tmp 2) rfl w.heap.size rfl 28 _ (0,0) _ (Blk.new _ _ _ _ rfl) Tryd.underlying28 rfl HS.out ?_)
    refine (l01Is_any n k bs hb _).mono ?_
    rintro e w1 ⟨rfl, hb1⟩
    rw [HI.out]
    have G := hidd (((Below.refl w.heap.size w).alloc (Nat.le_refl _) (.cells (ccells n k bs).toArray 28)).trans (hb1.mono (by simp)))
    clear hb1
    go_wp2_with fail
    go_ret
    exact ⟨rfl, G.out⟩
  | true =>
    obtain ⟨n1, n2, k1, k2⟩ := isCol_bd hi
    have HI := hidd hi
    cases hlk : decide ((zs.length : Int) = k) with
    | false =>
      have hne : ((zs.length : Int) != k) = true := by rw [bne_iff_ne]; exact of_decide_eq_false hlk
      rw [szCode_2 hi (by unfold szOk; rw [hlk]; rfl)]
      clear hi hlk hs
      go_enter Tryd.func41, Tryd.ntmps41
      go_wp2_with (refine wpList_load_row rfl 28 (.tmp 2) rfl w.heap.size rfl 28 _ (0,0) _ (Blk.new _ _ _ _ rfl) Tryd.underlying28 rfl HS.out ?_)
      refine (l01Is_any n k bs hb _).mono ?_
      rintro e w1 ⟨rfl, hb1⟩
      rw [HI.out]
      have c1 := ((Blk.new w (ccells n k bs).toArray 28 _ rfl).below hb1 (by simp)).cell HC1.out
      have G := hidd (((Below.refl w.heap.size w).alloc (Nat.le_refl _) (.cells (ccells n k bs).toArray 28)).trans (hb1.mono (by simp)))
      clear hb1
      go_wp2_with fail
      go_ret
      exact ⟨rfl, G.out⟩
    | true =>
      have hne : ((zs.length : Int) != k) = false := by rw [bne_eq_false_iff_eq]; exact of_decide_eq_true hlk
      have hsz : szCode n k bs zs = if szP zs zs.length then 0 else 2 := by unfold szCode szOk; rw [hi, hlk, if_pos rfl, Bool.true_and]
      obtain ⟨cd, hcd⟩ : ∃ cd, cd = szCode n k bs zs := ⟨_, rfl⟩
      rw [← hcd]
      rw [hsz] at hcd
      have HCD := hidd hcd
      clear hi hlk hs hsz hcd
      go_enter Tryd.func41, Tryd.ntmps41
      go_wp2_with (refine wpList_load_row rfl 28 (.tmp 2) rfl w.heap.size rfl 28 _ (0,0) _ (Blk.new _ _ _ _ rfl) Tryd.underlying28 rfl HS.out ?_)
      refine (l01Is_any n k bs hb _).mono ?_
      rintro e w1 ⟨rfl, hb1⟩
      rw [HI.out]
      have c1 := ((Blk.new w (ccells n k bs).toArray 28 _ rfl).below hb1 (by simp)).cell HC1.out
      have G := hidd (((Below.refl w.heap.size w).alloc (Nat.le_refl _) (.cells (ccells n k bs).toArray 28)).trans (hb1.mono (by simp)))
      clear hb1
      go_wp2_with fail
      go_loopw [5] (fun e wr => ∃ j : Nat, j ≤ zs.length ∧ e = .int .i64 (j : Int) ∧ Hid (szP zs j = true ∧ Below w.heap.size w wr)) (fun e _ => zs.length - (intOf e).toNat)
      case atStart => exact ⟨0, Nat.zero_le _, rfl, rfl, G.out⟩
      case round =>
        obtain ⟨j, hj, rfl, HK⟩ := hrel
        by_cases hlt : j < zs.length
        · have hltI : decide ((j : Int) < (zs.length : Int)) = true := by simp; omega
          rcases HSL.out with hz | ⟨bl, off, ha, hc⟩
          · rw [hz] at hlt; simp at hlt
          · subst ha
            have cj := cell_below (hc j hlt) HK.out.2
            obtain ⟨z, hzz⟩ : ∃ z, z = zs.getD j 0 := ⟨_, rfl⟩
            rw [← hzz] at cj
            have hst := szP_step zs j
            rw [HK.out.1, Bool.true_and, ← hzz] at hst
            cases hin : inB z 1 17 with
            | true =>
              have HST := hidd (hst.trans hin)
              have HIN := hidd hin
              clear hc hst hin hzz
              go_wp2_with (go_at_call 52; refine (in49 _ _ _ _).mono ?_; rintro e w' ⟨rfl, rfl⟩; rw [HIN.out])
              go_roundw
              case rel => exact ⟨j + 1, by omega, by go_num, HST.out, HK.out.2⟩
              case measure => simp [intOf]; omega
            | false =>
              have HST := hidd (szP_fall (zs := zs) (d := j) (by rw [← hzz]; exact hin) hlt)
              have HIN := hidd hin
              clear hc hst hin hzz
              go_wp2_with (go_at_call 52; refine (in49 _ _ _ _).mono ?_; rintro e w' ⟨rfl, rfl⟩; rw [HIN.out])
              go_ret
              exact ⟨by rw [HCD.out, HST.out]; rfl, HK.out.2⟩
        · have hltI : decide ((j : Int) < (zs.length : Int)) = false := by simp; omega
          have hje : j = zs.length := by omega
          have HP := hidd (show szP zs zs.length = true by rw [← hje]; exact HK.out.1)
          clear hje
          go_wp2_with fail
          go_ret
          exact ⟨by rw [HCD.out, HP.out]; rfl, HK.out.2⟩
end Go.Proofs.YtkiocedhibeieaaDoor

