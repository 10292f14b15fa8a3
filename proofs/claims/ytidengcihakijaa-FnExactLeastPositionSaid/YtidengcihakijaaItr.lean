/- renumberings: the function that hands out all orders. -/
import Derived.Test.YtidengcihakijaaRgd
import Derived.OwnWalkIn
import Derived.Lib.SliceRun
namespace Go.Proofs.Ytidengcihakijaa
set_option linter.unusedVariables false
set_option linter.unusedSimpArgs false
open Go Go.RowKit Go.Shelf
attribute [local go_sem] Oper.semAt_some
/-- How many orders come behind one. -/
def stepsF : Nat → List Int → Nat
  | 0, _ => 0
  | f + 1, L => match advF L with
    | none => 0
    | some L' => stepsF f L' + 1
theorem steps_rest {all : List (List Int)} (h : ∀ (pre : List (List Int)) (x : List Int) (rest : List (List Int)), all = pre ++ x :: rest → advF x = rest.head?) : ∀ (rest : List (List Int)) (f : Nat) (pre : List (List Int)) (x : List Int), all = pre ++ x :: rest → rest.length ≤ f → stepsF f x = rest.length
  | [], 0, pre, x, _, _ => rfl
  | [], f + 1, pre, x, he, _ => by rw [stepsF, h pre x [] he]; rfl
  | y :: r, 0, pre, x, _, hl => by simp at hl
  | y :: r, f + 1, pre, x, he, hl => by
    rw [stepsF, h pre x (y :: r) he]
    show stepsF f y + 1 = _
    rw [steps_rest h r f (pre ++ [x]) y (by rw [he]; simp) (by simpa using hl)]
    rfl
theorem ord_len : ∀ N, N ∈ [1, 2, 3, 4, 5, 6] → decide ((ordM N N []).length ≤ 720) = true ∧ (ordM N N []).all (fun x => decide (x.length = N)) = true := by decide +kernel
/-- What a block holds at its beginning. -/
def decR (W : World) (g N : Nat) : List Int := (List.range N).map fun j => intOf ((W.cell? ⟨g, j, none⟩).getD undef)
theorem dec_row {W : World} {g N : Nat} {L : List Int} {C : Array Value} (h : RowC W g L C) (hl : L.length = N) : decR W g N = L := by
  subst hl
  apply List.ext_getElem
  · simp [decR]
  · intro j h1 h2
    simp only [decR, List.getElem_map, List.getElem_range, h.cell h2, Option.getD_some]
    show L.getD j 0 = _
    simp [List.getD, h2]
def EncR (N : Nat) (x : List Int) (B D : Nat) (W : World) (args : Array Value) : Prop := ∃ g c C, args = #[.slice (some ⟨g, 0, none⟩) N c] ∧ B ≤ g ∧ g < D ∧ RowC W g x C ∧ x.length = N
theorem clone19_nil (w : World) : Calls Try.prog 19 #[.slice none 0 0] w fun e w' => e = .returned (.slice none 0 0) ∧ w = w' := by
  have hq : ∀ W : World, (binOp .eql 22 (.slice none 0 0) (.slice none 0 0)).run Try.prog W = .ok (.bool true) W := fun W => Lib.run_eql_slice_nil W 22 2 none 0 0 0 0 Try.underlying22
  go_enter Try.func19, Try.ntmps19
  go_wp2
  go_ret
  exact ⟨rfl, rfl⟩
set_option maxRecDepth 100000 in
set_option maxHeartbeats 1000000 in
theorem clone19 (b off cap : Nat) (zs : List Int) (w : World) (hs : SlI w (some ⟨b, off, none⟩) zs) (hl : zs.length ≤ 1048576) :
    Calls Try.prog 19 #[.slice (some ⟨b, off, none⟩) zs.length cap] w fun e w' => ∃ g c, e = .returned (.slice (some ⟨g, 0, none⟩) zs.length c) ∧ w'.ownsRow w.heap.size 2 1 (.slice (some ⟨g, 0, none⟩) zs.length c) zs.length (icells zs) ∧ Below w.heap.size w w' := by
  have hq : ∀ W : World, (binOp .eql 22 (.slice (some ⟨b, off, none⟩) zs.length cap) (.slice none 0 0)).run Try.prog W = .ok (.bool false) W := fun W => Lib.run_eql_slice_nil W 22 2 (some ⟨b, off, none⟩) zs.length cap 0 0 Try.underlying22
  obtain ⟨t0, hi2, hz0, hz1, hz3⟩ := info_parts info2
  have HIF := hidd (And.intro hi2 (And.intro hz0 (And.intro hz1 hz3)))
  have hown := empty_own w
  have HSL := hidd hs
  clear hi2 hz0 hz1 hz3 hs
  go_enter Try.func19, Try.ntmps19
  go_wp2_with (at_builtin; refine wpList_append_own _ rfl _ _ 22 rfl w.heap.size 2 t0 (.int .i64 0) 1 8 Try.underlying22 HIF.out.1 HIF.out.2.1 HIF.out.2.2.1 HIF.out.2.2.2 rfl (by decide) _ _ _ rfl hown ⟨b, off, none⟩ zs.length cap (icells zs) rfl ?c0 ?c1 ?c2 ?c3 ?c4 ?c5 ?_)
  case c0 => simp [icells]
  case c1 =>
    intro j u hu
    have hj : j < zs.length := by have := (List.getElem?_eq_some_iff.1 hu).1; simpa [icells] using this
    rcases HSL.out with hz | ⟨b', off', ha, hc⟩
    · subst hz; simp at hj
    · cases ha
      have h1 := hc j hj
      have h2 := (show (icells zs)[j]? = some (Value.int .i64 (zs.getD j 0)) by simpa using icells_get hj)
      rw [h2] at hu; cases hu
      have hlt := block_lt_of_cell h1
      rw [show (⟨b, off, none⟩ : Addr).add j = ⟨b, off + j, none⟩ from by simp [Addr.add]]
      rw [Below.cell ((Below.refl w.heap.size w).alloc (Nat.le_refl _) (.cells #[] 2)) (by exact hlt)]
      exact h1
  case c2 => intro u hu; simp only [icells, List.mem_map] at hu; obtain ⟨x, _, rfl⟩ := hu; rfl
  case c3 => unfold maxLen; omega
  case c4 => omega
  case c5 => simp
  intro v' w1 hown' hgrow hnn
  have hb1 := ((Below.refl w.heap.size w).alloc (Nat.le_refl _) (.cells #[] 2)).grown hgrow (by simp) (fun k hk => by cases hk; exact Nat.le_refl _)
  simp only [Nat.zero_add, icells, List.map_nil, List.nil_append] at hown'
  have R := hidd (And.intro hown' (And.intro hb1 hnn))
  clear hown' hgrow hnn hb1 hown
  go_wp2
  go_ret
  obtain ⟨r1, r2, r3⟩ := R.out
  rcases r1.2 with ⟨rfl, _⟩ | ⟨g, c, cur, rfl, hx⟩
  · exact (r3 rfl).elim
  · exact ⟨g, c, rfl, r1, r2⟩
theorem index57_nil (x : Int) (w : World) : Calls Try.prog 57 #[.slice none 0 0, .int .i64 x] w fun e w' => e = .returned (.int .i64 (-1)) ∧ w = w' := by
  go_enter Try.func57, Try.ntmps57
  go_wp2_with fail
  go_loopw [8] (fun e wr => e = .int .i64 0 ∧ w = wr) (fun e _ => 0)
  case atStart => exact ⟨rfl, rfl⟩
  case round =>
    obtain ⟨rfl, hww⟩ := hrel
    obtain rfl : w = wr := hww
    go_wp2_with fail
    go_ret
    exact ⟨rfl, rfl⟩
theorem contains39_nil (x : Int) (w : World) : Calls Try.prog 39 #[.slice none 0 0, .int .i64 x] w fun e w' => e = .returned (.bool false) ∧ w = w' := by
  go_enter Try.func39, Try.ntmps39
  go_wp2_with fail
  refine (index57_nil x _).mono ?_
  rintro e w' ⟨rfl, rfl⟩
  go_wp2
  go_ret
  exact ⟨rfl, rfl⟩
theorem iota_succ (i : Nat) : iotaL (i + 1) = iotaL i ++ [(i : Int)] := by simp [iotaL, List.range_succ]
theorem iota_len (i : Nat) : (iotaL i).length = i := by simp [iotaL]
/-- While the first order is laid. -/
def RelIo (bf bn N : Nat) (W : World) (i : Nat) (v : Value) (wr : World) : Prop :=
  wr.ownsRow W.heap.size 2 1 v i (icells (iotaL i)) ∧ Blk wr bf #[.slice none 0 0] 22 ∧ Blk wr bn #[.int .i64 (N : Int)] 2 ∧ Below W.heap.size W wr
/-- While the orders are handed out. -/
def RelJo (bf bn g N D : Nat) (W : World) (J : List (List Int) → World → Prop) (pre : List (List Int)) (x : List Int) (wr : World) : Prop :=
  J pre wr ∧ (∃ C, RowC wr g x C) ∧ x.length = N ∧ Blk wr bf #[.slice none 0 0] 22 ∧ Blk wr bn #[.int .i64 (N : Int)] 2 ∧ W.heap.size ≤ g ∧ g < D ∧ D ≤ wr.heap.size
set_option maxRecDepth 100000 in
set_option maxHeartbeats 4000000 in
theorem iter38 (m N bf bn : Nat) (w : World) (n1 : 1 ≤ N) (n6 : N ≤ 6) (hF : Blk w bf #[.slice none 0 0] 22) (hN : Blk w bn #[.int .i64 (N : Int)] 2) :
    GivesD m 38 #[.pointer (some ⟨bf, 0, none⟩), .pointer (some ⟨bn, 0, none⟩)] (EncR N) [bf, bn] (ordM N N []) w := by
  intro l J Jx W hsz hbs hJ hY h0
  obtain ⟨hhd, hch⟩ := ord_chain n1 n6
  have hol := ord_len N (by simp; omega)
  have HST := hidd (fun pre x rest he => steps_rest hch rest 1000 pre x he (by
    have h1 := of_decide_eq_true hol.1
    rw [he] at h1
    simp only [List.length_append, List.length_cons] at h1
    omega))
  have HXN := hidd (fun x (hx : x ∈ ordM N N []) => (show x.length = N from of_decide_eq_true (List.all_eq_true.1 hol.2 x hx)))
  obtain ⟨all, hall⟩ : ∃ all, all = ordM N N [] := ⟨_, rfl⟩
  rw [← hall] at hhd hch HST HXN hY ⊢
  have HCH := hidd hch
  have HHD := hidd hhd
  have HY := hidd hY
  have HJ := hidd hJ
  have H0 := hidd h0
  have hF' : Blk W bf #[.slice none 0 0] 22 := (hbs bf (by simp)).trans hF
  have hN' : Blk W bn #[.int .i64 (N : Int)] 2 := (hbs bn (by simp)).trans hN
  have cF := hF'.cell (j := 0) (show _ = some (Value.slice none 0 0) from rfl)
  have cN := hN'.cell (j := 0) (show _ = some (Value.int .i64 (N : Int)) from rfl)
  have HFN := hidd (And.intro hF' hN')
  have HR0 := hidd (show RelIo bf bn N W 0 (.slice none 0 0) W from ⟨⟨rfl, .inl ⟨rfl, rfl⟩⟩, hF', hN', Below.refl _ _⟩)
  obtain ⟨t0, hi2, hz0, hz1, hz3⟩ := info_parts info2
  have HIF := hidd (And.intro hi2 (And.intro hz0 (And.intro hz1 hz3)))
  clear hsz hbs hY hJ h0 hF hN hF' hN' hhd hch hol hall hi2 hz0 hz1 hz3
  refine callsIn_of_wp Try.func38 rfl trivial ?_ rfl
  simp only [Try.ntmps38, List.size_toArray, List.length_cons, List.length_nil, Nat.reduceAdd, Nat.reduceSub, Array.replicate_succ, Array.replicate_zero, List.push_toArray, List.append_toArray, List.nil_append, List.cons_append]
  gi_wp2_with fail
  refine ⟨trivial, (callsIn_wide.2 (clone19_nil _)).mono ?_⟩
  rintro e w' ⟨rfl, rfl⟩
  gi_wp2_with fail
  gi_loopw [4, 9] (fun v e wr => ∃ i : Nat, i ≤ N ∧ e = .int .i64 (i : Int) ∧ Hid (RelIo bf bn N W i v wr)) (fun _ e _ => N - (intOf e).toNat)
  case atStart => exact ⟨0, Nat.zero_le _, rfl, HR0.out⟩
  case round =>
    obtain ⟨i, hi, rfl, HK⟩ := hrel
    by_cases hlt : i < N
    · have hltI : decide ((i : Int) < (N : Int)) = true := by simp; omega
      have hltI2 : (i : Int) < (N : Int) := by omega
      have cF2 := HK.out.2.1.cell (j := 0) (show _ = some (Value.slice none 0 0) from rfl)
      gi_wp2_with fail
      refine ⟨trivial, (callsIn_wide.2 (contains39_nil _ _)).mono ?_⟩
      rintro e w' ⟨rfl, rfl⟩
      have hown := HK.out.1
      have hws := HK.out.2.2.2.size
      gi_wp2_with (gi_at_builtin; refine wpListIn_append_own _ rfl _ _ 22 rfl W.heap.size 2 t0 (.int .i64 0) 1 8 Try.underlying22 HIF.out.1 HIF.out.2.1 HIF.out.2.2.1 HIF.out.2.2.2 rfl (by decide) _ _ _ rfl (hown.alloc _) ⟨wr.heap.size, 0, none⟩ 1 1 [.int .i64 (i : Int)] rfl rfl ?c1 ?c2 ?c3 ?c4 ?c5 ?_)
      case c1 => exact one_new _ _ _
      case c2 => intro u hu; simp at hu; subst hu; rfl
      case c3 => unfold maxLen; omega
      case c4 => omega
      case c5 => simp; omega
      intro v' w2 hown' hgrow _
      have K2 := hidd (show RelIo bf bn N W (i + 1) v' w2 from by
        have hb := HK.out.2.2.2.trans ((grown_step HK.out.1 hgrow HK.out.2.2.2.size).mono (Nat.le_refl _))
        refine ⟨?_, HFN.out.1.below hb HFN.out.1.lt, HFN.out.2.below hb HFN.out.2.lt, hb⟩
        rw [iota_succ]
        simpa [icells] using hown')
      clear hown' hgrow hown
      gi_wp2_with fail
      go_roundw
      case rel => exact ⟨i + 1, by omega, by go_num, K2.out⟩
      case measure => simp [intOf]; omega
    · have hltI : decide ((i : Int) < (N : Int)) = false := by simp; omega
      have hie : i = N := by omega
      subst hie
      obtain ⟨hxl, hv⟩ := HK.out.1
      rcases hv with ⟨_, hz⟩ | ⟨g, c, cur, rfl, hg1, hg2, hg3, hg4, hg5, hg6⟩
      · omega
      obtain ⟨rest0, hr0⟩ := HHD.out
      have HG := hidd (show W.heap.size ≤ g ∧ i ≤ c from ⟨hg1, hg3⟩)
      have HJ1 := hidd (show RelJo bf bn g i wr.heap.size W (J wr.heap.size) [] (iotaL i) wr from by
        refine ⟨HJ.out _ _ _ _ (H0.out _) (Away.of_below HK.out.2.2.2), ⟨cur, hg2, ?_, fun j hj => ?_⟩, iota_len i, HK.out.2.1, HK.out.2.2.1, hg1, Blk.lt (C := cur) (t := 2) hg2, Nat.le_refl _⟩
        · rw [iota_len]; omega
        · rw [iota_len] at hj
          have h1 : (icells (iotaL i))[j]? = some (Value.int .i64 ((iotaL i).getD j 0)) := by simpa using icells_get (zs := iotaL i) (j := j) (by rw [iota_len]; exact hj)
          rw [← hg6, List.getElem?_take, if_pos (by omega)] at h1
          simpa using h1)
      have HA0 := hidd (show all = [] ++ iotaL i :: rest0 from hr0)
      obtain ⟨D, hD⟩ : ∃ D, D = wr.heap.size := ⟨_, rfl⟩
      have HDW := hidd (show W.heap.size ≤ D from by rw [hD]; exact HK.out.2.2.2.size)
      rw [← hD] at HJ1
      clear hg1 hg2 hg3 hg4 hg5 hg6 hr0 hD hxl
      gi_wp2_with fail
      gi_loopw [21] (fun yv wr => ∃ (pre : List (List Int)) (x : List Int) (rest : List (List Int)), Hid (all = pre ++ x :: rest ∧ RelJo bf bn g i D W (J D) pre x wr)) (fun _ wr => stepsF 1000 (decR wr g i))
      case atStart => exact ⟨[], _, rest0, HA0.out, HJ1.out⟩
      case round =>
        obtain ⟨pre, x, rest, HK2⟩ := hrel
        have hxl := HK2.out.2.2.2.1
        obtain ⟨C, hC⟩ := HK2.out.2.2.1
        obtain ⟨fn, tmps, assign, body, hy, hRn⟩ := HY.out D pre x rest #[.slice (some ⟨g, 0, none⟩) i c] wr HDW.out HK2.out.2.2.2.2.2.2.2.2 HK2.out.1 HK2.out.2.1 ⟨g, c, C, rfl, HG.out.1, HK2.out.2.2.2.2.2.2.2.1, hC, hxl⟩
        have HRR := hidd hRn
        have HMU := hidd (show stepsF 1000 (decR wr g i) = rest.length from by rw [dec_row hC hxl]; exact HST.out _ _ _ HK2.out.1)
        have HXL := hidd hxl
        have HCC := hidd hC
        clear hRn hxl hC
        gi_wp2_with fail
        refine HRR.out.mono ?_
        rintro e W3 ⟨hk3, ⟨rfl, hJ3⟩ | ⟨rfl, hx3⟩⟩
        · have K3 := hidd (show RowC W3 g x C ∧ Blk W3 bf #[.slice none 0 0] 22 ∧ Blk W3 bn #[.int .i64 (i : Int)] 2 ∧ D ≤ W3.heap.size ∧ J D (pre ++ [x]) W3 from by
            have h2 := HK2.out.2.2.2.2
            refine ⟨⟨(hk3.2 g HCC.out.1.lt (.inl ⟨HG.out.1, h2.2.2.2.1⟩)).trans HCC.out.1, HCC.out.2⟩, (hk3.2 bf h2.1.lt (.inr (by simp))).trans h2.1, (hk3.2 bn h2.2.1.lt (.inr (by simp))).trans h2.2.1, Nat.le_trans h2.2.2.2.2 hk3.1, hJ3⟩)
          have hav := adv40 x g c C W3 K3.out.1 (by have := HXL.out; omega) (by have := HXL.out; omega) (by have := HXL.out; have := HG.out.2; omega)
          rw [HXL.out] at hav
          have HAV := hidd hav
          have HNX := hidd (HCH.out _ _ _ HK2.out.1)
          have cF3 := K3.out.2.1.cell (j := 0) (show _ = some (Value.slice none 0 0) from rfl)
          have hgc := HG.out.2
          clear hk3 hJ3 hav
          gi_wp2_with fail
          refine ⟨trivial, (callsIn_wide.2 HAV.out).mono ?_⟩
          rintro e w4 ⟨rfl, ⟨C4, hC4⟩, hO4⟩
          have hAw : Away W.heap.size D W3 w4 := ⟨hO4.1, hO4.2.1, hO4.2.2.1, Nat.le_of_eq hO4.2.2.2.1.symm, fun k _ hb => hO4.2.2.2.2 k (by have := HG.out.1; have := HK2.out.2.2.2.2.2.2.2.1; omega)⟩
          have hbf : Blk w4 bf #[.slice none 0 0] 22 := (hO4.2.2.2.2 bf (by have := HFN.out.1.lt; have := HG.out.1; omega)).trans K3.out.2.1
          have hbn : Blk w4 bn #[.int .i64 (i : Int)] 2 := (hO4.2.2.2.2 bn (by have := HFN.out.2.lt; have := HG.out.1; omega)).trans K3.out.2.2.1
          have hJ4 := HJ.out D _ _ _ K3.out.2.2.2.2 hAw
          have K4 := hidd (show RowC w4 g ((advF x).getD x) C4 ∧ Blk w4 bf #[.slice none 0 0] 22 ∧ Blk w4 bn #[.int .i64 (i : Int)] 2 ∧ D ≤ w4.heap.size ∧ J D (pre ++ [x]) w4 from
            ⟨hC4, hbf, hbn, Nat.le_trans K3.out.2.2.2.1 (Nat.le_of_eq hO4.2.2.2.1.symm), hJ4⟩)
          clear hC4 hO4 hAw hbf hbn hJ4
          cases rest with
          | nil =>
            have hnx : advF x = none := HNX.out
            rw [hnx]
            have HAL := hidd (show all = pre ++ [x] from HK2.out.1)
            clear hnx
            gi_wp2_with fail
            go_end0
            exact ⟨⟨_, rfl⟩, D, HDW.out, K4.out.2.2.2.1, .inl (by rw [HAL.out]; exact K4.out.2.2.2.2)⟩
          | cons y r =>
            have hnx : advF x = some y := HNX.out
            rw [hnx] at K4 ⊢
            have HAL := hidd (show all = (pre ++ [x]) ++ y :: r from by rw [HK2.out.1]; simp)
            have HYL := hidd (HXN.out y (by rw [HAL.out]; simp))
            have HM2 := hidd (show stepsF 1000 (decR w4 g i) = r.length from by rw [dec_row K4.out.1 HYL.out]; exact HST.out _ _ _ HAL.out)
            clear hnx
            gi_wp2_with fail
            go_roundw
            case rel => exact ⟨pre ++ [x], y, r, HAL.out, K4.out.2.2.2.2, ⟨C4, K4.out.1⟩, HYL.out, K4.out.2.1, K4.out.2.2.1, HG.out.1, HK2.out.2.2.2.2.2.2.2.1, K4.out.2.2.2.1⟩
            case measure => rw [HM2.out, HMU.out]; simp
        · have X3 := hidd hx3
          have HSZ := hidd (show D ≤ W3.heap.size from Nat.le_trans HK2.out.2.2.2.2.2.2.2.2 hk3.1)
          have HAL := hidd HK2.out.1
          clear hx3 hk3
          gi_wp2_with fail
          refine ⟨trivial, ?_⟩
          gi_wp2_with fail
          go_end0
          exact ⟨⟨_, rfl⟩, D, HDW.out, HSZ.out, .inr ⟨_, _, _, HAL.out, X3.out⟩⟩
end Go.Proofs.Ytidengcihakijaa
