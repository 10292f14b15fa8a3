/- Free edges: the model's list of them. -/
import Derived.Test.YteclbaalejondaaMov
namespace Go.Proofs.Yteclbaalejondaa
set_option linter.unusedVariables false
set_option linter.unusedSimpArgs false
open Go Go.RowKit Go.Shelf
def LOne (w : World) (zs : List Int) (e : Ending) (w' : World) : Prop :=
  ∃ a cap, e = .returned (.slice a zs.length cap) ∧ OwnL w' w.heap.size a zs ∧ Below w.heap.size w w'
/-- A list under way: what has been laid, the list that is read. -/
def RelLa (zs : List Int) (a : Option Addr) (w : World) (xs : List Int) (v : Value) (wr : World) : Prop :=
  wr.ownsRow w.heap.size 2 1 v xs.length (icells xs) ∧ SlI wr a zs ∧ Below w.heap.size w wr
theorem RelLa.step {zs : List Int} {a : Option Addr} {w : World} {xs : List Int} {v : Value} {wr : World} (h : RelLa zs a w xs v wr) (hs : SlI w a zs) {y : Int} {o : Obj} {v' : Value} {w2 : World}
    (hown' : w2.ownsRow w.heap.size 2 1 v' (xs.length + 1) (icells xs ++ [.int .i64 y])) (hg : (wr.alloc o).grownBy w2 v.ownBlock) : RelLa zs a w (xs ++ [y]) v' w2 := by
  have hb := h.2.2.trans ((grown_step h.1 hg h.2.2.size).mono (Nat.le_refl _))
  refine ⟨?_, hs.below hb (Nat.le_refl _), hb⟩
  rw [icells_app, List.length_append]; exact hown'
theorem empty_own (w : World) : (w.alloc (.cells #[] 2)).ownsRow w.heap.size 2 1 (.slice (some ⟨w.heap.size, 0, none⟩) 0 0) 0 (icells []) :=
  ⟨rfl, .inr ⟨w.heap.size, 0, #[], rfl, Nat.le_refl _, Blk.new _ _ _ _ rfl, Nat.le_refl _, by simp [maxLen], rfl, rfl⟩⟩
/-- Is the edge j free? -/
def frB (zs : List Int) (j : Nat) : Bool := decide (zs.getD j 0 < 0)
theorem nbK_put {p : Nat → Bool} {k : Nat} (h : p k = true) : nbK p (k + 1) = nbK p k ++ [(k : Int)] := by rw [nbK, if_pos h]
theorem nbK_not {p : Nat → Bool} {k : Nat} (h : p k = false) : nbK p (k + 1) = nbK p k := by rw [nbK, if_neg (by simp [h])]
set_option maxRecDepth 100000 in
set_option maxHeartbeats 2000000 in
theorem free56 (zs : List Int) (a : Option Addr) (cap : Nat) (w : World) (hs : SlI w a zs) (hl : zs.length ≤ 10) :
    Calls Try.prog 56 #[.slice a zs.length cap] w (LOne w (nbK (frB zs) zs.length)) := by
  have HSL := hidd hs
  obtain ⟨t0, hi2, hz0, hz1, hz3⟩ := info_parts info2
  have HIF := hidd (And.intro hi2 (And.intro hz0 (And.intro hz1 hz3)))
  have HE := hidd (empty_own w)
  clear hs hi2 hz0 hz1 hz3
  go_enter Try.func56, Try.ntmps56
  go_wp2_with fail
  go_loopw [3, 4] (fun v i wr => ∃ j : Nat, j ≤ zs.length ∧ i = .int .i64 j ∧ RelLa zs a w (nbK (frB zs) j) v wr) (fun _ i _ => zs.length - (intOf i).toNat)
  case atStart =>
    have hb := (Below.refl w.heap.size w).alloc (Nat.le_refl _) (.cells #[] 2)
    exact ⟨0, by omega, rfl, HE.out, HSL.out.below hb (Nat.le_refl _), hb⟩
  case round =>
    obtain ⟨j, hj, rfl, HR⟩ := hrel
    have HK := hidd HR
    clear HR
    by_cases hlt : j < zs.length
    · have hlx : (nbK (frB zs) j).length ≤ 40 := by have := nbK_len (frB zs) j; omega
      rcases HK.out.2.1 with hz | ⟨b, off, rfl, hcc⟩
      · subst hz; simp at hlt
      · have hcj := hcc j hlt
        have HQ := hidd (show frB zs j = decide (zs.getD j 0 < 0) from rfl)
        obtain ⟨z, hz⟩ : ∃ z, z = zs.getD j 0 := ⟨_, rfl⟩
        rw [← hz] at hcj HQ
        have hsz := HK.out.2.2.size
        clear hcc hz
        by_cases hq : z < 0
        · have HS1 := hidd (nbK_put (p := frB zs) (k := j) (by rw [HQ.out]; simpa using hq))
          obtain ⟨xs, hxs⟩ : ∃ xs, xs = nbK (frB zs) j := ⟨_, rfl⟩
          rw [← hxs] at HK HS1 hlx
          have hown := HK.out.1
          have hd : decide (z < 0) = true := by simpa using hq
          clear hxs
          go_wp2_with (at_builtin; refine wpList_append_own _ rfl _ _ 22 rfl w.heap.size 2 t0 (.int .i64 0) 1 8 Try.underlying22 HIF.out.1 HIF.out.2.1 HIF.out.2.2.1 HIF.out.2.2.2 rfl (by decide) _ _ _ rfl (hown.alloc _) ⟨wr.heap.size, 0, none⟩ 1 1 [.int .i64 (j : Int)] rfl rfl ?c1 ?c2 ?c3 ?c4 ?c5 ?_)
          case c1 => exact one_new _ _ _
          case c2 => intro u hu; simp at hu; subst hu; rfl
          case c3 => unfold maxLen; omega
          case c4 => omega
          case c5 => simp; omega
          intro v' w2 hown' hgrow _

          have K3 := hidd (HK.out.step HSL.out hown' hgrow)
          rw [← HS1.out] at K3
          clear hown' hgrow hown
          go_wp2
          go_roundw
          case rel => exact ⟨j + 1, by omega, by go_num, K3.out⟩
          case measure => simp [intOf]; omega
        · have HS1 := hidd (nbK_not (p := frB zs) (k := j) (by rw [HQ.out]; simpa using hq))
          have hd : decide (z < 0) = false := by simpa using hq
          go_wp2_with fail
          go_roundw
          case rel => exact ⟨j + 1, by omega, by go_num, by rw [HS1.out]; exact HK.out⟩
          case measure => simp [intOf]; omega
    · have hje : j = zs.length := by omega
      subst hje
      go_wp2_with fail
      go_ret
      obtain ⟨a', cap', rfl, ho⟩ := own_list (zs := nbK (frB zs) zs.length) HK.out.1
      exact ⟨a', cap', rfl, ho, HK.out.2.2⟩
/-- Free edges and both players' make up all. -/
theorem free_cnt {zs : List Int} (h : allW zs = true) : ∀ k, k ≤ zs.length → (nbK (frB zs) k).length + cnt (pw 0 zs) k + cnt (pw 1 zs) k = k
  | 0, _ => by simp [nbK, cnt]
  | k + 1, hk => by
    have ih := free_cnt h k (by omega)
    have hz := allW_get h (show k < zs.length by omega)
    rcases (show zs.getD k 0 = -1 ∨ zs.getD k 0 = 0 ∨ zs.getD k 0 = 1 by omega) with e | e | e
    · rw [nbK_put (show frB zs k = true by unfold frB; rw [e]; rfl), cnt_not (by rw [e]; decide), cnt_not (by rw [e]; decide), List.length_append]; simp; omega
    · rw [nbK_not (show frB zs k = false by unfold frB; rw [e]; rfl), cnt_put e, cnt_not (by rw [e]; decide)]; omega
    · rw [nbK_not (show frB zs k = false by unfold frB; rw [e]; rfl), cnt_not (by rw [e]; decide), cnt_put e]; omega
/-- Who wins: 2 if nobody does, -1 if it is not over. -/
def rsl (N : Nat) (zs : List Int) : Int := if (triK (1 - mvr zs) zs N).isEmpty = true then (if (nbK (frB zs) zs.length).isEmpty = true then 2 else -1) else mvr zs
theorem rsl_m {N : Nat} {zs : List Int} (h : (triK (1 - mvr zs) zs N).isEmpty = false) : rsl N zs = mvr zs := by unfold rsl; rw [if_neg (by simp [h])]
theorem rsl_2 {N : Nat} {zs : List Int} (h : (triK (1 - mvr zs) zs N).isEmpty = true) (h2 : (nbK (frB zs) zs.length).isEmpty = true) : rsl N zs = 2 := by unfold rsl; rw [if_pos h, if_pos h2]
theorem rsl_n {N : Nat} {zs : List Int} (h : (triK (1 - mvr zs) zs N).isEmpty = true) (h2 : (nbK (frB zs) zs.length).isEmpty = false) : rsl N zs = -1 := by unfold rsl; rw [if_pos h, if_neg (by simp [h2])]
theorem len_pos {l : List Nat} (h : l.isEmpty = false) : 0 < l.length := by
  cases l with
  | nil => cases h
  | cons x l => simp
theorem len_nil {l : List Nat} (h : l.isEmpty = true) : l.length = 0 := by
  cases l with
  | nil => rfl
  | cons x l => cases h
theorem len_zero (l : List Int) : ((l.length : Int) == 0) = l.isEmpty := by
  cases l with
  | nil => rfl
  | cons x l => rw [List.isEmpty_cons, List.length_cons, beq_eq_false_iff_ne]; omega
set_option maxRecDepth 100000 in
set_option maxHeartbeats 2000000 in
theorem result34 (N : Nat) (zs : List Int) (a : Option Addr) (cap : Nat) (w : World) (hs : SlI w a zs) (hN1 : 1 ≤ N) (hN : N ≤ 5) (hlen : zs.length = eN N) (hm : mvr zs = 0 ∨ mvr zs = 1) :
    Calls Try.prog 34 #[.int .i64 (N : Int), .slice a zs.length cap] w fun e w' => e = .returned (.int .i64 (rsl N zs)) ∧ Below w.heap.size w w' := by
  have hl10 : zs.length ≤ 10 := by rw [hlen]; exact Nat.le_trans (eN_mono hN) (by decide)
  have HM := hidd (mover32 zs a cap w hs hl10)
  have HC := hidd (common39 N (1 - mvr zs) zs a cap w hs hN1 hN hlen)
  have HF := hidd (free56 zs a cap w hs hl10)
  have hw1 : IntKind.i64.wrap (1 - mvr zs) = 1 - mvr zs := IntWalk.i64_in _ (by omega)
  cases q : (triK (1 - mvr zs) zs N).isEmpty with
  | false =>
    have H := hidd (rsl_m q)
    have hp := len_pos q
    generalize (triK (1 - mvr zs) zs N).length = L at *
    generalize cmL (2 ^ eN N - 1) (triK (1 - mvr zs) zs N) = C at *
    clear q hlen hs hm
    generalize mvr zs = m at *
    go_enter Try.func34, Try.ntmps34
    go_wp2_with fail
    refine HM.out.mono ?_
    rintro e w' ⟨rfl, rfl⟩
    go_wp2_with fail
    refine HC.out.mono ?_
    rintro e w' ⟨rfl, rfl⟩
    go_wp2_with fail
    go_ret
    exact ⟨by rw [H.out]; rfl, Below.refl _ _⟩
  | true =>
    have hz := len_zero (nbK (frB zs) zs.length)
    have hp := len_nil q
    cases f : (nbK (frB zs) zs.length).isEmpty with
    | true =>
      have H := hidd (rsl_2 q f)
      rw [f] at hz
      rw [hp] at HC
      clear hp
      generalize cmL (2 ^ eN N - 1) (triK (1 - mvr zs) zs N) = C at *
      generalize nbK (frB zs) zs.length = ff at *
      clear q hlen hs hm
      generalize mvr zs = m at *
      go_enter Try.func34, Try.ntmps34
      go_wp2_with fail
      refine HM.out.mono ?_
      rintro e w' ⟨rfl, rfl⟩
      go_wp2_with fail
      refine HC.out.mono ?_
      rintro e w' ⟨rfl, rfl⟩
      go_wp2_with fail
      refine HF.out.mono ?_
      rintro e w2 ⟨a2, cap2, rfl, ho, hb⟩
      have HB := hidd hb
      clear hb ho
      go_wp2_with fail
      go_ret
      exact ⟨by rw [H.out]; rfl, HB.out⟩
    | false =>
      have H := hidd (rsl_n q f)
      rw [f] at hz
      rw [hp] at HC
      clear hp
      generalize cmL (2 ^ eN N - 1) (triK (1 - mvr zs) zs N) = C at *
      generalize nbK (frB zs) zs.length = ff at *
      clear q hlen hs hm
      generalize mvr zs = m at *
      go_enter Try.func34, Try.ntmps34
      go_wp2_with fail
      refine HM.out.mono ?_
      rintro e w' ⟨rfl, rfl⟩
      go_wp2_with fail
      refine HC.out.mono ?_
      rintro e w' ⟨rfl, rfl⟩
      go_wp2_with fail
      refine HF.out.mono ?_
      rintro e w2 ⟨a2, cap2, rfl, ho, hb⟩
      have HB := hidd hb
      clear hb ho
      go_wp2_with fail
      go_ret
      exact ⟨by rw [H.out]; rfl, HB.out⟩
end Go.Proofs.Yteclbaalejondaa
