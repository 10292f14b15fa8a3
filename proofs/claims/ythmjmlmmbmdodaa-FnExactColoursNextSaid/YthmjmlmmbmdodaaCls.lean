/- ReflectPart's model; ClassOfColour, the program and its model. -/
import Derived.Test.YthmjmlmmbmdodaaRfl
namespace Go.Proofs.Ythmjmlmmbmdodaa
set_option linter.unusedVariables false
set_option linter.unusedSimpArgs false
open Go Go.RowKit Go.Shelf
/-- A list under way: what has been laid, the list that is read. -/
def RelLa (zs : List Int) (a : Option Addr) (w : World) (xs : List Int) (v : Value) (wr : World) : Prop :=
  wr.ownsRow w.heap.size 2 1 v xs.length (icells xs) ∧ SlI wr a zs ∧ Below w.heap.size w wr
theorem RelLa.step {zs : List Int} {a : Option Addr} {w : World} {xs : List Int} {v : Value} {wr : World} (h : RelLa zs a w xs v wr) (hs : SlI w a zs) {y : Int} {o : Obj} {v' : Value} {w2 : World}
    (hown' : w2.ownsRow w.heap.size 2 1 v' (xs.length + 1) (icells xs ++ [.int .i64 y])) (hg : (wr.alloc o).grownBy w2 v.ownBlock) : RelLa zs a w (xs ++ [y]) v' w2 := by
  have hb := h.2.2.trans ((grown_step h.1 hg h.2.2.size).mono (Nat.le_refl _))
  refine ⟨?_, hs.below hb (Nat.le_refl _), hb⟩
  rw [icells_app, List.length_append]; exact hown'
theorem rev_take (zs : List Int) (p : Nat) (h : p < zs.length) : zs.reverse.take (zs.length - p) = zs.reverse.take (zs.length - (p + 1)) ++ [zs.getD p 0] := by
  obtain ⟨d, hd⟩ : ∃ d, d = zs.length - (p + 1) := ⟨_, rfl⟩
  rw [show zs.length - p = d + 1 by omega, ← hd, List.take_succ_eq_append_getElem (by simp; omega)]
  congr 2
  rw [List.getElem_reverse, List.getD_eq_getElem?_getD, List.getElem?_eq_getElem h, Option.getD_some]
  congr 1; omega
/-- The numbers up to j that have the colour c. -/
def clK (zs : List Int) (c : Int) : Nat → List Int
  | 0 => []
  | j + 1 => clK zs c j ++ (if (zs.getD j 0 == c) = true then [(j : Int) + 1] else [])
theorem clK_len (zs : List Int) (c : Int) : ∀ j, (clK zs c j).length ≤ j
  | 0 => by simp [clK]
  | j + 1 => by have := clK_len zs c j; simp only [clK, List.length_append]; split <;> simp <;> omega
def ccCode (k : Int) (zs : List Int) (c : Int) : Int := if partB k zs = true ∧ belowB c k = true then 0 else 2
def ccList (k : Int) (zs : List Int) (c : Int) : List Int := if partB k zs = true ∧ belowB c k = true then clK zs c zs.length else []
theorem cc_2 {k : Int} {zs : List Int} {c : Int} (h : ¬ (partB k zs = true ∧ belowB c k = true)) : ccList k zs c = [] ∧ ccCode k zs c = 2 := by simp only [ccList, ccCode, if_neg h, and_self]
theorem cc_0 {k : Int} {zs : List Int} {c : Int} (h : partB k zs = true ∧ belowB c k = true) : ccList k zs c = clK zs c zs.length ∧ ccCode k zs c = 0 := by simp only [ccList, ccCode, if_pos h, and_self]
theorem ccList_len {k : Int} {zs : List Int} {c : Int} : (ccList k zs c).length ≤ 1000 := by
  by_cases h : partB k zs = true ∧ belowB c k = true
  · have := partB_bd h.1; have := clK_len zs c zs.length; rw [(cc_0 h).1]; omega
  · rw [(cc_2 h).1]; simp
set_option maxRecDepth 100000 in
set_option maxHeartbeats 2000000 in
theorem spec29r (k : Int) (zs : List Int) (a : Option Addr) (cap : Nat) (w : World) (hs : SlI w a zs) (hl : zs.length ≤ 9223372036854775807) :
    Calls Try.prog 29 #[.int .i64 k, .slice a zs.length cap] w (LOut w (rpList k zs) (rpCode k zs)) := by
  have HSL := hidd hs
  clear hs
  cases hp : partB k zs with
  | false =>
    obtain ⟨e1, e2⟩ := rp_2 hp
    have HP := hidd (ptCode_p (kind := 0) hp)
    rw [e1, e2]
    clear hp e1 e2
    go_enter Try.func29, Try.ntmps29
    go_wp2_with (go_at_call 33; refine (code33 _ _ _ _ _ _ HSL.out hl).mono ?_; rintro e w' ⟨rfl, rfl⟩; rw [HP.out])
    go_ret2
    exact lout_nil rfl (Below.refl _ _)
  | true =>
    obtain ⟨e1, e2⟩ := rp_0 hp
    obtain ⟨k1, k2, hl40, _⟩ := partB_bd hp
    have HP := hidd (ptCode_0 (kind := 0) hp (by decide))
    rw [e1, e2]
    obtain ⟨t0, hi2, hz0, hz1, hz3⟩ := info_parts info2
    have HIF := hidd (And.intro hi2 (And.intro hz0 (And.intro hz1 hz3)))
    have HE := hidd (empty_own w)
    clear hp e1 e2 hi2 hz0 hz1 hz3
    go_enter Try.func29, Try.ntmps29
    go_wp2_with (go_at_call 33; refine (code33 _ _ _ _ _ _ HSL.out hl).mono ?_; rintro e w' ⟨rfl, rfl⟩; rw [HP.out])
    go_loopw [7, 8] (fun v i wr => ∃ (m : Nat) (e : Int), m ≤ zs.length ∧ i = .int .i64 e ∧ e + 1 = (m : Int) ∧ RelLa zs a w (zs.reverse.take (zs.length - m)) v wr) (fun _ i _ => (intOf i + 1).toNat)
    case atStart =>
      have hb := (Below.refl w.heap.size w).alloc (Nat.le_refl _) (.cells #[] 2)
      exact ⟨zs.length, (zs.length : Int) - 1, Nat.le_refl _, rfl, by omega, by rw [Nat.sub_self]; exact HE.out, HSL.out.below hb (Nat.le_refl _), hb⟩
    case round =>
      obtain ⟨m, e, hm, rfl, he, HR⟩ := hrel
      have HK := hidd HR
      clear HR
      match m, hm, he, HK with
      | 0, hm, he, HK =>
        obtain rfl : e = -1 := by omega
        have HQ := hidd HK.out
        rw [Nat.sub_zero, List.take_of_length_le (by simp)] at HQ
        clear HK
        go_wp2_with fail
        go_ret2
        obtain ⟨a', cap', rfl, ho⟩ := own_list (zs := zs.reverse) HQ.out.1
        exact ⟨a', cap', rfl, ho, HQ.out.2.2⟩
      | p + 1, hm, he, HK =>
        obtain rfl : e = (p : Int) := by omega
        have hplt : p < zs.length := by omega
        have HT := hidd (rev_take zs p hplt)
        rcases HK.out.2.1 with hz | ⟨b, off, rfl, hc⟩
        · subst hz; simp at hplt
        · have hcp := hc p hplt
          obtain ⟨y, hy⟩ : ∃ y, y = zs.getD p 0 := ⟨_, rfl⟩
          rw [← hy] at hcp
          have HY := hidd hy
          have hown := HK.out.1
          obtain ⟨xs, hxs⟩ : ∃ xs, xs = zs.reverse.take (zs.length - (p + 1)) := ⟨_, rfl⟩
          rw [← hxs] at hown HK HT
          rw [← hy] at HT
          have hlx : xs.length ≤ 40 := by rw [hxs]; simp; omega
          have hsz := HK.out.2.2.size
          have hp0 : (0 : Int) ≤ (p : Int) := by omega
          have hpI : (p : Int) < (zs.length : Int) := by omega
          clear hc hy hxs he

          go_wp2_with (at_builtin; refine wpList_append_own _ rfl _ _ 22 rfl w.heap.size 2 t0 (.int .i64 0) 1 8 Try.underlying22 HIF.out.1 HIF.out.2.1 HIF.out.2.2.1 HIF.out.2.2.2 rfl (by decide) _ _ _ rfl (hown.alloc _) ⟨wr.heap.size, 0, none⟩ 1 1 [.int .i64 y] rfl rfl ?c1 ?c2 ?c3 ?c4 ?c5 ?_)
          case c1 => exact one_new _ _ _
          case c2 => intro u hu; simp at hu; subst hu; rfl
          case c3 => unfold maxLen; omega
          case c4 => omega
          case c5 => simp; omega
          intro v' w2 hown' hgrow _

          have K3 := hidd (HK.out.step HSL.out hown' hgrow)
          rw [← HT.out] at K3
          clear hown' hgrow hown
          go_wp2
          go_roundw
          case rel => exact ⟨p, (p : Int) - 1, by omega, rfl, by omega, K3.out⟩
          case measure => simp [intOf]
set_option maxRecDepth 100000 in
set_option maxHeartbeats 2000000 in
theorem impl32c (k : Int) (zs : List Int) (c : Int) (a : Option Addr) (cap : Nat) (w : World) (hs : SlI w a zs) (hl : zs.length ≤ 9223372036854775807) :
    Calls Try.prog 32 #[.int .i64 k, .slice a zs.length cap, .int .i64 c] w (LOut w (ccList k zs c) (ccCode k zs c)) := by
  have HSL := hidd hs
  clear hs
  cases hp : partB k zs with
  | false =>
    obtain ⟨e1, e2⟩ := cc_2 (k := k) (zs := zs) (c := c) (by rw [hp]; simp)
    have HP := hidd (hp)
    rw [e1, e2]
    clear hp e1 e2
    go_enter Try.func32, Try.ntmps32
    go_wp2_with (go_at_call 43; refine (isPart43 _ _ _ _ _ HSL.out hl).mono ?_; rintro e w' ⟨rfl, rfl⟩; rw [HP.out])
    go_ret2
    exact lout_nil rfl (Below.refl _ _)
  | true =>
    obtain ⟨k1, k2, hl40, _⟩ := partB_bd hp
    have HP := hidd (hp)
    cases hc : belowB c k with
    | false =>
      obtain ⟨e1, e2⟩ := cc_2 (k := k) (zs := zs) (c := c) (by rw [hc]; simp)
      have HC := hidd (show belowB c k = false from hc)
      rw [e1, e2]
      clear hp hc e1 e2
      go_enter Try.func32, Try.ntmps32
      go_wp2_with (first
        | (go_at_call 43; refine (isPart43 _ _ _ _ _ HSL.out hl).mono ?_; rintro e w' ⟨rfl, rfl⟩; rw [HP.out])
        | (go_at_call 53; refine (below61 _ _ _).mono ?_; rintro e w' ⟨rfl, rfl⟩; rw [HC.out]))
      go_ret2
      exact lout_nil rfl (Below.refl _ _)
    | true =>
      obtain ⟨e1, e2⟩ := cc_0 ⟨hp, hc⟩
      have HC := hidd (show belowB c k = true from hc)
      rw [e1, e2]
      obtain ⟨t0, hi2, hz0, hz1, hz3⟩ := info_parts info2
      have HIF := hidd (And.intro hi2 (And.intro hz0 (And.intro hz1 hz3)))
      have HE := hidd (empty_own w)
      clear hp hc e1 e2 hi2 hz0 hz1 hz3
      go_enter Try.func32, Try.ntmps32
      go_wp2_with (first
        | (go_at_call 43; refine (isPart43 _ _ _ _ _ HSL.out hl).mono ?_; rintro e w' ⟨rfl, rfl⟩; rw [HP.out])
        | (go_at_call 53; refine (below61 _ _ _).mono ?_; rintro e w' ⟨rfl, rfl⟩; rw [HC.out]))
      go_loopw [8, 23] (fun v i wr => ∃ j : Nat, j ≤ zs.length ∧ i = .int .i64 j ∧ RelLa zs a w (clK zs c j) v wr) (fun _ i _ => zs.length - (intOf i).toNat)
      case atStart =>
        exact ⟨0, by omega, rfl, ⟨rfl, .inl ⟨rfl, rfl⟩⟩, HSL.out, Below.refl _ _⟩
      case round =>
        obtain ⟨j, hj, rfl, HR⟩ := hrel
        have HK := hidd HR
        clear HR
        by_cases hlt : j < zs.length
        · have HSN := hidd (show clK zs c (j + 1) = clK zs c j ++ (if (zs.getD j 0 == c) = true then [(j : Int) + 1] else []) from rfl)
          have hlx : (clK zs c j).length ≤ 40 := by have := clK_len zs c j; omega
          obtain ⟨xs, hxs⟩ : ∃ xs, xs = clK zs c j := ⟨_, rfl⟩
          rw [← hxs] at HK HSN hlx
          rcases HK.out.2.1 with hz | ⟨b, off, rfl, hcc⟩
          · subst hz; simp at hlt
          · have hcj := hcc j hlt
            obtain ⟨z, hz⟩ : ∃ z, z = zs.getD j 0 := ⟨_, rfl⟩
            rw [← hz] at hcj HSN
            have hsz := HK.out.2.2.size
            clear hcc hz hxs
            cases hq : (z == c) with
            | true =>
              have HS1 := hidd (show clK zs c (j + 1) = xs ++ [(j : Int) + 1] by rw [HSN.out, hq]; rfl)
              have hown := HK.out.1
              go_wp2_with (at_builtin; refine wpList_append_own _ rfl _ _ 22 rfl w.heap.size 2 t0 (.int .i64 0) 1 8 Try.underlying22 HIF.out.1 HIF.out.2.1 HIF.out.2.2.1 HIF.out.2.2.2 rfl (by decide) _ _ _ rfl (hown.alloc _) ⟨wr.heap.size, 0, none⟩ 1 1 [.int .i64 ((j : Int) + 1)] rfl rfl ?c1 ?c2 ?c3 ?c4 ?c5 ?_)
              case c1 => exact one_new _ _ _
              case c2 => intro u hu; simp at hu; subst hu; rfl
              case c3 => unfold maxLen; omega
              case c4 => omega
              case c5 => simp; omega
              intro v' w2 hown' hgrow _

              have K3 := hidd (HK.out.step HSL.out hown' hgrow)
              rw [← HS1.out] at K3
              clear hown' hgrow hown
              go_wp2
              go_roundw
              case rel => exact ⟨j + 1, by omega, by go_num, K3.out⟩
              case measure => simp [intOf]; omega
            | false =>
              have HS1 := hidd (show clK zs c (j + 1) = xs by rw [HSN.out, hq]; simp)
              go_wp2_with fail
              go_roundw
              case rel => exact ⟨j + 1, by omega, by go_num, by rw [HS1.out]; exact HK.out⟩
              case measure => simp [intOf]; omega
        · have hje : j = zs.length := by omega
          subst hje
          go_wp2_with fail
          go_ret2
          obtain ⟨a', cap', rfl, ho⟩ := own_list (zs := clK zs c zs.length) HK.out.1
          exact ⟨a', cap', rfl, ho, HK.out.2.2⟩
set_option maxRecDepth 100000 in
set_option maxHeartbeats 2000000 in
theorem spec31c (k : Int) (zs : List Int) (c : Int) (a : Option Addr) (cap : Nat) (w : World) (hs : SlI w a zs) (hl : zs.length ≤ 9223372036854775807) :
    Calls Try.prog 31 #[.int .i64 k, .slice a zs.length cap, .int .i64 c] w (LOut w (ccList k zs c) (ccCode k zs c)) := by
  have HSL := hidd hs
  clear hs
  cases hp : partB k zs with
  | false =>
    obtain ⟨e1, e2⟩ := cc_2 (k := k) (zs := zs) (c := c) (by rw [hp]; simp)
    have HP := hidd (ptCode_p (kind := 0) hp)
    rw [e1, e2]
    clear hp e1 e2
    go_enter Try.func31, Try.ntmps31
    go_wp2_with (go_at_call 33; refine (code33 _ _ _ _ _ _ HSL.out hl).mono ?_; rintro e w' ⟨rfl, rfl⟩; rw [HP.out])
    go_ret2
    exact lout_nil rfl (Below.refl _ _)
  | true =>
    obtain ⟨k1, k2, hl40, _⟩ := partB_bd hp
    have HP := hidd (ptCode_0 (kind := 0) hp (by decide))
    cases hc : belowB c k with
    | false =>
      obtain ⟨e1, e2⟩ := cc_2 (k := k) (zs := zs) (c := c) (by rw [hc]; simp)
      have HC := hidd (show inB c 0 (k - 1) = false from hc)
      rw [e1, e2]
      clear hp hc e1 e2
      go_enter Try.func31, Try.ntmps31
      go_wp2_with (first
        | (go_at_call 33; refine (code33 _ _ _ _ _ _ HSL.out hl).mono ?_; rintro e w' ⟨rfl, rfl⟩; rw [HP.out])
        | (go_at_call 52; refine (in49 _ _ _ _).mono ?_; rintro e w' ⟨rfl, rfl⟩; rw [HC.out]))
      go_ret2
      exact lout_nil rfl (Below.refl _ _)
    | true =>
      obtain ⟨e1, e2⟩ := cc_0 ⟨hp, hc⟩
      have HC := hidd (show inB c 0 (k - 1) = true from hc)
      rw [e1, e2]
      obtain ⟨t0, hi2, hz0, hz1, hz3⟩ := info_parts info2
      have HIF := hidd (And.intro hi2 (And.intro hz0 (And.intro hz1 hz3)))
      have HE := hidd (empty_own w)
      clear hp hc e1 e2 hi2 hz0 hz1 hz3
      go_enter Try.func31, Try.ntmps31
      go_wp2_with (first
        | (go_at_call 33; refine (code33 _ _ _ _ _ _ HSL.out hl).mono ?_; rintro e w' ⟨rfl, rfl⟩; rw [HP.out])
        | (go_at_call 52; refine (in49 _ _ _ _).mono ?_; rintro e w' ⟨rfl, rfl⟩; rw [HC.out]))
      go_loopw [8, 9] (fun v i wr => ∃ j : Nat, j ≤ zs.length ∧ i = .int .i64 j ∧ RelLa zs a w (clK zs c j) v wr) (fun _ i _ => zs.length - (intOf i).toNat)
      case atStart =>
        have hb := (Below.refl w.heap.size w).alloc (Nat.le_refl _) (.cells #[] 2)
        exact ⟨0, by omega, rfl, HE.out, HSL.out.below hb (Nat.le_refl _), hb⟩
      case round =>
        obtain ⟨j, hj, rfl, HR⟩ := hrel
        have HK := hidd HR
        clear HR
        by_cases hlt : j < zs.length
        · have HSN := hidd (show clK zs c (j + 1) = clK zs c j ++ (if (zs.getD j 0 == c) = true then [(j : Int) + 1] else []) from rfl)
          have hlx : (clK zs c j).length ≤ 40 := by have := clK_len zs c j; omega
          obtain ⟨xs, hxs⟩ : ∃ xs, xs = clK zs c j := ⟨_, rfl⟩
          rw [← hxs] at HK HSN hlx
          rcases HK.out.2.1 with hz | ⟨b, off, rfl, hcc⟩
          · subst hz; simp at hlt
          · have hcj := hcc j hlt
            obtain ⟨z, hz⟩ : ∃ z, z = zs.getD j 0 := ⟨_, rfl⟩
            rw [← hz] at hcj HSN
            have hsz := HK.out.2.2.size
            clear hcc hz hxs
            cases hq : (z == c) with
            | true =>
              have HS1 := hidd (show clK zs c (j + 1) = xs ++ [(j : Int) + 1] by rw [HSN.out, hq]; rfl)
              have hown := HK.out.1
              go_wp2_with (at_builtin; refine wpList_append_own _ rfl _ _ 22 rfl w.heap.size 2 t0 (.int .i64 0) 1 8 Try.underlying22 HIF.out.1 HIF.out.2.1 HIF.out.2.2.1 HIF.out.2.2.2 rfl (by decide) _ _ _ rfl (hown.alloc _) ⟨wr.heap.size, 0, none⟩ 1 1 [.int .i64 ((j : Int) + 1)] rfl rfl ?c1 ?c2 ?c3 ?c4 ?c5 ?_)
              case c1 => exact one_new _ _ _
              case c2 => intro u hu; simp at hu; subst hu; rfl
              case c3 => unfold maxLen; omega
              case c4 => omega
              case c5 => simp; omega
              intro v' w2 hown' hgrow _

              have K3 := hidd (HK.out.step HSL.out hown' hgrow)
              rw [← HS1.out] at K3
              clear hown' hgrow hown
              go_wp2
              go_roundw
              case rel => exact ⟨j + 1, by omega, by go_num, K3.out⟩
              case measure => simp [intOf]; omega
            | false =>
              have HS1 := hidd (show clK zs c (j + 1) = xs by rw [HSN.out, hq]; simp)
              go_wp2_with fail
              go_roundw
              case rel => exact ⟨j + 1, by omega, by go_num, by rw [HS1.out]; exact HK.out⟩
              case measure => simp [intOf]; omega
        · have hje : j = zs.length := by omega
          subst hje
          go_wp2_with fail
          go_ret2
          obtain ⟨a', cap', rfl, ho⟩ := own_list (zs := clK zs c zs.length) HK.out.1
          exact ⟨a', cap', rfl, ho, HK.out.2.2⟩
end Go.Proofs.Ythmjmlmmbmdodaa