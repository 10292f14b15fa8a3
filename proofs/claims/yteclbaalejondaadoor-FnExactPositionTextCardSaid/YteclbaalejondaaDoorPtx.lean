/- positionText: the program. -/
import Derived.Test.YteclbaalejondaaDoorApn
namespace Go.Proofs.YteclbaalejondaaDoor
set_option linter.unusedVariables false
set_option linter.unusedSimpArgs false
open Go Go.RowKit
/-- A text under way: what has been laid, the list that is read. -/
def RelTx (zs : List Int) (a : Option Addr) (w : World) (bs : List Int) (v : Value) (wr : World) : Prop :=
  wr.ownsRow w.heap.size 5 1 v bs.length (bI bs) ∧ SlI wr a zs ∧ Below w.heap.size w wr
theorem RelTx.step {zs : List Int} {a : Option Addr} {w : World} {bs : List Int} {v : Value} {wr : World} (h : RelTx zs a w bs v wr) (hs : SlI w a zs) {y : Int} {o : Obj} {v' : Value} {w2 : World}
    (hown' : w2.ownsRow w.heap.size 5 1 v' (bs.length + 1) (bI bs ++ [.int .u8 y])) (hg : (wr.alloc o).grownBy w2 v.ownBlock) : RelTx zs a w (bs ++ [y]) v' w2 := by
  have hb := h.2.2.trans ((grown_step h.1 hg h.2.2.size).mono (Nat.le_refl _))
  refine ⟨?_, hs.below hb (Nat.le_refl _), hb⟩
  rw [bI_app, List.length_append]; exact hown'
set_option maxRecDepth 100000 in
set_option maxHeartbeats 4000000 in
theorem ptext11 (n : Int) (zs : List Int) (n1 : 1 ≤ n) (n5 : n ≤ 5) (hl10 : zs.length ≤ 10) (hall : allW zs = true) (a : Option Addr) (cap : Nat) (w : World) (hs : SlI w a zs) :
    Calls Tryd.prog 11 #[.int .i64 n, .slice a zs.length cap] w fun e w' => e = .returned (.string (strOfNums (txK n zs zs.length))) ∧ Below w.heap.size w w' := by
  have HA := hidd (appi17 n n1 n5 w)
  have HS := hidd hs
  have HW := hidd hall
  obtain ⟨t0, hi2, hz0, hz1, hz3⟩ := info_parts info5
  have HIF := hidd (And.intro hi2 (And.intro hz0 (And.intro hz1 hz3)))
  clear hi2 hz0 hz1 hz3 hs hall
  go_enter Tryd.func11, Tryd.ntmps11
  go_wp2_with fail
  refine HA.out.mono ?_
  rintro e w1 ⟨v, rfl, ho, hb⟩
  have HR0 := hidd (show RelTx zs a w [48 + n] v w1 from ⟨ho, HS.out.below hb (Nat.le_refl _), hb⟩)
  have hown := ho
  have hsz := hb.size
  clear hb ho
  go_wp2_with (at_builtin; refine wpList_append_own _ rfl _ _ 42 rfl w.heap.size 5 t0 (.int .u8 0) 1 1 Tryd.underlying42 HIF.out.1 HIF.out.2.1 HIF.out.2.2.1 HIF.out.2.2.2 rfl (by decide) _ _ _ rfl (hown.alloc _) ⟨w1.heap.size, 0, none⟩ 1 1 [.int .u8 58] rfl rfl ?c1 ?c2 ?c3 ?c4 ?c5 ?_)
  case c1 => exact one_new _ _ _
  case c2 => intro u hu; simp at hu; subst hu; rfl
  case c3 => unfold maxLen; simp
  case c4 => simp
  case c5 => simp; omega
  intro v' w2 hown' hgrow _

  have K2 := hidd (show RelTx zs a w (txK n zs 0) v' w2 from HR0.out.step HS.out hown' hgrow)
  clear hown' hgrow hown hsz
  go_wp2_with fail
  go_loopw [5, 7, 15] (fun v x i wr => ∃ j : Nat, j ≤ zs.length ∧ i = .int .i64 j ∧ Hid (RelTx zs a w (txK n zs j) v wr)) (fun _ _ i _ => zs.length - (intOf i).toNat)
  case atStart => exact ⟨0, by omega, rfl, K2⟩
  case round =>
    obtain ⟨j, hj, rfl, HK⟩ := hrel
    by_cases hlt : j < zs.length
    · rcases HK.out.2.1 with hz | ⟨b, off, rfl, hc⟩
      · subst hz; simp at hlt
      · have hcj := hc j hlt
        have hzb := allW_get HW.out hlt
        have HT := hidd (show txK n zs (j + 1) = txK n zs j ++ [sgn (zs.getD j 0)] from rfl)
        obtain ⟨z, hz⟩ : ∃ z, z = zs.getD j 0 := ⟨_, rfl⟩
        rw [← hz] at hcj hzb HT
        have hTl := txK_len n zs j
        obtain ⟨T, hT⟩ : ∃ T, T = txK n zs j := ⟨_, rfl⟩
        rw [← hT] at hTl HT HK
        have hown := HK.out.1
        have hsz := HK.out.2.2.size
        have hT12 : T.length ≤ 12 := by omega
        clear hz hc hT hTl
        rcases (show z = -1 ∨ z = 0 ∨ z = 1 by omega) with rfl | rfl | rfl
        · go_wp2_with (at_builtin; refine wpList_append_own _ rfl _ _ 42 rfl w.heap.size 5 t0 (.int .u8 0) 1 1 Tryd.underlying42 HIF.out.1 HIF.out.2.1 HIF.out.2.2.1 HIF.out.2.2.2 rfl (by decide) _ _ _ rfl (hown.alloc _) ⟨wr.heap.size, 0, none⟩ 1 1 [.int .u8 46] rfl rfl ?c1 ?c2 ?c3 ?c4 ?c5 ?_)
          case c1 => exact one_new _ _ _
          case c2 => intro u hu; simp at hu; subst hu; rfl
          case c3 => unfold maxLen; omega
          case c4 => omega
          case c5 => simp; omega
          intro v' w4 hown' hgrow _

          have K3 := hidd (HK.out.step HS.out hown' hgrow)
          clear hown' hgrow hown
          go_wp2
          go_roundw
          case rel => exact ⟨j + 1, by omega, by go_num, by rw [HT.out]; exact K3⟩
          case measure => simp [intOf]; omega
        · go_wp2_with (at_builtin; refine wpList_append_own _ rfl _ _ 42 rfl w.heap.size 5 t0 (.int .u8 0) 1 1 Tryd.underlying42 HIF.out.1 HIF.out.2.1 HIF.out.2.2.1 HIF.out.2.2.2 rfl (by decide) _ _ _ rfl (hown.alloc _) ⟨wr.heap.size, 0, none⟩ 1 1 [.int .u8 48] rfl rfl ?c1 ?c2 ?c3 ?c4 ?c5 ?_)
          case c1 => exact one_new _ _ _
          case c2 => intro u hu; simp at hu; subst hu; rfl
          case c3 => unfold maxLen; omega
          case c4 => omega
          case c5 => simp; omega
          intro v' w4 hown' hgrow _

          have K3 := hidd (HK.out.step HS.out hown' hgrow)
          clear hown' hgrow hown
          go_wp2
          go_roundw
          case rel => exact ⟨j + 1, by omega, by go_num, by rw [HT.out]; exact K3⟩
          case measure => simp [intOf]; omega
        · go_wp2_with (at_builtin; refine wpList_append_own _ rfl _ _ 42 rfl w.heap.size 5 t0 (.int .u8 0) 1 1 Tryd.underlying42 HIF.out.1 HIF.out.2.1 HIF.out.2.2.1 HIF.out.2.2.2 rfl (by decide) _ _ _ rfl (hown.alloc _) ⟨wr.heap.size, 0, none⟩ 1 1 [.int .u8 49] rfl rfl ?c1 ?c2 ?c3 ?c4 ?c5 ?_)
          case c1 => exact one_new _ _ _
          case c2 => intro u hu; simp at hu; subst hu; rfl
          case c3 => unfold maxLen; omega
          case c4 => omega
          case c5 => simp; omega
          intro v' w4 hown' hgrow _

          have K3 := hidd (HK.out.step HS.out hown' hgrow)
          clear hown' hgrow hown
          go_wp2
          go_roundw
          case rel => exact ⟨j + 1, by omega, by go_num, by rw [HT.out]; exact K3⟩
          case measure => simp [intOf]; omega
    · have hje : j = zs.length := by omega
      subst hje
      have hTl := txK_len n zs zs.length
      obtain ⟨T, hT⟩ : ∃ T, T = txK n zs zs.length := ⟨_, rfl⟩
      rw [← hT] at hTl HK
      have HTT := hidd hT
      have hown := HK.out.1
      rcases hown.2 with ⟨rfl, h0⟩ | ⟨g, c, cur, rfl, hBg, hblk, hcn, hx1, hx2, hx3⟩
      · omega
      · have hcell : ∀ i, i < T.length → wr.cell? ⟨g, 0 + i, none⟩ = some (.int .u8 (T.getD i 0)) := fun i hi => by
          have h1 : (cur.toList.take (T.length * 1))[i]? = (bI T)[i]? := by rw [hx3]
          rw [List.getElem?_take, if_pos (by omega)] at h1
          rw [Nat.zero_add, cell_of_row wr g i cur 5 (0, 0) hblk, ← Array.getElem?_toList, h1]
          simp [bI, List.getD, hi]
        have hcv := run_convert_bytes_arg (P := Tryd.prog) wr 42 5 Tryd.underlying42 Tryd.underlying5 g 0 T.length c T rfl hcell 9 Tryd.underlying9
        have HB := hidd HK.out.2.2
        clear hcell hown hx1 hx2 hx3 hT hTl hcn
        go_wp2
        go_ret
        exact ⟨by rw [← HTT.out]; rfl, HB.out⟩
end Go.Proofs.YteclbaalejondaaDoor
